import Derived.Lib.LazyBuf
import Derived.Test.YtpmmdkcfenjiaaaGreatDoorVao
import Derived.Test.YtpmmdkcfenjiaaaGreatDoorVaf
set_option maxRecDepth 100000
set_option maxHeartbeats 4000000
namespace Go.Proofs.YtpmmdkcfenjiaaaGreatDoor
open Go.RowKit
open Tr (Fo Nd)
def Tr.cJ (F:Fo):Nat->Nat->Prop
 |0,n=>n<40/\(F.nd n).up=n
 |m+1,n=>n<40/\((F.nd n).up=n\/Tr.cJ F m (F.nd n).up)
def Tr.fO (F:Fo)(o:Nat):Nat->Nat->Bool
 |0,n=>n==o
 |m+1,n=>n==o||(!((F.nd n).up==n)&&Tr.fO F o m (F.nd n).up)
def Tr.pQ (F:Fo):Nat->Nat->Nat
 |0,_=>0
 |m+1,n=>if(F.nd n).up=n then 0 else 1+Tr.pQ F m (F.nd n).up
theorem Tr.cJ.lt {F:Fo}{n m:Nat}(h:Tr.cJ F m n):n<40:=by cases m<;>exact h.1
theorem Tr.cJ.more {F:Fo}: ∀{m n:Nat},Tr.cJ F m n->Tr.cJ F (m+1) n/\Tr.pQ F (m+1) n=Tr.pQ F m n/\ ∀o,Tr.fO F o (m+1) n=Tr.fO F o m n
 |0,n,h=>⟨⟨h.1, .inl h.2⟩,aJ h.2,fun o=>by
  show(n==o||(!((F.nd n).up==n)&&_))=(n==o);rw[h.2];simp⟩
 |m+1,n,⟨h1,h2⟩=>by
  by_cases c:(F.nd n).up=n
  ·refine⟨⟨h1, .inl c⟩,?_,fun o=>?_⟩
   ·unfold Tr.pQ;rw[aJ c,aJ c]
   ·unfold Tr.fO;simp[c]
  ·rcases h2 with h2|h2
   ·exact aZ h2 c
   ·obtain⟨a1,a2,a3⟩:=Tr.cJ.more h2;refine⟨⟨h1, .inr a1⟩,?_,fun o=>?_⟩
    ·show(if _ then 0 else 1+Tr.pQ F (m+1) _)=(if _ then 0 else 1+Tr.pQ F m _);rw[a2]
    ·show(n==o||(!((F.nd n).up==n)&&Tr.fO F o (m+1) (F.nd n).up))=(n==o||(!((F.nd n).up==n)&&Tr.fO F o m (F.nd n).up));rw[a3]
theorem Tr.cJ.step {F:Fo}{m n:Nat}(h:Tr.cJ F m n)(c:(F.nd n).up≠n):Tr.cJ F m (F.nd n).up/\Tr.pQ F m (F.nd n).up<Tr.pQ F m n/\ ∀o,n≠o->Tr.fO F o m n=Tr.fO F o m (F.nd n).up:=by
 cases m with
 |zero=>exact aZ h.2 c
 |succ m=>
  rcases h.2 with h2|h2
  ·exact aZ h2 c
  ·obtain⟨a1,a2,a3⟩:=h2.more;refine⟨a1,?_,fun o ho=>?_⟩
   ·rw[a2];show _<(if _ then 0 else 1+Tr.pQ F m _);rw[aI c];omega
   ·rw[a3];show(n==o||(!((F.nd n).up==n)&&Tr.fO F o m (F.nd n).up))=_;rw[show(n==o)=false from by simpa using ho,show((F.nd n).up==n)=false from by simpa using c];rfl
theorem Tr.po (F:Fo)(m n:Nat):Tr.fO F n m n=true:=by cases m<;>simp[Tr.fO]
theorem Tr.GV {F:Fo}(m:Nat){n o:Nat}(c:(F.nd n).up=n)(h:n≠o):Tr.fO F o m n=false:=by cases m<;>simp[Tr.fO,c,h]
theorem Ek (b n o m:Nat)(F:Fo)(w:bD)(h:ar w b F)(he:Tr.cJ F m n):
  Calls Tryz.prog 255 #[.pointer (some ⟨b,0,none⟩), .int .i64 (n:Int), .int .i64 (o:Int)] w fun e w'=>e= .returned (.bool (Tr.fO F o m n))/\w'=w:=by
 have HF:=hZ h;have HE:=hZ he;clear h he;go_in
 go_wp2_with fail
 go_loopw [1] (fun i wr=> ∃(y:Nat),i= .int .i64 y/\Hid (Tr.cJ F m y/\Tr.fO F o m n=Tr.fO F o m y)/\wr=w) (fun i _=>Tr.pQ F m (intOf i).toNat)
 case atStart=>exact⟨n,rfl,hZ ⟨HE.out,rfl⟩,rfl⟩
 case round=>
  obtain⟨y,rfl,R,hwr⟩:=hrel;subst wr;have y40:=R.out.1.lt;have yI:(y:Int)<40:=by omega
  by_cases c:y=o
  ·subst c;have FIN:Hid (Tr.fO F y m n=true):=hZ (by rw[R.out.2];exact Tr.po F m y);go_wp2
   go_ret
   exact⟨by rw[FIN.out];simp,rfl⟩
  ·have c1:((y:Int)==(o:Int))=false:=by simp;omega
   have c2: ¬(y:Int)=(o:Int):=by omega
   have c3:((y:Int) !=(o:Int))=true:=by simp;omega
   have c0:=HF.out.P3 y y40;by_cases d:(F.nd y).up=y
   ·rw[d]at c0;have FIN:Hid (Tr.fO F o m n=false):=hZ (by rw[R.out.2];exact Tr.GV m d c);clear d;go_wp2
    go_ret
    exact⟨by rw[FIN.out];simp,rfl⟩
   ·have NX:=hZ (R.out.1.step d);obtain⟨u,hu⟩:=nJ ((F.nd y).up);rw[hu]at c0 NX d;have d2: ¬(y:Int)=(u:Int):=by omega
    have d3:((y:Int) !=(u:Int))=true:=by simp;omega
    clear hu d;go_wp2
    go_roundw
    case rel=>exact⟨u,rfl,hZ ⟨NX.out.1,R.out.2.trans (NX.out.2.2 o c)⟩,by first|rfl|trivial⟩
    case measure=>simp[intOf];exact NX.out.2.1
def Tr.DY (F:Fo):Prop:= ∀n,n<40->(F.nd n).kind=2-> ∀i,i<(F.nd n).size->(F.nd n).bO i<40/\1<=(F.nd ((F.nd n).bO i)).bE/\(F.nd ((F.nd n).bO i)).bE<2^60
def Tr.uS (F:Fo)(n i k:Nat):Fo:=
 Tr.kV ((F.put n (Tr.dJ (F.nd n) i)).put k {(F.put n (Tr.dJ (F.nd n) i)).nd k with bE:=(F.nd k).bE-1}) k
def Tr.wX (F:Fo)(z:Int)(s:bU)(E:Int)(G:Fo):Prop:=
 ∃K e,Tr.jL F z s K e/\((e≠0/\E=e/\G=F)\/(e=0/\(((F.nd K).kind=2/\(0<(F.nd K).size\/0<(F.nd K).held)/\E=5/\G=F)\/(¬((F.nd K).kind=2/\(0<(F.nd K).size\/0<(F.nd K).held))/\E=0/\ ∃i:Nat,Tr.eH (F.nd z.toNat) s (i:Int)/\G=Tr.uS F z.toNat i K))))
theorem Tr.eH.lt {x:Nd}{s:bU}{i:Nat}(h:Tr.eH x s (i:Int)):i<x.size:=by
 rcases h with⟨j,e,h1,_⟩|⟨e,_⟩
 ·omega
 ·omega
theorem Tr.jL.ok {F:Fo}{z:Int}{s:bU}{K:Nat}(h:Tr.jL F z s K 0): ∃n i:Nat,z=n/\n<40/\(F.nd n).kind=2/\Tr.eH (F.nd n) s (i:Int)/\K=(F.nd n).bO i:=by
 rcases h with⟨h1,_,h2⟩|⟨h1,h2⟩
 ·exact aZ h2.symm h1
 ·obtain⟨n,rfl,h3,_,h5⟩:=Tr.dY h1;rw[hU]at h2;rcases h2 with⟨i,h6,h7,_⟩|⟨_,_,h7⟩
  ·exact⟨n,i,rfl,h3,h5,h6,h7⟩
  ·exact aZ h7 (by decide)
theorem Tr.yR (F:Fo)(n i k:Nat):((F.put n (Tr.dJ (F.nd n) i)).nd k).bE=(F.nd k).bE:=by
 by_cases c:k=n
 ·subst c;rw[Tr.ai];rfl
 ·rw[Tr.ao _ _ _ _ c]
theorem Ce (b:Nat)(z:Int)(s:bU)(F:Fo)(w:bD)(h:ar w b F)(hs:Tr.jD F)(hK:Tr.DY F):
  Calls Tryz.prog 206 #[.pointer (some ⟨b,0,none⟩), .int .i64 z, .string s] w fun e w'=> ∃(E:Int) (G:Fo),e= .returned (aq E)/\Tr.wX F z s E G/\ar w' b G/\af b w w':=by
 have HF:=hZ (aK h hs);have HH:=hZ (aK True.intro hK);clear h hs hK;go_in
 go_wp2_with fail
 refine(se b z s F _ HF.out.1 HF.out.2).mono ?_;rintro e w1 ⟨k,E,rfl,hw1,b1⟩;have S1:Hid (Tr.jL F z s k E/\ar w1 b F/\af b w w1):=hZ ⟨hw1,HF.out.1.below b1,af.bB b1⟩;clear hw1 b1;by_cases e0:E=0
 ·subst e0;obtain⟨n,i,rfl,n40,k2,hp,hk⟩:=S1.out.1.ok;have k40:k<40:=by rw[hk];exact(HH.out.2 n n40 k2 i hp.lt).1
  have l1:1<=(F.nd k).bE:=by rw[hk];exact(HH.out.2 n n40 k2 i hp.lt).2.1
  have l2:(F.nd k).bE<2^60:=by rw[hk];exact(HH.out.2 n n40 k2 i hp.lt).2.2
  have HN:Hid ((F.nd n).size<=8/\Tr.eH (F.nd n) s (i:Int)):=hZ ⟨HF.out.2 n n40 k2,hp⟩;have nI:(n:Int)<40:=by omega
  have kI:(k:Int)<40:=by omega
  obtain⟨lk,hlk⟩:=nJ ((F.nd k).bE);have HLK:=hZ hlk;rw[hlk]at l1 l2;have hw:IntKind.i64.wrap ((lk:Int)-1)=((lk-1:Nat):Int):=(aN _ ⟨by omega,by omega⟩).trans (by omega);rw[aa];clear k2 hp hk hlk l1 l2;have c0:=S1.out.2.1.rj k k40;have cs:=S1.out.2.1.lO k k40;have ch:=S1.out.2.1.vY k k40;by_cases kk:(F.nd k).kind=2
  ·rw[kk]at c0;have c0':w1.cell? ⟨b,k*62,none⟩=some (.int .i64 2):=c0;clear c0;by_cases z0:0<(F.nd k).size
   ·have FIN:Hid (Tr.wX F (n:Int) s 5 F):=hZ ⟨k,0,S1.out.1, .inr ⟨rfl, .inl ⟨kk, .inl z0,rfl,rfl⟩⟩⟩;generalize (F.nd k).size=zz at cs z0;have zI:(0:Int)<(zz:Int):=by omega
    clear kk ch;go_wp2
    go_ret
    exact⟨5,F,rfl,FIN.out,S1.out.2⟩
   ·by_cases h0:0<(F.nd k).held
    ·have FIN:Hid (Tr.wX F (n:Int) s 5 F):=hZ ⟨k,0,S1.out.1, .inr ⟨rfl, .inl ⟨kk, .inr h0,rfl,rfl⟩⟩⟩;rw[show(F.nd k).size=0 by omega]at cs;have cs':w1.cell? ⟨b,k*62+3,none⟩=some (.int .i64 0):=cs;generalize (F.nd k).held=zz at ch h0;have zI:(0:Int)<(zz:Int):=by omega
     clear kk cs z0;go_wp2
     go_ret
     exact⟨5,F,rfl,FIN.out,S1.out.2⟩
    ·rw[show(F.nd k).size=0 by omega]at cs;have cs':w1.cell? ⟨b,k*62+3,none⟩=some (.int .i64 0):=cs;rw[show(F.nd k).held=0 by omega]at ch;have ch':w1.cell? ⟨b,k*62+2,none⟩=some (.int .i64 0):=ch;have NB:Hid (¬((F.nd k).kind=2/\(0<(F.nd k).size\/0<(F.nd k).held))):=hZ (by omega);clear kk cs ch z0 h0;go_wp2_with fail
     refine(pP b n i s F _ S1.out.2.1 n40 HN.out.1 HN.out.2).mono ?_;rintro e w2 ⟨rfl,h2,f2⟩;have S2:Hid (ar w2 b (F.put n (Tr.dJ (F.nd n) i))/\af b w w2):=hZ ⟨h2,S1.out.2.2.trans f2⟩;clear h2 f2 c0' cs' ch';have c5:=S2.out.1.rR k k40;rw[Tr.yR,HLK.out]at c5;have cf:=S2.out.1.frozen;have S3:Hid (ar (w2.setCell ⟨b,k*62+1,none⟩ (.int .i64 ((lk-1:Nat):Int))) b ((F.put n (Tr.dJ (F.nd n) i)).put k {(F.put n (Tr.dJ (F.nd n) i)).nd k with bE:=lk-1})/\af b w (w2.setCell ⟨b,k*62+1,none⟩ (.int .i64 ((lk-1:Nat):Int)))):=hZ ⟨S2.out.1.vl k (lk-1) k40,S2.out.2.setCell _ _⟩;have HLZ:Hid ((F.nd k).bE-1=lk-1):=hZ (by rw[HLK.out]);generalize lk-1=lz at*;go_wp2_with fail
     refine(rA b k _ _ S3.out.1 k40).mono ?_;rintro e w4 ⟨rfl,h4,f4⟩;have S4:Hid (ar w4 b (Tr.uS F n i k)/\af b w w4):=hZ ⟨by unfold Tr.uS;rw[HLZ.out];exact h4,S3.out.2.trans f4⟩;clear h4 f4;go_wp2
     go_ret
     exact⟨0,_,rfl,⟨k,0,S1.out.1, .inr ⟨rfl, .inr ⟨NB.out,rfl,i,by rw[hU];exact HN.out.2,by rw[hU]⟩⟩⟩,S4.out⟩
  ·have NB:Hid (¬((F.nd k).kind=2/\(0<(F.nd k).size\/0<(F.nd k).held))):=hZ (by omega);generalize (F.nd k).kind=kz at c0 kk;have kz1:((kz:Int)==2)=false:=by simp;omega
   have kz2: ¬(kz:Int)=2:=by omega
   clear kk cs ch;go_wp2_with fail
   refine(pP b n i s F _ S1.out.2.1 n40 HN.out.1 HN.out.2).mono ?_;rintro e w2 ⟨rfl,h2,f2⟩;have S2:Hid (ar w2 b (F.put n (Tr.dJ (F.nd n) i))/\af b w w2):=hZ ⟨h2,S1.out.2.2.trans f2⟩;clear h2 f2 c0 kz1 kz2;have c5:=S2.out.1.rR k k40;rw[Tr.yR,HLK.out]at c5;have cf:=S2.out.1.frozen;have S3:Hid (ar (w2.setCell ⟨b,k*62+1,none⟩ (.int .i64 ((lk-1:Nat):Int))) b ((F.put n (Tr.dJ (F.nd n) i)).put k {(F.put n (Tr.dJ (F.nd n) i)).nd k with bE:=lk-1})/\af b w (w2.setCell ⟨b,k*62+1,none⟩ (.int .i64 ((lk-1:Nat):Int)))):=hZ ⟨S2.out.1.vl k (lk-1) k40,S2.out.2.setCell _ _⟩;have HLZ:Hid ((F.nd k).bE-1=lk-1):=hZ (by rw[HLK.out]);generalize lk-1=lz at*;go_wp2_with fail
   refine(rA b k _ _ S3.out.1 k40).mono ?_;rintro e w4 ⟨rfl,h4,f4⟩;have S4:Hid (ar w4 b (Tr.uS F n i k)/\af b w w4):=hZ ⟨by unfold Tr.uS;rw[HLZ.out];exact h4,S3.out.2.trans f4⟩;clear h4 f4;go_wp2
   go_ret
   exact⟨0,_,rfl,⟨k,0,S1.out.1, .inr ⟨rfl, .inr ⟨NB.out,rfl,i,by rw[hU];exact HN.out.2,by rw[hU]⟩⟩⟩,S4.out⟩
 ·have E2:Hid (aq E= .iface 100 (.int .i64 E)/\E≠0):=hZ ⟨aj e0,e0⟩;rw[E2.out.1];clear e0;go_wp2
  go_ret
  exact⟨E,F,by rw[E2.out.1];rfl,⟨k,E,S1.out.1, .inl ⟨E2.out.2,rfl,rfl⟩⟩,S1.out.2⟩
theorem ar.range {w:bD}{b:Nat}{F:Fo}(h:ar w b F)(n:Nat)(hn:n<40):w.rangeAt b (n*62) (cD (F.nd n)).toList:=fun j v hv=>by
 have hj:j<62:=by have:=(aY.1 hv).1;rwa [gY]at this
 rw[aM,A8 _ j hj]at hv;rw[<-hv];exact h.nd n j hn hj
section
variable {ops : Array Oper} {rest : List Oper} {x : Oper} {a : Act} {w : bD} {Q : Exit -> Act -> bD -> Prop}
theorem wC (hgd:x.guard=none)(ho:x.op= .alloc 204)(h:wpList Tryz.prog ops Q rest (a.put x.dst (.pointer (some ⟨w.heap.size,0,none⟩))) (w.alloc (.cells (cD Nd.no) 204))):wpList Tryz.prog ops Q (x::rest) a w:=
 wpList_plain hgd fun _ hK=>by
  unfold Oper.wp execOp;simp only[ho];simp[go_sem];exact hK _ _ h
end
theorem KO {w:bD}{c:Nat}{A:Array Value}{T:TypeId}(x:Nd)(h:w.heap[c]? =some (.cells A T (0,0)))(hA:A.size=62):w.there c 0 (cD x).size:=fun j hj=>by
 rw[lP]at hj;exact⟨by rw[au h];simp[hA];omega,bf h _⟩
theorem MI {w:bD}{c:Nat}{A:Array Value}{T:TypeId}(x:Nd)(h:w.heap[c]? =some (.cells A T (0,0)))(hA:A.size=62):(w.setCells c 0 (cD x).toList).rangeAt c 0 (cD x).toList:=fun j v hv=>by
 have hj:j<62:=by have:=(aY.1 hv).1;rwa [gY]at this
 have:=aS c (cD x).toList 0 w (fun i hi=>by
  rw[gY]at hi;rw[au h];simp[hA];exact hi) j (by rw[gY];exact hj)
 rw[this,<-hv,aW (by rw[gY];exact hj)]
theorem te {w w':bD}{c:Nat}{L:List Value}(h:w.rangeAt c 0 L)(e:w'.heap[c]? =w.heap[c]?):w'.rangeAt c 0 L:=fun j v hv=>(aV e).trans (h j v hv)
theorem Tr.zR (F:Fo)(n:Nat):F.put n (F.nd n)=F:=by
 unfold Fo.put;have:(fun m=>if m=n then F.nd n else F.nd m)=F.nd:=by
  funext m;by_cases c:m=n
  ·rw[aJ c,c]
  ·rw[aI c]
 rw[this]
def Tr.EC (F:Fo)(n i t k:Nat)(o:bU):Fo:=Tr.jC (F.put n (Tr.dJ (F.nd n) i)) t o k
def Tr.Ea (F:Fo)(z:Int)(s:bU)(y:Int)(o:bU)(E:Int)(G:Fo):Prop:=
 ∃K e,Tr.jL F z s K e/\((e≠0/\E=e/\G=F)\/(e=0/\((Tr.bj F y 2≠0/\E=Tr.bj F y 2/\G=F)\/(Tr.bj F y 2=0/\(((F.nd z.toNat).tree≠(F.nd y.toNat).tree/\E=11/\G=F)\/((F.nd z.toNat).tree=(F.nd y.toNat).tree/\
  ((Tr.fO F K 40 y.toNat=true/\E=5/\G=F)\/(Tr.fO F K 40 y.toNat=false/\ ∃i:Nat,Tr.eH (F.nd z.toNat) s (i:Int)/\ ∃e2,Tr.mV ((F.put z.toNat (Tr.dJ (F.nd z.toNat) i)).nd y.toNat) o e2/\((e2≠0/\E=e2/\G=F)\/(e2=0/\E=0/\G=Tr.EC F z.toNat i y.toNat K o))))))))))
theorem Tr.mV.ok {x:Nd}{s:bU}(h:Tr.mV x s 0):Tr.eX s=true/\x.size≠8:=by
 rcases h with⟨_,h⟩|⟨h1,⟨_,_,h⟩|⟨_,⟨_,h⟩|⟨h2,_⟩⟩⟩
 ·omega
 ·omega
 ·omega
 ·exact⟨h1,h2⟩
theorem GG (b:Nat)(z:Int)(s:bU)(y:Int)(o:bU)(F:Fo)(w:bD)(h:ar w b F)(hs:Tr.jD F)(hK:Tr.DY F)(hE: ∀n,n<40->(F.nd n).kind=2->Tr.cJ F 40 n):
  Calls Tryz.prog 207 #[.pointer (some ⟨b,0,none⟩), .int .i64 z, .string s, .int .i64 y, .string o] w fun e w'=> ∃(E:Int) (G:Fo),e= .returned (aq E)/\Tr.Ea F z s y o E G/\ar w' b G/\af b w w':=by
 have HF:=hZ (aK h hs);have HH:=hZ (aK hE hK);clear h hs hE hK;go_in
 go_wp2_with fail
 refine(se b z s F _ HF.out.1 HF.out.2).mono ?_;rintro e w1 ⟨k,E,rfl,hw1,b1⟩;have S1:Hid (Tr.jL F z s k E/\ar w1 b F/\af b w w1):=hZ ⟨hw1,HF.out.1.below b1,af.bB b1⟩;clear hw1 b1;by_cases e0:E=0
 ·subst e0;obtain⟨n,i,rfl,n40,k2,hp,hk⟩:=S1.out.1.ok;have k40:k<40:=by rw[hk];exact(HH.out.2 n n40 k2 i hp.lt).1
  have HN:Hid ((F.nd n).size<=8/\Tr.eH (F.nd n) s (i:Int)):=hZ ⟨HF.out.2 n n40 k2,hp⟩;have nI:(n:Int)<40:=by omega
  have kI:(k:Int)<40:=by omega
  rw[aa];clear k2 hp hk;by_cases c:Tr.bj F y 2=0
  ·obtain⟨t,rfl,t40,_,t2⟩:=Tr.dY c;have EP:Hid (Tr.bj F (t:Int) 2=0/\dW b (t:Int) 0= .pointer (some ⟨b,t*62,none⟩)):=hZ ⟨c,fE b t⟩;have HEN:Hid (Tr.cJ F 40 t/\(F.nd t).size<=8):=hZ ⟨HH.out.1 t t40 t2,HF.out.2 t t40 t2⟩;clear c t2;go_wp2_with fail
   refine(j6 b t F _ S1.out.2.1).mono ?_;rintro e w0 ⟨rfl,hw0⟩;subst w0;rw[EP.out.1,EP.out.2,aa];have c1:=S1.out.2.1.qJ n n40;have c2:=S1.out.2.1.qJ t t40;by_cases tt:(F.nd n).tree=(F.nd t).tree
   ·have HT:=hZ tt;rw[tt]at c1;generalize (F.nd t).tree=tr at c1 c2;clear tt;go_wp2_with fail
    go_quiet (fail)
    go_upto_region 10 with fail
    refine bw (fun W=>ar W b F/\af b w W) ⟨S1.out.2.1.drewN _,S1.out.2.2.drewN _⟩ ?_;intro W2 h2;have S2:=hZ h2;clear h2 c1 c2;go_wp2_with fail
    refine(Ek b t k 40 F _ S2.out.1 HEN.out.1).mono ?_;rintro e w3 ⟨rfl,hw3⟩;subst w3;obtain⟨bb,hbb⟩:=nJ (Tr.fO F k 40 t);have HBB:=hZ hbb;rw[hbb];clear hbb;cases bb
    ·have N0:Hid ((W2.alloc (.cells (cD Nd.no) 204)).heap[W2.heap.size]? =some (.cells (cD Nd.no) 204 (0,0))):=hZ (heap_alloc_new W2 _);have HR:=hZ (S2.out.1.range n n40);have TH:=hZ (KO (F.nd n) N0.out (lP _));have HS:=hZ (nK (F.nd n));have H1:=hZ (np (F.nd n));have hlen:Hid ((Tryz.prog.info? 204).map (·.size)=some (cD (F.nd n)).toList.length):=hZ (by rw[gY];kernel_rfl);have S3:Hid ((ar ((W2.alloc (.cells (cD Nd.no) 204)).setCells W2.heap.size 0 (cD (F.nd n)).toList) b F/\af b w ((W2.alloc (.cells (cD Nd.no) 204)).setCells W2.heap.size 0 (cD (F.nd n)).toList))/\((W2.alloc (.cells (cD Nd.no) 204)).setCells W2.heap.size 0 (cD (F.nd n)).toList).rangeAt W2.heap.size 0 (cD (F.nd n)).toList/\W2.heap.size<((W2.alloc (.cells (cD Nd.no) 204)).setCells W2.heap.size 0 (cD (F.nd n)).toList).heap.size/\W2.heap.size≠b):=hZ (by
      have q:Below W2.heap.size W2 ((W2.alloc (.cells (cD Nd.no) 204)).setCells W2.heap.size 0 (cD (F.nd n)).toList):=(af.setCells _ _ (af.refl W2.heap.size _)).below ((aQ _ _).alloc (aL _) _) (aL _) (by simp);refine⟨⟨S2.out.1.below q,S2.out.2.trans (af.bB q)⟩,MI _ N0.out (lP _),?_,?_⟩
      ·have:=(af.setCells (b:=W2.heap.size) (cD (F.nd n)).toList 0 (af.refl W2.heap.size (W2.alloc (.cells (cD Nd.no) 204)))).size;have e:(W2.alloc (.cells (cD Nd.no) 204)).heap.size=W2.heap.size+1:=by simp
       omega
      ·have:=S2.out.1.lt;omega)
     obtain⟨A,hA⟩:=nJ (cD (F.nd n));have HA:=hZ hA;rw[hA]at HR TH HS H1 S3 hlen;clear hA;go_upto_region 13 with(first|(refine wpList_load_mid rfl 204 _ rfl b (n*62) rfl A.toList _ HR.out Tryz.underlying204 rfl hlen.out ?_;rw[Array.toArray_toList])|(refine wC rfl rfl ?_)|(refine wpList_store_mid rfl 204 _ _ rfl W2.heap.size 0 A rfl rfl TH.out HS.out H1.out ?_))
     generalize hcc:W2.heap.size=cc at*;refine bw (fun W=>(ar W b F/\af b w W)/\W.rangeAt cc 0 A.toList/\cc<W.heap.size/\cc≠b) S3.out ?_;intro W3 h3;have S4:=hZ h3;clear h3 S3 N0 HR TH hcc;go_wp2_with fail
     refine(pP b n i s F _ S4.out.1.1 n40 HN.out.1 HN.out.2).mono ?_;rintro e w4 ⟨rfl,h4,f4⟩;obtain⟨F1,hF1⟩:=nJ (F.put n (Tr.dJ (F.nd n) i));have HF1:=hZ hF1;rw[hF1]at h4;have z8:Hid ((F1.nd t).size<=8):=hZ (by
      rw[<-hF1];by_cases d:t=n
      ·subst d;rw[Tr.ai];show(F.nd t).size-1<=8;have:=HEN.out.2;omega
      ·rw[Tr.ao _ _ _ _ d];exact HEN.out.2)
     have S5:Hid ((ar w4 b F1/\af b w w4)/\w4.rangeAt cc 0 A.toList/\cc<w4.heap.size):=hZ ⟨⟨h4,S4.out.1.2.trans f4⟩,te S4.out.2.1 (f4.block cc S4.out.2.2.1 S4.out.2.2.2),aD S4.out.2.2.1 f4.size⟩;clear h4 f4 hF1;go_wp2_with fail
     refine(sH b t o F1 _ S5.out.1.1 t40 z8.out).mono ?_;rintro e w5 ⟨E,rfl,hr,b5⟩;have S6:Hid ((ar w5 b F1/\af b w w5)/\w5.rangeAt cc 0 A.toList/\Tr.mV (F1.nd t) o E):=hZ ⟨⟨S5.out.1.1.below b5,S5.out.1.2.trans (af.bB b5)⟩,te S5.out.2.1 (b5.block cc S5.out.2.2),hr⟩;clear hr b5;by_cases f0:E=0
     ·subst f0;have HR2:=hZ S6.out.2.2.ok;have t8:Hid ((F1.nd t).size<8):=hZ (by have:=HR2.out.2;have:=z8.out;omega);rw[aa];go_wp2_with fail
      refine(px b t k o F1 _ S6.out.1.1 t40 k40 t8.out (aH (Tr.nW HR2.out.1) (by decide))).mono ?_;rintro e w6 ⟨rfl,h6,f6⟩;have S7:Hid (ar w6 b (Tr.EC F n i t k o)/\af b w w6):=hZ ⟨by unfold Tr.EC;rw[HF1.out];exact h6,S6.out.1.2.trans f6⟩;clear h6 f6;go_wp2
      go_ret
      refine⟨0,_,rfl,⟨k,0,S1.out.1, .inr ⟨rfl, .inr ⟨EP.out.1, .inr ?_⟩⟩⟩,S7.out⟩;rw[hU,hU];exact⟨HT.out, .inr ⟨HBB.out,i,HN.out.2,0,by rw[HF1.out];exact S6.out.2.2, .inr ⟨rfl,rfl,rfl⟩⟩⟩
     ·have E2:Hid (aq E= .iface 100 (.int .i64 E)/\E≠0):=hZ ⟨aj f0,f0⟩;have TH2:Hid (w5.there b (n*62) A.size):=hZ (by rw[<-HA.out];exact S6.out.1.1.there n n40 (F.nd n));have S7:Hid (ar (w5.setCells b (n*62) A.toList) b F/\af b w (w5.setCells b (n*62) A.toList)):=hZ (by
       have a:=S6.out.1.1.setNode n n40 (F.nd n);rw[<-HF1.out,Tr.fD,Tr.zR,HA.out]at a;exact⟨a,af.setCells _ _ S6.out.1.2⟩)
      rw[E2.out.1];clear f0;go_wp2_with (first|(refine wpList_load_mid rfl 204 _ rfl cc 0 rfl A.toList _ S6.out.2.1 Tryz.underlying204 rfl hlen.out ?_;rw[Array.toArray_toList])|(refine wpList_store_mid rfl 204 _ _ rfl b (n*62) A rfl rfl TH2.out HS.out H1.out ?_))
      go_ret
      refine⟨E,F,by rw[E2.out.1];rfl,⟨k,0,S1.out.1, .inr ⟨rfl, .inr ⟨EP.out.1, .inr ?_⟩⟩⟩,S7.out⟩;rw[hU,hU];exact⟨HT.out, .inr ⟨HBB.out,i,HN.out.2,E,by rw[HF1.out];exact S6.out.2.2, .inl ⟨E2.out.2,rfl,rfl⟩⟩⟩
    ·go_wp2
     go_ret
     refine⟨5,F,rfl,⟨k,0,S1.out.1, .inr ⟨rfl, .inr ⟨EP.out.1, .inr ?_⟩⟩⟩,S2.out⟩;rw[hU,hU];exact⟨HT.out, .inl ⟨HBB.out,rfl,rfl⟩⟩
   ·have HT:=hZ tt;generalize (F.nd n).tree=t1 at c1 tt;generalize (F.nd t).tree=t2 at c2 tt;have tI:((t1:Int)==(t2:Int))=false:=by simp;omega
    have tI2: ¬(t1:Int)=(t2:Int):=by omega
    clear tt;go_wp2_with fail
    go_quiet (fail)
    go_wp2
    go_ret
    refine⟨11,F,rfl,⟨k,0,S1.out.1, .inr ⟨rfl, .inr ⟨EP.out.1, .inl ?_⟩⟩⟩,S1.out.2.1.drewN _,S1.out.2.2.drewN _⟩;rw[hU,hU];exact⟨HT.out,rfl,rfl⟩
  ·have E2:Hid (dW b y (Tr.bj F y 2)= .pointer none/\aq (Tr.bj F y 2)= .iface 100 (.int .i64 (Tr.bj F y 2))/\Tr.bj F y 2≠0):=hZ ⟨fY c,aj c,c⟩;clear c;go_wp2_with fail
   refine(j6 b y F _ S1.out.2.1).mono ?_;rintro e w0 ⟨rfl,hw0⟩;subst w0;rw[E2.out.1,E2.out.2.1];go_wp2
   go_ret
   exact⟨_,F,by rw[E2.out.2.1];rfl,⟨k,0,S1.out.1, .inr ⟨rfl, .inl ⟨E2.out.2.2,rfl,rfl⟩⟩⟩,S1.out.2⟩
 ·have E2:Hid (aq E= .iface 100 (.int .i64 E)/\E≠0):=hZ ⟨aj e0,e0⟩;rw[E2.out.1];clear e0;go_wp2
  go_ret
  exact⟨E,F,by rw[E2.out.1];rfl,⟨k,E,S1.out.1, .inl ⟨E2.out.2,rfl,rfl⟩⟩,S1.out.2⟩
def rI (F:Fo)(z:Int):Array Value:=if Tr.bh F z=0 then#[.int .i64 ((F.nd z.toNat).kind:Int), .int .i64 ((F.nd z.toNat).bE:Int), .int .i64 ((F.nd z.toNat).held:Int), .int .i64 ((F.nd z.toNat).size:Int)]else#[.int .i64 0, .int .i64 0, .int .i64 0, .int .i64 0]
theorem ow (b:Nat)(z:Int)(F:Fo)(w:bD)(h:ar w b F):
  Calls Tryz.prog 214 #[.pointer (some ⟨b,0,none⟩), .int .i64 z] w fun e w'=>e= .returned (.tuple #[.agg (rI F z),aq (Tr.bh F z)])/\Below w.heap.size w w':=by
 have hlt:=h.lt;have hne:w.heap.size≠b:=by omega
 have hne2:b≠w.heap.size:=by omega
 have HF:Hid (∀o,ar (w.alloc o) b F/\Below w.heap.size w (w.alloc o)):=hZ (fun o=>by
  have bb:Below w.heap.size w (w.alloc o):=(aQ _ _).alloc (aL _) _;exact⟨h.below bb,bb⟩)
 have HB:Hid (∀W W',Below w.heap.size w W->af w.heap.size W W'->w.heap.size<=W.heap.size->Below w.heap.size w W'):=hZ (fun W W' h1 h2 h3=>h2.below h1 (aL _) h3);by_cases c:Tr.bh F z=0
 ·obtain⟨n,rfl,n40,kk⟩:=Tr.fW c;have E:Hid (Tr.bh F (n:Int)=0/\rI F (n:Int)=#[.int .i64 ((F.nd n).kind:Int), .int .i64 ((F.nd n).bE:Int), .int .i64 ((F.nd n).held:Int), .int .i64 ((F.nd n).size:Int)]/\dW b (n:Int) 0= .pointer (some ⟨b,n*62,none⟩)):=hZ ⟨c,by unfold rI;rw[aJ c,hU],fE b n⟩;clear h c kk;go_in
  go_wp2_with fail
  refine(ga b n F _ (HF.out _).1).mono ?_;rintro e w1 ⟨rfl,hw1⟩;have S1:Hid (ar w1 b F/\Below w.heap.size w w1):=hZ (by rw[hw1];exact HF.out _);have N1:w1.heap[w.heap.size]? =some (.cells #[.int .i64 0, .int .i64 0, .int .i64 0, .int .i64 0] 156 (0,0)):=by rw[hw1];exact heap_alloc_new w _
  clear hw1;rw[E.out.1,E.out.2.2,aa];have c1:=S1.out.1.rj n n40;have c2:=S1.out.1.rR n n40;have c3:=S1.out.1.vY n n40;have c4:=S1.out.1.lO n n40;have EO:Hid (rI F (n:Int)=#[.int .i64 ((F.nd n).kind:Int), .int .i64 ((F.nd n).bE:Int), .int .i64 ((F.nd n).held:Int), .int .i64 ((F.nd n).size:Int)]):=hZ E.out.2.1;generalize (F.nd n).kind=v1 at c1 EO;generalize (F.nd n).bE=v2 at c2 EO;generalize (F.nd n).held=v3 at c3 EO;generalize (F.nd n).size=v4 at c4 EO;have hlt2:Hid (w.heap.size<w1.heap.size):=hZ (aX.1 N1).1;generalize hcc:w.heap.size=cc at*;have x1:w1.cell? ⟨cc,0,none⟩=some (.int .i64 0):=by rw[au N1];rfl
  have x2:w1.cell? ⟨cc,1,none⟩=some (.int .i64 0):=by rw[au N1];rfl
  have x3:w1.cell? ⟨cc,2,none⟩=some (.int .i64 0):=by rw[au N1];rfl
  have x4:w1.cell? ⟨cc,3,none⟩=some (.int .i64 0):=by rw[au N1];rfl
  have xf: ∀o,w1.frozen? ⟨cc,o,none⟩=false:=fun o=>bf N1 o;have S2:Hid (((((w1.setCell ⟨cc,0,none⟩ (.int .i64 (v1:Int))).setCell ⟨cc,1,none⟩ (.int .i64 (v2:Int))).setCell ⟨cc,2,none⟩ (.int .i64 (v3:Int))).setCell ⟨cc,3,none⟩ (.int .i64 (v4:Int))).heap[cc]? =some (.cells #[.int .i64 (v1:Int), .int .i64 (v2:Int), .int .i64 (v3:Int), .int .i64 (v4:Int)] 156 (0,0))/\Below cc w ((((w1.setCell ⟨cc,0,none⟩ (.int .i64 (v1:Int))).setCell ⟨cc,1,none⟩ (.int .i64 (v2:Int))).setCell ⟨cc,2,none⟩ (.int .i64 (v3:Int))).setCell ⟨cc,3,none⟩ (.int .i64 (v4:Int)))):=hZ
   ⟨bC (bC (bC (bC N1 0 _) 1 _) 2 _) 3 _,HB.out w1 _ S1.out.2 ((((((af.refl cc w1).setCell _ _).setCell _ _).setCell _ _).setCell _ _)) (bI hlt2.out)⟩
  clear N1;go_wp2_with fail
  generalize hWF:(((w1.setCell ⟨cc,0,none⟩ (.int .i64 (v1:Int))).setCell ⟨cc,1,none⟩ (.int .i64 (v2:Int))).setCell ⟨cc,2,none⟩ (.int .i64 (v3:Int))).setCell ⟨cc,3,none⟩ (.int .i64 (v4:Int))=WF at S2|-;have y1:WF.cell? ⟨cc,0,none⟩=some (.int .i64 (v1:Int)):=by rw[au S2.out.1];rfl
  have y2:WF.cell? ⟨cc,1,none⟩=some (.int .i64 (v2:Int)):=by rw[au S2.out.1];rfl
  have y3:WF.cell? ⟨cc,2,none⟩=some (.int .i64 (v3:Int)):=by rw[au S2.out.1];rfl
  have y4:WF.cell? ⟨cc,3,none⟩=some (.int .i64 (v4:Int)):=by rw[au S2.out.1];rfl
  refine bodyPost_ret (v:= .tuple #[.agg #[.int .i64 (v1:Int), .int .i64 (v2:Int), .int .i64 (v3:Int), .int .i64 (v4:Int)], .nilIface]) (by simp[results,Tryz.f214,go_sem,y1,y2,y3,y4]) rfl ?_;rw[EO.out,E.out.1];subst hcc;exact⟨rfl,S2.out.2⟩
 ·have E:Hid (rI F z=#[.int .i64 0, .int .i64 0, .int .i64 0, .int .i64 0]/\dW b z (Tr.bh F z)= .pointer none/\aq (Tr.bh F z)= .iface 100 (.int .i64 (Tr.bh F z))):=hZ ⟨by unfold rI;rw[aI c],fY c,aj c⟩;clear h c;go_in
  go_wp2_with fail
  refine(ga b z F _ (HF.out _).1).mono ?_;rintro e w1 ⟨rfl,hw1⟩;have S1:Hid (ar w1 b F/\Below w.heap.size w w1):=hZ (by rw[hw1];exact HF.out _);have N1:w1.heap[w.heap.size]? =some (.cells #[.int .i64 0, .int .i64 0, .int .i64 0, .int .i64 0] 156 (0,0)):=by rw[hw1];exact heap_alloc_new w _
  clear hw1;rw[E.out.2.1,E.out.2.2];have hlt2:Hid (w.heap.size<w1.heap.size):=hZ (aX.1 N1).1;generalize hcc:w.heap.size=cc at*;have x1:w1.cell? ⟨cc,0,none⟩=some (.int .i64 0):=by rw[au N1];rfl
  have x2:w1.cell? ⟨cc,1,none⟩=some (.int .i64 0):=by rw[au N1];rfl
  have x3:w1.cell? ⟨cc,2,none⟩=some (.int .i64 0):=by rw[au N1];rfl
  have x4:w1.cell? ⟨cc,3,none⟩=some (.int .i64 0):=by rw[au N1];rfl
  have xf: ∀o,w1.frozen? ⟨cc,o,none⟩=false:=fun o=>bf N1 o;have S2:Hid (((((w1.setCell ⟨cc,0,none⟩ (.int .i64 0)).setCell ⟨cc,1,none⟩ (.int .i64 0)).setCell ⟨cc,2,none⟩ (.int .i64 0)).setCell ⟨cc,3,none⟩ (.int .i64 0)).heap[cc]? =some (.cells #[.int .i64 0, .int .i64 0, .int .i64 0, .int .i64 0] 156 (0,0))/\Below cc w ((((w1.setCell ⟨cc,0,none⟩ (.int .i64 0)).setCell ⟨cc,1,none⟩ (.int .i64 0)).setCell ⟨cc,2,none⟩ (.int .i64 0)).setCell ⟨cc,3,none⟩ (.int .i64 0))):=hZ
   ⟨bC (bC (bC (bC N1 0 _) 1 _) 2 _) 3 _,HB.out w1 _ S1.out.2 ((((((af.refl cc w1).setCell _ _).setCell _ _).setCell _ _).setCell _ _)) (bI hlt2.out)⟩
  clear N1;go_wp2_with fail
  generalize hWF:(((w1.setCell ⟨cc,0,none⟩ (.int .i64 0)).setCell ⟨cc,1,none⟩ (.int .i64 0)).setCell ⟨cc,2,none⟩ (.int .i64 0)).setCell ⟨cc,3,none⟩ (.int .i64 0)=WF at S2|-;have y1:WF.cell? ⟨cc,0,none⟩=some (.int .i64 0):=by rw[au S2.out.1];rfl
  have y2:WF.cell? ⟨cc,1,none⟩=some (.int .i64 0):=by rw[au S2.out.1];rfl
  have y3:WF.cell? ⟨cc,2,none⟩=some (.int .i64 0):=by rw[au S2.out.1];rfl
  have y4:WF.cell? ⟨cc,3,none⟩=some (.int .i64 0):=by rw[au S2.out.1];rfl
  refine bodyPost_ret (v:= .tuple #[.agg #[.int .i64 0, .int .i64 0, .int .i64 0, .int .i64 0], .iface 100 (.int .i64 (Tr.bh F z))]) (by simp[results,Tryz.f214,go_sem,y1,y2,y3,y4]) rfl ?_;rw[E.out.1,E.out.2.2];subst hcc;exact⟨rfl,S2.out.2⟩
def Tr.yM (f:Nat->Int)(a:Nat)(L:List Int):Nat->Int:=fun j=>if j<a then f j else(L[j-a]?).getD (f j)
def Tr.rV (s:bU):List Int:=s.data.toList.map fun x=>(x.toNat:Int)
theorem Tr.Mw (s:bU):(Tr.rV s).length=s.size:=by simp[Tr.rV]
theorem Tr.L4 (s:bU):(s.data.toList.map fun x=>Value.int .u8 (x.toNat:Int))=(Tr.rV s).map (Value.int .u8):=by simp[Tr.rV,Function.comp_def]
theorem ar.setBytes {w:bD}{b:Nat}{F:Fo}(h:ar w b F)(n a:Nat)(L:List Int)(hL:a+L.length<=40):ar (w.setCells b (n*62+22+a) (L.map (Value.int .u8))) b (F.put n {F.nd n with cX:=Tr.yM (F.nd n).cX a L}):=by
 obtain⟨C,h1,h2⟩:=h.cv;obtain⟨C',k1,k2⟩:=jX b (L.map (Value.int .u8)) (n*62+22+a) w C h1;have hlen:(L.map (Value.int .u8)).length=L.length:=by simp
 refine⟨⟨C',k1,by omega⟩,fun o ho=>?_⟩;by_cases c:n*62+22+a<=o/\o<n*62+22+a+L.length
 ·obtain⟨j,rfl,hj⟩: ∃j,o=n*62+22+a+j/\j<L.length:=⟨o-(n*62+22+a),by omega,by omega⟩;rw[aS b (L.map (Value.int .u8)) (n*62+22+a) w (fun i hi=>by rw[hlen]at hi;rw[h.cell _ (by omega)];rfl) j (by rw[hlen];exact hj)];unfold iK;rw[aJ (by omega),show(n*62+22+a+j)/62=n by omega,show(n*62+22+a+j)%62=22+(a+j)by omega,Tr.ai,pE];show _=some (Value.int .u8 (Tr.yM (F.nd n).cX a L (a+j)));unfold Tr.yM;rw[aI (by omega),show a+j-a=j by omega,aW hj,Option.getD_some,List.getElem_map]
 ·rw[aA b _ (n*62+22+a) w ⟨b,o,none⟩ (fun _ _=>by rw[hlen];show o<_\/_<=o;omega),h.cell o ho];unfold iK;by_cases d:o<2480
  ·rw[aJ d,aJ d];by_cases e:o/62=n
   ·rw[e,Tr.ai];by_cases g:o%62<22
    ·unfold gK;repeat' split
     all_goals first|rfl|omega
    ·rw[show o%62=22+(o%62-22)by omega,pE,pE];show _=some (Value.int .u8 (Tr.yM (F.nd n).cX a L (o%62-22)));unfold Tr.yM;by_cases i:o%62-22<a
     ·rw[aJ i]
     ·rw[aI i,List.getElem?_eq_none (by omega),Option.getD_none]
   ·rw[Tr.ao _ _ _ _ e]
  ·rw[aI d,aI d];rfl
section
variable {ops : Array Oper} {rest : List Oper} {x : Oper} {a : Act} {w : bD} {Q : Exit -> Act -> bD -> Prop}
theorem wM (hgd:x.guard=none)(d y:Operand)(dT sT:TypeId)(hop:x.op=Op.call {callee:=Callee.builtin Builtin.copy,args:=#[d,y],argTypes:=#[dT,sT]})
  (elem:TypeId) (hu:Tryz.prog.underlying dT=some (.slice elem)) (hz: ∀w,(Go.sizeOf elem).run Tryz.prog w= .ok 1 w)
  (b off dLen dCap:Nat) (hd:a.eval d= .slice (some ⟨b,off,none⟩) dLen dCap) (t:bU) (hx:a.eval y= .string t) (hle:t.size<=dLen)
  (hc: ∀j,j<t.size->(w.cell? ⟨b,off+j,none⟩).isSome=true) (hf: ∀j,j<t.size->w.frozen? ⟨b,off+j,none⟩=false)
  (h:wpList Tryz.prog ops Q rest (a.put x.dst (goInt t.size)) (w.setCells b off ((Tr.rV t).map (Value.int .u8)))):wpList Tryz.prog ops Q (x::rest) a w:=
 wpList_plain hgd fun _ hK=>by
  have hrun:=run_copy_string (P:=Tryz.prog) w dT sT x.type elem b off dLen dCap t hu hz hle hc hf;rw[Tr.L4]at hrun;unfold Oper.wp;simp[execOp,hop,resolve,invoke,builtin,hd,hx,hrun,Result.andThen];exact hK _ _ h
end
def Tr.cV (F:Fo)(z a:Int)(s:bU):Int:=if Tr.bj F z 1≠0 then Tr.bj F z 1 else if a<0 then 1 else if 40-(s.size:Int)<a then 4 else 0
def Tr.xY (x:Nd)(a:Nat)(s:bU):Nd:={x with cX:=Tr.yM x.cX a (Tr.rV s),size:=max x.size (a+s.size)}
def Tr.dF (F:Fo)(z a:Int)(s:bU):Fo:=if Tr.cV F z a s=0/\s.size≠0 then F.put z.toNat (Tr.xY (F.nd z.toNat) a.toNat s)else F
theorem Ev (b:Nat)(z a:Int)(s:bU)(F:Fo)(w:bD)(h:ar w b F)(hs:s.size<2^60):
  Calls Tryz.prog 248 #[.pointer (some ⟨b,0,none⟩), .int .i64 z, .int .i64 a, .string s] w fun e w'=>e= .returned (aq (Tr.cV F z a s))/\ar w' b (Tr.dF F z a s)/\af b w w':=by
 have HF:=hZ h;by_cases c:Tr.bj F z 1=0
 ·obtain⟨n,rfl,n40,_,k1⟩:=Tr.dY c;have EP:Hid (Tr.bj F (n:Int) 1=0/\dW b (n:Int) 0= .pointer (some ⟨b,n*62,none⟩)):=hZ ⟨c,fE b n⟩;have EW:Tr.cV F (n:Int) a s=if a<0 then 1 else if 40-(s.size:Int)<a then 4 else 0:=by unfold Tr.cV;rw[aI (fun d=>d c)]
  have hw:IntKind.i64.wrap (40-(s.size:Int))=40-(s.size:Int):=aN _ ⟨by omega,by omega⟩;by_cases a0:a<0
  ·have FIN:Hid (Tr.cV F (n:Int) a s=1/\Tr.dF F (n:Int) a s=F):=hZ (by
    have e:Tr.cV F (n:Int) a s=1:=by rw[EW,aJ a0]
    exact⟨e,by unfold Tr.dF;rw[e,aI (by omega)]⟩)
   clear h c k1 EW hs;go_in
   go_wp2_with fail
   refine(gD b n F _ HF.out).mono ?_;rintro e w1 ⟨rfl,hw1⟩;subst w1;rw[EP.out.1,EP.out.2,aa];go_wp2
   go_ret
   rw[FIN.out.1,FIN.out.2];exact⟨rfl,HF.out,af.refl _ _⟩
  ·by_cases a4:40-(s.size:Int)<a
   ·have FIN:Hid (Tr.cV F (n:Int) a s=4/\Tr.dF F (n:Int) a s=F):=hZ (by
     have e:Tr.cV F (n:Int) a s=4:=by rw[EW,aI a0,aJ a4]
     exact⟨e,by unfold Tr.dF;rw[e,aI (by omega)]⟩)
    clear h c k1 EW hs;go_in
    go_wp2_with fail
    refine(gD b n F _ HF.out).mono ?_;rintro e w1 ⟨rfl,hw1⟩;subst w1;rw[EP.out.1,EP.out.2,aa];go_wp2
    go_ret
    rw[FIN.out.1,FIN.out.2];exact⟨rfl,HF.out,af.refl _ _⟩
   ·have EZ:Tr.cV F (n:Int) a s=0:=by rw[EW,aI a0,aI a4]
    by_cases s0:s.size=0
    ·have FIN:Hid (Tr.cV F (n:Int) a s=0/\Tr.dF F (n:Int) a s=F):=hZ ⟨EZ,by unfold Tr.dF;rw[aI (by omega)]⟩;have sl:(s.toList==[])=true:=by
      obtain rfl:s=⟨#[]⟩:=by
       apply ByteArray.ext;exact Array.eq_empty_of_size_eq_zero s0
      rw[ByteArray.toList_eq];rfl
     clear h c k1 EW hs EZ s0;go_in
     go_wp2_with fail
     refine(gD b n F _ HF.out).mono ?_;rintro e w1 ⟨rfl,hw1⟩;subst w1;rw[EP.out.1,EP.out.2,aa];go_wp2
     go_ret
     rw[FIN.out.1,FIN.out.2];exact⟨rfl,HF.out,af.refl _ _⟩
    ·obtain⟨m,rfl⟩: ∃m:Nat,a=m:=⟨a.toNat,by omega⟩;have EF:Hid (Tr.cV F (n:Int) (m:Int) s=0/\Tr.dF F (n:Int) (m:Int) s=F.put n (Tr.xY (F.nd n) m s)):=hZ ⟨EZ,by unfold Tr.dF;rw[aJ ⟨EZ,s0⟩,hU,hU]⟩;have hm:m+s.size<=40:=by omega
     have m40:(m:Int)<40:=by omega
     have m40b:(m:Int)<=40:=by omega
     have mlt:m<40:=by omega
     have mn0: ¬m=40:=by omega
     have mn1: ¬40-m=0:=by omega
     have mn2: ¬(m:Int)=40:=by omega
     have sl:(s.toList==[])=false:=by
      rw[beq_eq_false_iff_ne];intro e;rw[ByteArray.toList_eq]at e;apply s0;show s.data.size=0;rw[<-aB,e];rfl
     have ad:IntKind.i64.wrap ((m:Int)+(s.size:Int))=((m+s.size:Nat):Int):=(aN _ ⟨by omega,by omega⟩).trans (by omega);have CC:Hid (∀j,j<s.size->(w.cell? ⟨b,n*62+22+m+j,none⟩).isSome=true):=hZ (fun j hj=>by rw[h.cell _ (by omega)];rfl);have CF:Hid (∀j,j<s.size->w.frozen? ⟨b,n*62+22+m+j,none⟩=false):=hZ (fun j _=>h.frozen _);have S1:Hid (ar (w.setCells b (n*62+22+m) ((Tr.rV s).map (Value.int .u8))) b (F.put n {F.nd n with cX:=Tr.yM (F.nd n).cX m (Tr.rV s)})/\af b w (w.setCells b (n*62+22+m) ((Tr.rV s).map (Value.int .u8)))):=hZ ⟨h.setBytes n m _ (by rw[Tr.Mw];exact hm),af.setCells _ _ (af.refl b w)⟩;have hsm:s.size<=40-m:=by omega
     have hcz: ∀w,(Go.sizeOf 5).run Tryz.prog w= .ok 1 w:=fun w=>by rfl
     clear h c k1 EW hs EZ s0;obtain⟨L,hL⟩:=nJ ((Tr.rV s).map (Value.int .u8));rw[hL]at S1;go_in
     go_wp2_with fail
     refine(gD b n F _ HF.out).mono ?_;rintro e w1 ⟨rfl,hw1⟩;subst w1;rw[EP.out.1,EP.out.2,aa];go_upto_region 11 with(refine wM rfl _ _ _ _ rfl 5 (by kernel_rfl) hcz b (n*62+22+m) (40-m) (40-m) rfl s rfl hsm CC.out CF.out ?_;rw[hL])
     refine bw (fun W=>ar W b (F.put n {F.nd n with cX:=Tr.yM (F.nd n).cX m (Tr.rV s)})/\af b w W) S1.out ?_;intro W2 h2;have S2:=hZ h2;clear h2 S1 CC CF hL;have c3:=S2.out.1.lO n n40;rw[Tr.ai]at c3;have cf:=S2.out.1.frozen;obtain⟨sz,hsz⟩:=nJ ((F.nd n).size);have c3':W2.cell? ⟨b,n*62+3,none⟩=some (.int .i64 (sz:Int)):=by rw[c3,<-hsz]
     have FIN:Hid (ar (W2.setCell ⟨b,n*62+3,none⟩ (.int .i64 (max (sz:Int) ((m:Int)+(s.size:Int))))) b (F.put n (Tr.xY (F.nd n) m s))/\af b w (W2.setCell ⟨b,n*62+3,none⟩ (.int .i64 (max (sz:Int) ((m:Int)+(s.size:Int)))))):=hZ (by
      have q:=S2.out.1.xq n (max sz (m+s.size)) n40;rw[Tr.ai,Tr.fD]at q;unfold Tr.xY;rw[hsz];rw[show(max (sz:Int) ((m:Int)+(s.size:Int)))=((max sz (m+s.size):Nat):Int)by omega];exact⟨q,S2.out.2.setCell _ _⟩)
     clear c3 hsz;go_wp2
     go_ret
     rw[EF.out.1,EF.out.2];exact⟨rfl,FIN.out⟩
 ·have E2:Hid (dW b z (Tr.bj F z 1)= .pointer none/\aq (Tr.bj F z 1)= .iface 100 (.int .i64 (Tr.bj F z 1))/\Tr.cV F z a s=Tr.bj F z 1/\Tr.dF F z a s=F):=hZ (by
   have e:Tr.cV F z a s=Tr.bj F z 1:=aJ c;exact⟨fY c,aj c,e,by unfold Tr.dF;rw[e,aI (fun d=>c d.1)]⟩)
  clear h c hs;go_in
  go_wp2_with fail
  refine(gD b z F _ HF.out).mono ?_;rintro e w1 ⟨rfl,hw⟩;subst w1;rw[E2.out.1,E2.out.2.1];go_wp2
  go_ret
  rw[E2.out.2.2.1,E2.out.2.2.2,E2.out.2.1];exact⟨rfl,HF.out,af.refl _ _⟩
def Tr.sY (F:Fo):Prop:= ∀n,n<40->(F.nd n).kind=1->(F.nd n).size<=40
def Tr.zb (f:Nat->Int)(a k:Nat):List Int:=(List.range k).map fun j=>f (a+j)
def Tr.Lc (f:Nat->Int)(a k:Nat):bU:=(Tr.zb f a k).foldl (fun r n=>r.push (UInt8.ofNat n.toNat)) ByteArray.empty
theorem Tr.tP (f:Nat->Int)(a k:Nat):(Tr.zb f a k).length=k:=by simp[Tr.zb]
theorem ar.EG {w:bD}{b:Nat}{F:Fo}(h:ar w b F)(n lo k:Nat)(hn:n<40)(hk:lo+k<=40)(ad:Addr)(had:0<k->ad=⟨b,n*62+22+lo,none⟩):(loadCells ad k).run Tryz.prog w= .ok ((Tr.zb (F.nd n).cX lo k).map (Value.int .u8)).toArray w:=by
 have:=run_loadCells_list (P:=Tryz.prog) w ad ((Tr.zb (F.nd n).cX lo k).map (Value.int .u8)) (fun j v hv=>by
  have hj:j<k:=by grind [Tr.zb,Tr.tP]
  rw[had (by omega)];have e:(⟨b,n*62+22+lo,none⟩:Addr).add j=⟨b,n*62+22+(lo+j),none⟩:=by
   unfold Addr.add;split
   ·simp_all
   ·simp_all;omega
  rw[e,h.Qi n (lo+j) hn (by omega),<-hv];simp[Tr.zb,hj])
 rw[List.length_map,Tr.tP]at this;exact this
section
variable {ops : Array Oper} {rest : List Oper} {x : Oper} {a : Act} {w : bD} {Q : Exit -> Act -> bD -> Prop}
theorem uL (hgd:x.guard=none)(y:Operand)(hop:x.op=Op.convert 316 9 y)
  (ad:Addr) (k c:Nat) (hd:a.eval y= .slice (some ad) k c) (ns:List Int) (hl:(loadCells ad k).run Tryz.prog w= .ok (ns.map (Value.int .u8)).toArray w)
  (h:wpList Tryz.prog ops Q rest (a.put x.dst (.string (ns.foldl (fun r n=>r.push (UInt8.ofNat n.toNat)) ByteArray.empty))) w):wpList Tryz.prog ops Q (x::rest) a w:=
 wpList_plain hgd fun _ hK=>by
  have hrun:=(run_convert_bytes_string (P:=Tryz.prog) w 316 9 5 (some ad) k c (by kernel_rfl) (by kernel_rfl) (by kernel_rfl)).trans (run_bytesToString w ad k c ns hl);unfold Oper.wp;simp[execOp,hop,hd,hrun,Result.andThen];exact hK _ _ h
end
def Tr.dA (F:Fo)(z a m:Int):Int:=if Tr.bj F z 1≠0 then Tr.bj F z 1 else if a<0\/m<0 then 1 else 0
def Tr.iB (F:Fo)(z a m:Int):bU:=
 if Tr.dA F z a m=0 then Tr.Lc (F.nd z.toNat).cX (min a.toNat (F.nd z.toNat).size) (min m.toNat ((F.nd z.toNat).size-min a.toNat (F.nd z.toNat).size))else ByteArray.empty
theorem Gt (b:Nat)(z a m:Int)(F:Fo)(w:bD)(h:ar w b F)(hs:Tr.sY F):
  Calls Tryz.prog 246 #[.pointer (some ⟨b,0,none⟩), .int .i64 z, .int .i64 a, .int .i64 m] w fun e w'=>e= .returned (.tuple #[.string (Tr.iB F z a m),aq (Tr.dA F z a m)])/\ar w' b F/\Below w.heap.size w w':=by
 have HF:=hZ h;by_cases c:Tr.bj F z 1=0
 ·obtain⟨n,rfl,n40,_,k1⟩:=Tr.dY c;have EP:Hid (Tr.bj F (n:Int) 1=0/\dW b (n:Int) 0= .pointer (some ⟨b,n*62,none⟩)):=hZ ⟨c,fE b n⟩;have EW:Tr.dA F (n:Int) a m=if a<0\/m<0 then 1 else 0:=by unfold Tr.dA;rw[aI (fun d=>d c)]
  have z40:=hs n n40 k1;by_cases a0:a<0\/m<0
  ·have FIN:Hid (Tr.dA F (n:Int) a m=1/\Tr.iB F (n:Int) a m=⟨#[]⟩):=hZ (by
    have e:Tr.dA F (n:Int) a m=1:=by rw[EW,aJ a0]
    exact⟨e,by unfold Tr.iB;rw[e,aI (by omega)];rfl⟩)
   clear h c k1 EW hs z40;by_cases a1:a<0
   ·clear a0;go_in
    go_wp2_with fail
    refine(gD b n F _ HF.out).mono ?_;rintro e w1 ⟨rfl,hw1⟩;subst w1;rw[EP.out.1,EP.out.2,aa];go_wp2
    go_ret2
    rw[FIN.out.1,FIN.out.2];exact⟨rfl,HF.out,aQ _ _⟩
   ·have a2:m<0:=by omega
    clear a0;go_in
    go_wp2_with fail
    refine(gD b n F _ HF.out).mono ?_;rintro e w1 ⟨rfl,hw1⟩;subst w1;rw[EP.out.1,EP.out.2,aa];go_wp2
    go_ret2
    rw[FIN.out.1,FIN.out.2];exact⟨rfl,HF.out,aQ _ _⟩
  ·have EZ:Tr.dA F (n:Int) a m=0:=by rw[EW,aI a0]
   obtain⟨p,rfl⟩: ∃p:Nat,a=p:=⟨a.toNat,by omega⟩;obtain⟨q,rfl⟩: ∃q:Nat,m=q:=⟨m.toNat,by omega⟩;have c3:=h.lO n n40;obtain⟨sz,hsz⟩:=nJ ((F.nd n).size);have EF:Hid (Tr.dA F (n:Int) (p:Int) (q:Int)=0/\Tr.iB F (n:Int) (p:Int) (q:Int)=Tr.Lc (F.nd n).cX (min p sz) (min q (sz-min p sz))):=hZ ⟨EZ,by unfold Tr.iB;rw[aJ EZ,hU,hU,hU,hsz]⟩;rw[hsz]at c3 z40;have zI:(sz:Int)<=40:=by omega
   obtain⟨lo,hlo⟩:=nJ (min p sz);have mn:min (p:Int) (sz:Int)=(lo:Int):=by omega
   have lz:lo<=sz:=by omega
   have lzI:(lo:Int)<=(sz:Int):=by omega
   have mn2:(if(p:Int)<(sz:Int)then(p:Int)else(sz:Int))=(lo:Int):=by split<;>omega
   obtain⟨k,hk⟩:=nJ (min q (sz-lo));have mk:min (q:Int) ((sz-lo:Nat):Int)=(k:Int):=by omega
   have k1':k<=sz-lo:=by omega
   have k2':k<=40-lo:=by omega
   have k3':(k:Int)<=((40-lo:Nat):Int):=by omega
   have k4':(k:Int)<=((sz-lo:Nat):Int):=by omega
   rw[hlo,hk]at EF;have LD:Hid (∀nq,(loadCells (if 40=lo then(⟨b,n*62+22,none⟩:Addr)else⟨b,n*62+22+lo,none⟩) k).run Tryz.prog (w.drewN nq)= .ok ((Tr.zb (F.nd n).cX lo k).map (Value.int .u8)).toArray (w.drewN nq)):=hZ (fun nq=>(h.drewN nq).EG n lo k n40 (by omega) _ (fun h0=>aI (by omega)));have BB:Hid (∀nq,Below w.heap.size w (w.drewN nq)):=hZ (fun nq=>by
    have:=aQ w.heap.size w;exact⟨this.os,this.tape,this.output,this.size,this.block⟩)
   clear h c k1 EW hs EZ hsz a0 hlo hk;go_in
   go_wp2_with fail
   refine(gD b n F _ HF.out).mono ?_;rintro e w1 ⟨rfl,hw1⟩;subst w1;rw[EP.out.1,EP.out.2,aa];go_wp2_with fail
   go_quiet (fail)
   revert LD;generalize (if 40=lo then(⟨b,n*62+22,none⟩:Addr)else⟨b,n*62+22+lo,none⟩)=ad;intro LD;go_wp2_with (refine uL rfl _ rfl ad k _ rfl _ (LD.out _) ?_)
   go_ret2
   rw[EF.out.1,EF.out.2];exact⟨rfl,HF.out.drewN _,BB.out _⟩
 ·have E2:Hid (dW b z (Tr.bj F z 1)= .pointer none/\aq (Tr.bj F z 1)= .iface 100 (.int .i64 (Tr.bj F z 1))/\Tr.dA F z a m=Tr.bj F z 1/\Tr.iB F z a m=⟨#[]⟩):=hZ (by
   have e:Tr.dA F z a m=Tr.bj F z 1:=aJ c;exact⟨fY c,aj c,e,by unfold Tr.iB;rw[e,aI c];rfl⟩)
  clear h c hs;go_in
  go_wp2_with fail
  refine(gD b z F _ HF.out).mono ?_;rintro e w1 ⟨rfl,hw⟩;subst w1;rw[E2.out.1,E2.out.2.1];go_wp2
  go_ret2
  rw[E2.out.2.2.1,E2.out.2.2.2,E2.out.2.1];exact⟨rfl,HF.out,aQ _ _⟩
open Go.Sort
def uD (L:List bU):List Value:=L.map Value.string
structure SO (w:bD)(L:List bU)(v:Value)(wr:bD):Prop where
 bF:RowKit.Below w.heap.size w wr
 own:wr.ownsRow w.heap.size 9 1 v L.length (uD L)
 nil:L=[]->v= .slice none 0 0
theorem SO.start (w:bD):SO w [] (.slice none 0 0) w:=⟨aQ _ _,World.ownsRow_nil _ _ _ _,fun _=>rfl⟩
theorem SO.form {w wr:bD}{L:List bU}{v:Value}(h:SO w L v wr): ∃a c,v= .slice a L.length c:=by
 rcases h.own.2 with⟨e,e2⟩|⟨g,cap,_,e,_⟩
 ·exact⟨none,0,by rw[e,e2]⟩
 ·exact⟨_,cap,e⟩
theorem SO.below {w wr w1:bD}{L:List bU}{v:Value}(h:SO w L v wr)(b:RowKit.Below wr.heap.size wr w1):SO w L v w1:=
 ⟨h.bF.trans (b.mono h.bF.size),h.own.kept (row:=none) ⟨b.os,b.tape,b.output,b.size,fun k hk _=>b.block k hk⟩ (Classical.em _),h.nil⟩
theorem SO.more {w w1 wr:bD}{L:List bU}{gg cap N:Nat}{l:Value}(h:SO w L l wr)(x:bU)(hN:L.length=N)(hl:w1.ownsRow w.heap.size 9 1 (.slice (some ⟨gg,0,none⟩) (N+1) cap) (N+1) (uD L++[.string x]))(o:Obj)(hg:(wr.alloc o).grownBy w1 l.ownBlock):
  SO w (L++[x]) (.slice (some ⟨gg,0,none⟩) (N+1) cap) w1:=by
 have hs:=h.bF.size;refine⟨(h.bF.alloc hs o).grown hg (by simp;omega) (fun k e=>(h.own.lt k e).1),?_,fun e=>by simp at e⟩;grind [uD]
theorem Oz: ∃i,Tryz.prog.info? 9=some i/\i.zero=some (.string ⟨#[]⟩)/\i.size=1/\i.bytes=16:=⟨(Tryz.prog.info? 9).get (by kernel_rfl),by kernel_rfl,by kernel_rfl,by kernel_rfl,by kernel_rfl⟩
def Tr.rF (x:Nd)(j:Nat):List bU:=(List.range j).map x.dz
theorem Tr.qj (x:Nd)(j:Nat):(Tr.rF x j).length=j:=by simp[Tr.rF]
theorem Tr.Kj (x:Nd)(j:Nat):Tr.rF x (j+1)=Tr.rF x j++[x.dz j]:=by simp[Tr.rF,List.range_succ]
def pO (L:List bU):List bU:=((L.map fun s=>s.data.toList).mergeSort fun x y=>decide (x<=y)).map fun l=>⟨l.toArray⟩
theorem oX (L:List bU):(pO L).length=L.length:=by simp[pO]
theorem Gq (w w1:bD)(L:List bU)(v:Value)(h:SO w L v w1)(hl:L.length<100):
  Calls Tryz.prog 265 #[v] w1 fun e w'=>e= .returned (.tuple #[])/\SO w (pO L) v w':=by
 by_cases h0:L.length=0
 ·obtain rfl:=List.eq_nil_of_length_eq_zero h0;rw[h.nil rfl];refine(Tryz.slices_Sort_string_none none 0 w1).mono ?_;rintro e w' ⟨rfl,hw⟩;subst w';exact⟨rfl,by rw[<-h.nil rfl,show pO []=[]by simp[pO]];exact h⟩
 ·obtain⟨g,cap,hv,hb,hg⟩:=h.own.form (by omega);subst hv;have hat: ∀(M:List bU) (j:Nat),(uD M)[j]? =((M.map fun s=>s.data.toList)[j]?).map encStr:=fun M j=>by
   simp only[uD,List.getElem?_map];cases M[j]? <;>simp[encStr]
  have hH:Holds encStr w1 g 0 (L.map fun s=>s.data.toList).toArray:=fun j hj=>by
   have hj':j<L.length:=by simpa using hj
   rw[Nat.zero_add];refine⟨?_,h.own.frozenAt j⟩;rw[h.own.cellAt j (by omega),hat,aW (by simpa using hj'),Option.map_some,getElem!_pos _ j hj];simp
  have hS:=Tryz.slices_Sort_string g 0 cap (L.map fun s=>s.data.toList) w1 hH hg (by simp;omega);rw[List.length_map]at hS;refine hS.mono ?_;rintro e w' ⟨rfl,n,os,rfl⟩;refine⟨rfl,?_⟩;obtain⟨D,hD⟩:=nJ (((L.map fun s=>s.data.toList).mergeSort fun x y=>decide (x<=y)));have hDl:D.length=L.length:=by rw[<-hD];simp
  have hsr:pO L=D.map fun l=>⟨l.toArray⟩:=by unfold pO;rw[hD]
  rw[hD];have hgr:w1.grownBy (grow (putRow encStr (Sort.ahead w1 n) g 0 D.toArray) os) (some g):=by
   refine⟨rfl,rfl,rfl,?_,fun k hk hne=>?_⟩
   ·unfold Sort.grow Sort.putRow Sort.mapBlock Sort.ahead;simp
   ·unfold Sort.grow Sort.putRow Sort.mapBlock Sort.ahead;rw[Array.getElem?_append_left (by simpa using hk),Array.getElem?_modify,aI (fun e=>hne (by rw[e]))]
  have hbl: ∀k,(some g:Option Nat)=some k->w.heap.size<=k:=fun k e=>by injection e with e;omega
  refine⟨h.bF.grown hgr h.bF.size hbl,?_,fun e=>by
   have:=oX L;rw[e]at this;simp at this;omega⟩
  rcases h.own.2 with⟨hv,_⟩|⟨g',cap',cur,hv,hb',hgg,hnc,hcm,hcs,htake⟩
  ·cases hv
  ·simp only[Value.slice.injEq,Option.some.injEq,Addr.mk.injEq,and_true,true_and]at hv;obtain⟨rfl,rfl⟩:=hv;have hheap:(grow (putRow encStr (Sort.ahead w1 n) g 0 D.toArray) os).heap[g]? =some (.cells (putCells encStr 0 D.toArray cur) 9 (0,0)):=by
    rw[heap_grow_old _ _ (by simpa[putRow,mapBlock,Sort.ahead]using hg)];simp[putRow,mapBlock,Sort.ahead,Array.getElem?_modify,hgg,onCells]
   rw[oX];refine⟨by simp[uD,oX], .inr ⟨g,cap,_,rfl,hb,hheap,hnc,hcm,by simpa[putCells]using hcs,?_⟩⟩;apply List.ext_getElem?;intro t;by_cases ht:t<L.length
   ·have hc:t<cur.size:=by rw[hcs];omega
    unfold putCells;grind
   ·rw[List.getElem?_eq_none (by rw[List.length_take];omega),List.getElem?_eq_none (by simp[uD,oX];omega)]
def Tr.pV (F:Fo)(z:Int):List bU:=if Tr.bj F z 2=0 then pO (Tr.rF (F.nd z.toNat) (F.nd z.toNat).size)else[]
theorem Iw (b:Nat)(z:Int)(F:Fo)(w:bD)(h:ar w b F)(hs:Tr.jD F):
  Calls Tryz.prog 213 #[.pointer (some ⟨b,0,none⟩), .int .i64 z] w fun e w'=> ∃v,e= .returned (.tuple #[v,aq (Tr.bj F z 2)])/\SO w (Tr.pV F z) v w':=by
 have HF:=hZ h;by_cases c:Tr.bj F z 2=0
 ·obtain⟨n,rfl,n40,_,k2⟩:=Tr.dY c;have hm8:=hs n n40 k2;have EP:Hid (Tr.bj F (n:Int) 2=0/\dW b (n:Int) 0= .pointer (some ⟨b,n*62,none⟩)/\Tr.pV F (n:Int)=pO (Tr.rF (F.nd n) (F.nd n).size)):=hZ ⟨c,fE b n,by unfold Tr.pV;rw[aJ c,hU]⟩;have HM8:=hZ hm8;obtain⟨i0,hi0,hz0,hz1,hz2⟩:=Oz;clear h c hs k2;go_in
  go_wp2_with fail
  refine(j6 b n F _ HF.out).mono ?_;rintro e w1 ⟨rfl,hw1⟩;subst w1;rw[EP.out.1,EP.out.2.1,aa];go_wp2_with fail
  refine(oZ b n F _ HF.out n40 HM8.out).mono ?_;rintro e w1 ⟨rfl,kd,hw1⟩;have S0:Hid (SO w [] (.slice none 0 0) w1):=hZ (by
   have:=aQ w.heap.size w;rw[hw1];exact(SO.start w).below ⟨this.os,this.tape,this.output,this.size,this.block⟩)
  clear hw1;obtain⟨sz,hsz⟩:=nJ ((F.nd n).size);have HSZ:=hZ hsz;rw[hsz]at hm8|-;clear hsz;go_wp2_with fail
  go_loopw [8,10,23] (fun v x i wr=> ∃(j:Nat),i= .int .i64 j/\j<=sz/\Hid (SO w (Tr.rF (F.nd n) j) v wr)) (fun _ _ i _=>sz-(intOf i).toNat)
  case atStart=>exact⟨0,rfl,by omega,S0⟩
  case round=>
   obtain⟨j,rfl,hj,R⟩:=hrel;by_cases hlt:j<sz
   ·have hltI:(j:Int)<(sz:Int):=by omega
    have hb:=HF.out.below R.out.bF;have c0:=hb.uM n j n40 (by omega);have c1:=hb.rO n j n40 (by omega);have SE:=hZ (Tr.Kj (F.nd n) j);obtain⟨nm,hnm⟩:=nJ ((F.nd n).dz j);rw[hnm]at c0 SE;generalize (F.nd n).bO j=kk at c1;clear hb hnm;go_upto_region 8 with fail
    refine bw (fun W=>SO w (Tr.rF (F.nd n) j) u8 W/\W.cell? ⟨wr.heap.size,0,none⟩=some (.string nm)) ⟨R.out.below ((aQ _ _).alloc (aL _) _),by rw[au (heap_alloc_new wr _)];rfl⟩ ?_;intro W1 h1;have S1:=hZ h1.1;have c2:=h1.2;clear h1 R c0 c1;obtain⟨va,vc,hv⟩:=S1.out.form;rw[Tr.qj]at hv;subst hv;go_wp2_with (at_builtin;refine wpList_append_lies _ rfl _ _ 152 (by rfl) w.heap.size 9 i0 (.string ⟨#[]⟩) 1 16 Tryz.underlying152 hi0 hz0 hz1 hz2 rfl (by decide) (.slice va j vc) j (uD (Tr.rF (F.nd n) j)) (by rfl) (by have:=S1.out.own;rw[Tr.qj]at this;exact this.alloc _) ⟨W1.heap.size,0,none⟩ 1 1 [.string nm] (by rfl) rfl (World.news_of_block (heap_alloc_new W1 _)) (by simp[Value.oneCell']) (by decide) (by unfold maxLen;omega) (by omega) (by have:=S1.out.bF.size;simp;omega) (W1.heap.size+1) (by simp) ?_;intro gg cap2 w2 hown hgrow hat hlt2;have Q1:Hid (SO w (Tr.rF (F.nd n) j++[nm]) (.slice (some ⟨gg,0,none⟩) (j+1) cap2) w2):=hZ (S1.out.more nm (Tr.qj _ _) hown _ hgrow);clear hown hgrow hat hlt2)
    go_roundw
    case rel=>exact⟨j+1,by go_num,by omega,by rw[SE.out];exact Q1⟩
    case measure=>simp[intOf];omega
   ·have hltI: ¬(j:Int)<(sz:Int):=by omega
    obtain rfl:j=sz:=by omega
    have hln:=Tr.qj (F.nd n) j;go_wp2_with fail
    refine(Gq w _ _ _ R.out (by omega)).mono ?_;rintro e w2 ⟨rfl,h2⟩;have FIN:Hid (SO w (Tr.pV F (n:Int)) u8 w2):=hZ (by rw[EP.out.2.2,HSZ.out];exact h2);clear h2;go_wp2
    go_ret2
    rw[EP.out.1];exact⟨_,rfl,FIN.out⟩
 ·have E2:Hid (dW b z (Tr.bj F z 2)= .pointer none/\aq (Tr.bj F z 2)= .iface 100 (.int .i64 (Tr.bj F z 2))/\Tr.pV F z=[]):=hZ ⟨fY c,aj c,aI c⟩;clear h c hs;go_in
  go_wp2_with fail
  refine(j6 b z F _ HF.out).mono ?_;rintro e w1 ⟨rfl,hw⟩;subst w1;rw[E2.out.1,E2.out.2.1];go_wp2
  go_ret2
  rw[E2.out.2.1,E2.out.2.2];exact⟨_,rfl,SO.start w⟩

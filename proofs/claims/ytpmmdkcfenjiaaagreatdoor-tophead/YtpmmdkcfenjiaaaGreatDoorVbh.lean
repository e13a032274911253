import Derived.Test.YtpmmdkcfenjiaaaGreatDoorVbg
set_option linter.unusedVariables false
set_option linter.unusedSimpArgs false
set_option maxRecDepth 100000
set_option maxHeartbeats 2000000
namespace Go.Proofs.YtpmmdkcfenjiaaaGreatDoor
open Go.RowKit
open Fx (Fi)
open Tr (Fo Nd)
open Pp (Pi)
open Mo (Wh Mt)
open Mv (Me Bk)
open Kn (Pr Kp St us KB KJ VI EI KH)
namespace Kn
theorem JT {F:Fo}(h:Tr.sY F)(z m:Int)(a:Nat)(ha:a<=40):a+(Tr.iB F z (a:Int) m).size<=40:=by
 unfold Tr.iB;split
 ·rename_i d;have i0:Tr.bj F z 1=0:=by
   unfold Tr.dA at d;by_cases e:Tr.bj F z 1≠0
   ·rw[aJ e]at d;exact aZ d e
   ·omega
  obtain⟨n,rfl,n40,_,k1⟩:=Tr.dY i0;have z40:=h n n40 k1;have sz: ∀(L:List Int) (r:bU),(L.foldl (fun r n=>r.push (UInt8.ofNat n.toNat)) r).size=r.size+L.length:=by
   intro L
   induction L with
   |nil=>intro r;rfl
   |cons x L ih=>intro r;rw[List.foldl_cons,ih,ByteArray.size_push,List.length_cons];omega
  rw[hU,hU];unfold Tr.Lc;rw[sz,Tr.tP];show a+(0+_)<=40;omega
 ·exact ha
section
variable {N : Nat} {d : Nat -> Nat} {k k' : Kp}
theorem KH.fx (h:KH N d k){M:Nat}(hM:N<=M){T:Nat->Fi}{F:Fo}{S:Nat->Pi}(wx:WX (iG k) T F S)(rf: ∀n,n<24->(T n).refs<=8*M)(ok:Tr.Ok F):KH M d (ix k T F S):=by
 have g:=h.more hM;have j:=g.ki.vi.kj;exact g.jd ⟨⟨⟨j.sp,j.gr,j.me,wx,rf,ok,j.tb,j.st,j.hs,j.lv,j.of,j.ht,j.nm⟩,g.ki.vi.iv,g.ki.vi.hs⟩,g.ki.fi,g.ki.pr,g.ki.h0⟩ rfl (fun m=>⟨rfl,rfl⟩)
theorem Lu (k:Kp)(n f:Nat)(v:Int)(m:Nat):((eS k n f v).p m).st=(k.p m).st/\((eS k n f v).p m).par=(k.p m).par/\((eS k n f v).p m).box=(k.p m).box/\((eS k n f v).p m).has=(k.p m).has/\((eS k n f v).p m).fd=if m=n then(fun i=>if i=f then v else(k.p n).fd i)else(k.p m).fd:=by
 unfold eS;by_cases c:m=n
 ·subst c;rw[ai,aJ rfl];exact⟨rfl,rfl,rfl,rfl,rfl⟩
 ·rw[ao _ _ _ _ c,aI c];exact⟨rfl,rfl,rfl,rfl,rfl⟩
theorem KH.fd (h:KH N d k)(n f:Nat)(v:Int):KH N d (eS k n f v):=by
 have e:=Lu k n f v;have l: ∀m,lv (eS k n f v) m=lv k m:=fun m=>by unfold lv;rw[(e m).1]
 refine h.jd ⟨⟨h.ki.vi.kj.AR rfl rfl rfl,h.ki.vi.iv,h.ki.vi.hs⟩,fun m hm lm hm2=>?_,fun m hm m0 s=>?_,h.ki.h0⟩ rfl (fun m=>⟨(e m).1,(e m).2.1⟩)
 ·rw[(e m).2.2.1];rw[l]at lm;exact h.ki.fi m hm lm hm2
 ·rw[(e m).1]at s;rw[(e m).2.1];exact h.ki.pr m hm m0 s
theorem KH.O1 (h:KH N d k)(z f m:Int):KH N d (mP k z f m):=by
 have j:=h.ki.vi.kj;unfold mP;split
 ·generalize za k z f=v;have a:WX (iG k) (Fx.gE k.fi k.fo v m) k.fo k.pi/\ ∀a,a<24->(Fx.gE k.fi k.fo v m a).refs<=8*N:=by
   unfold Fx.gE;split
   ·rename_i e;obtain⟨n,rfl,n24,r0⟩:=Fx.jz e.1;rw[hU];refine⟨j.wx.jE n24 r0 _ r0 rfl rfl (JT j.ok.fz _ _ _ (j.wx.ps n n24)),fun a ha=>?_⟩;by_cases c:a=n
    ·subst c;rw[Fx.ai];exact j.rf a ha
    ·rw[Fx.ao _ _ _ _ c];exact j.rf a ha
   ·exact⟨j.wx,j.rf⟩
  refine h.fx (aL _) ?_ a.2 j.ok;unfold Fx.oF;split
  ·exact a.1.O1 _ _
  ·exact a.1
 ·exact h
theorem KH.zd (h:KH N d k)(v:Int)(s:bU):KH N d (pX k v s):=by
 have j:=h.ki.vi.kj;have a:WX (iG k) (Fx.oD k.fi k.fo v s) k.fo k.pi/\ ∀a,a<24->(Fx.oD k.fi k.fo v s a).refs<=8*N:=by
  unfold Fx.oD;split
  ·rename_i e;obtain⟨n,rfl,n24,r0⟩:=Fx.jz e.1.1;have e2:=e.2;rw[hU]at e2|-;refine⟨j.wx.jE n24 r0 _ r0 rfl rfl ?_,fun a ha=>?_⟩
   ·show(k.fi n).pos+s.size<=40;unfold Tr.cV at e2;by_cases g:Tr.bj k.fo ((k.fi n).num:Int) 1≠0
    ·rw[aJ g]at e2;exact aZ e2 g
    ·rw[aI g,aI (by omega)]at e2;by_cases g2:40-(s.size:Int)<((k.fi n).pos:Int)
     ·rw[aJ g2]at e2;exact aZ e2 (by decide)
     ·omega
   ·by_cases c:a=n
    ·subst c;rw[Fx.ai];exact j.rf a ha
    ·rw[Fx.ao _ _ _ _ c];exact j.rf a ha
  ·exact⟨j.wx,j.rf⟩
 have b:WX (iG k) (Fx.oD k.fi k.fo v s) (Fx.dF k.fi k.fo v s) k.pi/\Tr.Ok (Fx.dF k.fi k.fo v s):=by
  unfold Fx.dF;split
  ·exact⟨a.1.zd _ _ _,j.ok.zd _ _ _⟩
  ·exact⟨a.1,j.ok⟩
 refine h.fx (aL _) ?_ a.2 b.2;unfold Fx.uN;split
 ·exact b.1.Qp _ _
 ·exact b.1
theorem KH.Rb (h:KH N d k){z:Int}{A C:Nat}{E:Int}(p:ti k z A C E k'):KH (N+1) d k':=by
 have j:=h.ki.vi.kj;have key: ∀{a c:Nat} {T:Nat->Fi} {S:Nat->Pi},Fx.ts k.fi k.pi a c E T S->KH (N+1) d (ix k T k.fo S):=fun{a c T S} pt=>by
  have up: ∀a,a<24->(k.fi a).refs<=8*(N+1):=fun a ha=>by have:=j.rf a ha;omega
  rcases pt with⟨_,_,_,_,rfl,rfl⟩|⟨_,n,e,hf,⟨_,_,_,_,rfl,rfl⟩|⟨rfl,_,a1,d1,rfl,rfl⟩⟩
  ·exact h.fx (by omega) j.wx up j.ok
  ·exact h.fx (by omega) j.wx up j.ok
  ·refine h.fx (by omega) (j.wx.pipe hf a1 d1) (fun x hx=>?_) j.ok;by_cases e:x=c
   ·subst e;rw[Fx.ai];show 1<=_;omega
   ·rw[Fx.ao _ _ _ _ e];by_cases e2:x=a
    ·subst e2;rw[Fx.ai];show 1<=_;omega
    ·rw[Fx.ao _ _ _ _ e2];exact up x hx
 rcases p with⟨_,_,_,_,rfl⟩|⟨_,n,rfl,hn,⟨_,_,_,_,rfl⟩|⟨_,a,c,T,S,pt,⟨_,_,_,rfl⟩|⟨_,_,_,rfl⟩⟩⟩
 ·exact h.more (by omega)
 ·exact h.more (by omega)
 ·exact key pt
 ·exact((key pt).fd _ _ _).fd _ _ _
theorem KH.QC (h:KH N d k)(z f:Int):KH N d (mR k z f):=by
 unfold mR;split
 ·have g:=h.fd z.toNat f.toNat (-1);have j:=g.ki.vi.kj.PX ((k.p z.toNat).fd f.toNat);exact g.fx (aL _) j.wx j.rf j.ok
 ·exact h
end
end Kn
def Kn.Nx (base:Nat)(s:St)(w:bD)(R:Value->Kp->Prop)(e:Ending)(w':bD):Prop:= ∃v s',e= .returned v/\R v s'.k/\ak w' base s'/\KF s w s' w'
theorem Kn.Nx.no {base:Nat}{s:St}{w:bD}{R:Value->Kp->Prop}(h:ak w base s){v:Value}(r:R v s.k):Kn.Nx base s w R (.returned v) w:=⟨v,s,rfl,r,h,KF.refl _ _⟩
theorem Kn.Nx.mk {base:Nat}{s:St}{w w':bD}{R:Value->Kp->Prop}{v:Value}{k:Kp}(r:R v k)(h:ak w' base {s with k:=k}/\KF s w {s with k:=k} w'):Kn.Nx base s w R (.returned v) w':=⟨v,_,rfl,r,h⟩
theorem bM {f:Nat}{a:Array Value}{w:bD}{E:Ending}{Q:Ending->bD->Prop}(h:Calls Tryz.prog f a w fun e w'=>e=E/\w'=w)(q:Q E w):Calls Tryz.prog f a w Q:=h.mono (by rintro _ _ ⟨rfl,rfl⟩;exact q)
theorem below_drewN (w:bD)(j:Nat):Below w.heap.size w (w.drewN j):=⟨rfl,rfl,rfl,aL _,fun _ _=>rfl⟩
theorem ak.K9 {w w':bD}{base:Nat}{s:St}(h:ak w base s){n:Nat}(hn:n<20)(hh:(s.k.p n).has=true){m:Me}(u:cA w' (s.A (9+n)) (s.A 4) m)(f:af (s.A (9+n)) w w'):ak w' base {s with k:=Kn.bR s.k n m s.k.bk}/\KF s w {s with k:=Kn.bR s.k n m s.k.bk} w':=
 have b:=h.ub hn hh
 h.vO hn hh ⟨u,b.bk.jW f b.br b.bq,b.br,b.bq⟩ (eU.mem f)
section
variable (base N : Nat) (d : Nat -> Nat) (s : St) (w : bD)
def Kn.Ei (k:Kp)(z:Int)(on:Bool)(v:Value)(k':Kp):Prop:= ∃E m',v=aq E/\(Kn.bc k z=0/\Wf.im k.sc z (!on) m'\/m'=k.sc)/\k'={k with sc:=m'}
theorem DX (z:Int)(on:Bool)(h:ak w base s):
  Calls Tryz.prog 53 #[.pointer (some ⟨s.A 0,0,none⟩), .int .i64 z, .bool on] w (Kn.Nx base s w (Kn.Ei s.k z on)):=by
 have AC:=hZ (dg base s w z h);have H:=hZ h;by_cases a:Kn.bc s.k z=0
 ·have A:=hZ a;have WK:=hZ (Wf.Bs (s.A 3) s.k.sc w z (!on) h.sc);have c8:=h.LM;obtain⟨a3,h3⟩:=nJ (s.A 3);have H3:=hZ h3;rw[a,aa]at AC;rw[h3]at WK c8;generalize fP (s.A 0) z 0=ap at*;generalize s.A 0=kb at*;clear h a h3;go_in
  go_wp2_with fail
  refine bM AC.out ?_;go_wp2_with fail
  refine WK.out.mono ?_;rintro e w1 ⟨⟨E1,rfl⟩,u,f⟩;obtain⟨m',t⟩: ∃m',Wf.im s.k.sc z (!on) m':=⟨_,rfl⟩;rw[<-t]at u;have S1:=hZ (H.out.nX (by rw[H3.out];exact u) (by rw[H3.out];exact f));have TT:=hZ t;clear t u f c8;go_wp2
  go_ret
  exact .mk ⟨_,m',rfl, .inl ⟨A.out,TT.out⟩,rfl⟩ S1.out
 ·rw[aj a]at AC;have A:=hZ a;clear h a;generalize fP (s.A 0) z (Kn.bc s.k z)=ap at*;generalize Kn.bc s.k z=ae at*;generalize s.A 0=kb at*;go_in
  go_wp2_with fail
  refine bM AC.out ?_;go_wp2
  go_ret
  exact .no H.out ⟨ae,_,(aj A.out).symm, .inr rfl,rfl⟩
theorem Ko (z a m:Int)(wr:Bool)(h:ak w base s)(hj:KJ (fun _=>False) N s.k):
  Calls Tryz.prog 45 #[.pointer (some ⟨s.A 0,0,none⟩), .int .i64 z, .int .i64 a, .int .i64 m, .bool wr] w (Kn.Nx base s w fun v k'=>(∃n:Nat,z=n/\n<20/\Kn.lv s.k n=true/\v=aq (Mv.pZ (s.k.p n).mem a m)/\k'=Kn.bR s.k n (Mv.mapM (s.k.p n).mem a m wr) s.k.bk)\/Kn.bc s.k z≠0/\v=aq (Kn.bc s.k z)/\k'=s.k):=by
 have AC:=hZ (dg base s w z h);have H:=hZ h;by_cases A:Kn.bc s.k z=0
 ·obtain⟨n,rfl,hn,hl⟩:=Kn.fv A;have hh:=hj.lv n hn (fun x=>x) (Kn.cW.1 hl);have HH:=hZ (aK hh hl);have c4:=h.qQ n hn hh;have UM:=hZ (JU (s.A (9+n)) (s.A 4) a m wr (s.k.p n).mem w (h.me n hn hh));rw[A,aa,gN]at AC;obtain⟨m9,h9⟩:=nJ (s.A (9+n));have H9:=hZ h9;rw[h9]at UM c4;generalize s.A 0=kb at*;clear h hj A h9 hl hh;go_in
  go_wp2_with fail
  refine bM AC.out ?_;go_wp2_with fail
  refine UM.out.mono ?_;rintro e w1 ⟨rfl,u,f⟩;have S1:=hZ (H.out.K9 hn HH.out.1 (by rw[H9.out];exact u) (by rw[H9.out];exact f));clear u f c4;go_wp2
  go_ret
  exact .mk (.inl ⟨n,rfl,hn,HH.out.2,rfl,rfl⟩) S1.out
 ·have A':=hZ A;rw[aj A]at AC|-;clear h hj A;generalize fP (s.A 0) z (Kn.bc s.k z)=ap at*;generalize Kn.bc s.k z=ae at*;generalize s.A 0=kb at*;go_in
  go_wp2_with fail
  refine bM AC.out ?_;go_wp2
  go_ret
  exact .no H.out (.inr ⟨A'.out,rfl,rfl⟩)
theorem GU (z a m:Int)(wr:Bool)(h:ak w base s)(hj:KJ (fun _=>False) N s.k):
  Calls Tryz.prog 46 #[.pointer (some ⟨s.A 0,0,none⟩), .int .i64 z, .int .i64 a, .int .i64 m, .bool wr] w (Kn.Nx base s w fun v k'=>(∃n:Nat,z=n/\n<20/\Kn.lv s.k n=true/\v=aq (Mv.pW (s.k.p n).mem a m)/\k'=Kn.bR s.k n (Mv.sj (s.k.p n).mem a m wr) s.k.bk)\/Kn.bc s.k z≠0/\v=aq (Kn.bc s.k z)/\k'=s.k):=by
 have AC:=hZ (dg base s w z h);have H:=hZ h;by_cases A:Kn.bc s.k z=0
 ·obtain⟨n,rfl,hn,hl⟩:=Kn.fv A;have hh:=hj.lv n hn (fun x=>x) (Kn.cW.1 hl);have HH:=hZ (aK hh hl);have c4:=h.qQ n hn hh;have UM:=hZ (An (s.A (9+n)) (s.A 4) a m wr (s.k.p n).mem w (h.me n hn hh));rw[A,aa,gN]at AC;obtain⟨m9,h9⟩:=nJ (s.A (9+n));have H9:=hZ h9;rw[h9]at UM c4;generalize s.A 0=kb at*;clear h hj A h9 hl hh;go_in
  go_wp2_with fail
  refine bM AC.out ?_;go_wp2_with fail
  refine UM.out.mono ?_;rintro e w1 ⟨rfl,u,f⟩;have S1:=hZ (H.out.K9 hn HH.out.1 (by rw[H9.out];exact u) (by rw[H9.out];exact f));clear u f c4;go_wp2
  go_ret
  exact .mk (.inl ⟨n,rfl,hn,HH.out.2,rfl,rfl⟩) S1.out
 ·have A':=hZ A;rw[aj A]at AC|-;clear h hj A;generalize fP (s.A 0) z (Kn.bc s.k z)=ap at*;generalize Kn.bc s.k z=ae at*;generalize s.A 0=kb at*;go_in
  go_wp2_with fail
  refine bM AC.out ?_;go_wp2
  go_ret
  exact .no H.out (.inr ⟨A'.out,rfl,rfl⟩)
theorem Cn (z a m:Int)(h:ak w base s)(hj:KJ (fun _=>False) N s.k)(hS:Gr.Small s.k.gr):
  Calls Tryz.prog 28 #[.pointer (some ⟨s.A 0,0,none⟩), .int .i64 z, .int .i64 a, .int .i64 m] w (Kn.Nx base s w fun v k'=>(∃n:Nat,z=n/\n<20/\Kn.lv s.k n=true/\v=aq (Kn.ym s.k n a m)/\k'=Kn.cN s.k n a m)\/Kn.bc s.k z≠0/\v=aq (Kn.bc s.k z)/\k'=s.k):=by
 have AC:=hZ (dg base s w z h);have H:=hZ h;by_cases A:Kn.bc s.k z=0
 ·obtain⟨n,rfl,hn,hl⟩:=Kn.fv A;have UM:=hZ (vL base s w n a m h hn (hj.lv n hn (fun x=>x) (Kn.cW.1 hl)) (hj.me.bG hn) hS);have HL:=hZ hl;rw[A,aa,gN]at AC;generalize s.A 0=kb at*;clear h hj A hl hS;go_in
  go_wp2_with fail
  refine bM AC.out ?_;go_wp2_with fail
  refine UM.out.mono ?_;rintro e w1 ⟨rfl,S1⟩;have S1:=hZ S1;go_wp2
  go_ret
  exact .mk (.inl ⟨n,rfl,hn,HL.out,rfl,rfl⟩) S1.out
 ·have A':=hZ A;rw[aj A]at AC|-;clear h hj A hS;generalize fP (s.A 0) z (Kn.bc s.k z)=ap at*;generalize Kn.bc s.k z=ae at*;generalize s.A 0=kb at*;go_in
  go_wp2_with fail
  refine bM AC.out ?_;go_wp2
  go_ret
  exact .no H.out (.inr ⟨A'.out,rfl,rfl⟩)
end
def Kn.TP (s:St)(z:Int)(v:Value):Prop:=Kn.bc s.k z=0-> ∃y,y<6/\s.k.ht y=true/\v= .pointer (some ⟨s.A (49+y),0,none⟩)
theorem Kn.KJ.tab {X:Nat->Prop}{N n:Nat}{k:Kp}(h:KJ X N k)(hn:n<20)(l:Kn.lv k n=true): ∃y,y<6/\k.ht y=true/\Sp.cQ k.sp (n:Int)=y:=by
 obtain⟨d,I⟩:=h.sp;have o:=(h.of n hn).2 (by have:=Kn.cW.1 l;omega);obtain⟨y,hy⟩: ∃y,k.sp.of n=y+1:=⟨k.sp.of n-1,by omega⟩;obtain⟨_,z6,zh⟩:=I.bH hn hy;exact⟨y,z6,by rw[h.ht y z6];exact zh,Sp.fG hn hy⟩
section
variable (base N : Nat) (d : Nat -> Nat) (s : St) (w : bD)
theorem jk (z:Int)(h:ak w base s)(hj:KJ (fun _=>False) N s.k):
  Calls Tryz.prog 92 #[.pointer (some ⟨s.A 0,0,none⟩), .int .i64 z] w fun e w'=> ∃v,e= .returned (.tuple #[v,aq (Kn.bc s.k z)])/\Kn.TP s z v/\Below w.heap.size w w':=by
 have AC:=hZ (dg base s w z h);by_cases A:Kn.bc s.k z=0
 ·obtain⟨n,rfl,hn,hl⟩:=Kn.fv A;obtain⟨y,y6,yt,yi⟩:=hj.tab hn hl;have SP:Hid (∀j,Calls Tryz.prog 62 #[.pointer (some ⟨s.A 0,0,none⟩), .int .i64 n] (w.drewN j) fun e w2=>e= .returned (.int .i64 y)/\w2=w.drewN j):=hZ (fun j=>by have:=fT base s _ (n:Int) (h.drewN j);rwa [yi]at this);have c:=h.Ka y y6 yt;have T:Hid (Kn.TP s n (.pointer (some ⟨s.A (49+y),0,none⟩))):=hZ (fun _=>⟨y,y6,yt,rfl⟩);have yI:(y:Int)<6:=by omega
  rw[A,aa]at AC|-;rw[gN]at AC;generalize s.A 0=kb at*;generalize s.A (49+y)=tb at*;clear h hj A hl yi;go_in
  go_wp2_with fail
  refine bM AC.out ?_;go_upto_region 4 with fail
  go_quiet ((go_at_call 62;exact Calls.quiet_of_same (SP.out _)))
  go_wp2
  go_ret2
  exact⟨_,rfl,T.out,below_drewN _ _⟩
 ·have T:Hid (Kn.TP s z (.pointer none)):=hZ (fun a=>aZ a A);rw[aj A]at AC|-;clear h hj A;generalize fP (s.A 0) z (Kn.bc s.k z)=ap at*;generalize Kn.bc s.k z=ae at*;generalize s.A 0=kb at*;go_in
  go_wp2_with fail
  refine bM AC.out ?_;go_wp2
  go_ret2
  exact⟨_,rfl,T.out,aQ _ _⟩
end
def Kn.FG (k:Kp)(G:Fo):Prop:=Tr.Ok G/\WX (Kn.iG k) k.fi G k.pi
theorem WX.hk {xx:Nat->Nat}{T:Nat->Fi}{F G:Fo}{S:Nat->Pi}(h:WX xx T F S)(e: ∀m,(G.nd m).held=(F.nd m).held/\(G.nd m).kind=(F.nd m).kind):WX xx T G S:=
 h.qt (fun m _=>(e m).1) (fun m _ _=>(e m).2) (fun m hm k=>by rw[(e m).1];rw[(e m).2]at k;exact h.z0 m hm k)
theorem Tr.Hp {F:Fo}{n:Nat}{x:Nd}(h:x.held=(F.nd n).held/\x.kind=(F.nd n).kind)(m:Nat):((F.put n x).nd m).held=(F.nd m).held/\((F.put n x).nd m).kind=(F.nd m).kind:=by
 by_cases c:m=n
 ·subst c;rw[Tr.ai];exact h
 ·rw[Tr.ao _ _ _ _ c];exact⟨rfl,rfl⟩
theorem WX.Io {xx:Nat->Nat}{T:Nat->Fi}{F G:Fo}{S:Nat->Pi}(h:WX xx T F S){z y E:Int}{s o:bU}(hm:Tr.Ea F z s y o E G):WX xx T G S:=by
 obtain⟨K,e,_,⟨_,_,rfl⟩|⟨_,⟨_,_,rfl⟩|⟨_,⟨_,_,rfl⟩|⟨_,⟨_,_,rfl⟩|⟨_,i,_,e2,_,⟨_,_,rfl⟩|⟨_,_,rfl⟩⟩⟩⟩⟩⟩:=hm<;>try exact h
 refine h.hk (fun m=>?_);unfold Tr.EC;rw[(WX.Ht _ m).1,(WX.Ht _ m).2];refine Tr.Hp ?_ m;exact⟨rfl,rfl⟩
theorem WX.Pd {xx:Nat->Nat}{T:Nat->Fi}{F G:Fo}{S:Nat->Pi}(h:WX xx T F S){y z E:Int}{s:bU}(hm:Tr.zD F y z s E G):WX xx T G S:=by
 obtain⟨_,_,rfl⟩|⟨_,e,_,⟨_,_,rfl⟩|⟨_,⟨_,_,rfl⟩|⟨_,_,rfl⟩⟩⟩:=hm<;>try exact h
 refine h.hk (fun m=>?_);unfold Tr.xO;rw[(WX.Ht _ m).1,(WX.Ht _ m).2];refine Tr.Hp ?_ m;exact⟨rfl,rfl⟩
theorem ak.DF {w V w':bD}{base:Nat}{s:St}(h:ak w base s)(b:Below w.heap.size w V){G:Fo}(u:ar w' (s.A 6) G)(f:af (s.A 6) V w'):ak w' base {s with k:={s.k with fo:=G}}/\KF s w {s with k:={s.k with fo:=G}} w':=
 have q:=(h.below b).zy u f
 ⟨q.1,(KF.below b).trans q.2⟩
def Kn.sW (k:Kp)(v:Value)(k':Kp):Prop:= ∃E G,v=aq E/\Kn.FG k G/\k'={k with fo:=G}
theorem Kn.Nx.at {base:Nat}{s:St}{w w':bD}{R:Value->Kp->Prop}(h:ak w base s)(b:Below w.heap.size w w'){v:Value}(r:R v s.k):Kn.Nx base s w R (.returned v) w':=⟨v,s,rfl,r,h.below b,KF.below b⟩
theorem Kn.sW.no {k:Kp}{X:Nat->Prop}{N:Nat}(h:KJ X N k){E:Int}{v:Value}(e:aq E=v):Kn.sW k v k:=⟨E,k.fo,e.symm,⟨h.ok,h.wx⟩,rfl⟩
theorem KX {E:Int}{u v:Value}(e:aq E=v):Ending.returned (.tuple #[u,v])= .returned (.tuple #[u,aq E]):=by rw[e]
section
variable (base N : Nat) (d : Nat -> Nat) (s : St) (w : bD)
theorem sE (z:Int)(p:bU)(h:ak w base s)(hj:KJ (fun _=>False) N s.k):
  Calls Tryz.prog 198 #[.pointer (some ⟨s.A 0,0,none⟩), .int .i64 z, .string p] w fun e w'=> ∃x E:Int,e= .returned (.tuple #[.int .i64 x,aq E])/\Below w.heap.size w w':=by
 have TB:=hZ (jk base N s w z h hj);have H:=hZ (aK h hj);clear h hj;generalize hk:s.A 0=kb at TB|-;clear hk;go_in
 go_wp2_with fail
 refine TB.out.mono ?_;rintro e w1 ⟨v,rfl,tp,b1⟩;have B1:=hZ b1;by_cases A:Kn.bc s.k z=0
 ·obtain⟨y,y6,yt,rfl⟩:=tp A;have K1:=H.out.1.below b1;have WA:=hZ (zK base (s.A (49+y)) (s.A 6) (s.k.tb y) (s.V y) s.k.fo p w1 (K1.tb y y6 yt) K1.fo H.out.2.ok.sz);rw[A,aa];generalize s.A (49+y)=tb at*;clear K1 b1 tp A;go_wp2_with fail
  refine WA.out.mono ?_;rintro e w2 ⟨x,E,rfl,_,b2⟩;have B2:Hid (Below w.heap.size w w2):=hZ (B1.out.trans (b2.mono B1.out.size));clear b2;go_wp2
  go_ret2
  exact⟨x.2,E,rfl,B2.out.alloc B2.out.size _⟩
 ·have A':=hZ (aj A);rw[aj A];generalize Kn.bc s.k z=ae at*;clear b1 tp A;go_wp2
  go_ret2
  exact⟨0,ae,KX A'.out,B1.out⟩
theorem Ky (z:Int)(p:bU)(h:ak w base s)(hj:KJ (fun _=>False) N s.k):
  Calls Tryz.prog 128 #[.pointer (some ⟨s.A 0,0,none⟩), .int .i64 z, .string p] w (Kn.Nx base s w (Kn.sW s.k)):=by
 have TB:=hZ (jk base N s w z h hj);have H:=hZ (aK h hj);have RM:Hid (∀V (x:Int) (nm:bU),Below w.heap.size w V->Calls Tryz.prog 206 #[.pointer (some ⟨s.A 6,0,none⟩), .int .i64 x, .string nm] V fun e w'=> ∃E G,e= .returned (aq E)/\Kn.FG s.k G/\ak w' base {s with k:={s.k with fo:=G}}/\KF s w {s with k:={s.k with fo:=G}} w'):=hZ (fun V x nm b=>(Ce (s.A 6) x nm s.k.fo V (h.below b).fo hj.ok.sz hj.ok.bO).mono (by rintro _ w' ⟨E,G,rfl,r,u,f⟩;exact⟨E,G,rfl,⟨hj.ok.rem r,hj.wx.rem r⟩,h.DF b u f⟩));have C6:Hid (∀V,Below w.heap.size w V->V.cell? ⟨s.A 0,250,none⟩=some (.pointer (some ⟨s.A 6,0,none⟩))):=hZ (fun V b=>(h.below b).vF);clear h hj;generalize hk:s.A 0=kb at TB C6|-;clear hk;go_in
 go_wp2_with fail
 refine TB.out.mono ?_;rintro e w1 ⟨v,rfl,tp,b1⟩;have B1:=hZ b1;by_cases A:Kn.bc s.k z=0
 ·obtain⟨y,y6,yt,rfl⟩:=tp A;have K1:=H.out.1.below b1;have LA:=hZ (uK base (s.A (49+y)) (s.A 6) (s.k.tb y) (s.V y) s.k.fo p w1 (K1.tb y y6 yt) K1.fo H.out.2.ok.sz);rw[A,aa];generalize s.A (49+y)=tb at*;generalize s.A 6=a6 at*;clear K1 b1 tp A;go_wp2_with fail
  refine LA.out.mono ?_;rintro e w2 ⟨x,nm,E,rfl,_,b2⟩;have B2:Hid (Below w.heap.size w w2):=hZ (B1.out.trans (b2.mono B1.out.size));clear b2;by_cases E0:E=0
  ·subst E0;rw[aa];go_upto_region 7 with fail
   have B3:=hZ (B2.out.alloc B2.out.size (.cells #[.int .i64 x.1, .int .i64 x.2] 224));have c6:=C6.out _ B3.out;go_region_with ((go_at_call 206;refine(RM.out _ _ _ (by first|exact B3.out|exact B3.out.drew)).mono ?_;rintro e w4 ⟨E,G,rfl,S4⟩;have S4:=hZ S4))
   all_goals
    go_wp2
    go_ret
    exact .mk ⟨E,G,rfl,S4.out.1,rfl⟩ S4.out.2
  ·have E1:=hZ (aj E0);rw[aj E0];clear E0;go_wp2
   go_ret
   exact .at H.out.1 (B2.out.alloc B2.out.size _) (.no H.out.2 E1.out)
 ·have A':=hZ (aj A);rw[aj A];generalize Kn.bc s.k z=ae at*;clear b1 tp A;go_wp2
  go_ret
  exact .at H.out.1 B1.out (.no H.out.2 A'.out)
end
namespace Gr
def QT (li:Bool)(t t':Nat->Gp):Prop:=t'=t\/(∃n p:Nat,n<10/\(t n).there=false/\t'=fX t n (tR p))\/(∃(Wy:Nat->List (Fin 10)) (n:Nat),n<10/\n≠0/\gQ t Wy/\cU t Wy n Gp.op 10=0/\cU t Wy n Gp.oq 10=0/\t'=fX t n lg)\/li=true/\ ∃(n:Nat) (a b:Int),t'=fX t n {t n with lp:=a,lq:=b}
end Gr
namespace Kn
def SG (k:Kp)(m:Wf.M):Prop:=Wf.SG k.sc m
def DP (li:Bool)(N:Nat)(k k':Kp):Prop:= ∃t m,Gr.QT li k.gr t/\(∃Wy,Gr.Tree t Wy N)/\SG k m/\k'={k with gr:=t,sc:=m}
end Kn
def Kn.QK (k:Kp)(n:Nat)(g:Int)(t:Nat->Gr.Gp)(m:Wf.M):Kp:={k.put n {k.p n with bP:=g}with gr:=t,sc:=m}
def Kn.Kq (k:Kp)(z g:Int)(v:Value)(k':Kp):Prop:= ∃E,v=aq E/\(k'=k\/ ∃(n:Nat) (Wy:Nat->List (Fin 10)) (m:Wf.M),z=n/\n<20/\Kn.lv k n=true/\Gr.gQ k.gr Wy/\Gr.Jp k.gr Wy (k.p n).bP g 1 (Mv.gB (k.p n).mem 16:Int)=0/\Kn.SG k m/\k'=Kn.QK k n g (Gr.BG k.gr Wy (k.p n).bP g 1 (Mv.gB (k.p n).mem 16:Int)) m)
namespace Kn
def P6 (k k':Kp):Prop:= ∃m y q:Nat,m<20/\m≠0/\lv k m=true/\k.sp.of m=y+1/\(k.p m).par=(q:Int)/\j7 k m 137 y q k'
def Pb:Nat->Kp->Kp->Prop
 |0,k,k'=>k'=k
 |j+1,k,k'=> ∃k1,Pb j k k1/\P6 k1 k'
section
variable {N : Nat} {d : Nat -> Nat} {k k' : Kp} {n z : Nat}
theorem KH.enc (h:KH N d k)(e:P6 k k'):KH N d k':=by
 obtain⟨m,y,q,h1,h2,h3,h4,h5,h6⟩:=e;exact h.end h1 h2 h3 h4 h5 h6
theorem KH.ND (h:KH N d k): ∀j {k':Kp},Pb j k k'->KH N d k'
 |0,_,e=>by rw[show _=k from e];exact h
 |j+1,_,⟨_,a,b⟩=>(h.ND j a).enc b
theorem FL (k:Kp)(q m:Nat):((ik k q).p m).st=(k.p m).st/\((ik k q).p m).bP=(k.p m).bP:=by
 unfold ik;split
 ·unfold gH;by_cases c:m=q
  ·subst c;rw[ai];exact⟨rfl,rfl⟩
  ·rw[ao _ _ _ _ c];exact⟨rfl,rfl⟩
 ·exact⟨rfl,rfl⟩
end
end Kn
def Kn.qC (k:Kp):Prop:= ∀g,g<10->(k.gr g).there=true->(k.gr g).lp= -1/\(k.gr g).lq= -1
def Kn.Q4 (j:Nat)(k k':Kp):Prop:=Kn.Pb j k k'/\(Kn.qC k->j=0)
theorem Gr.Way.in {t:Nat->Gr.Gp}: ∀{L:List Nat} {g:Int},Gr.Way t g L-> ∀x∈L,(t x).there=true
 |[],_,_,_,h=>by cases h
 |_::_,_,⟨_,_,a,b⟩,x,h=>by
  rcases List.mem_cons.1 h with rfl|h
  ·exact a
  ·exact Gr.Way.in b x h
theorem Gr.Kw {t:Nat->Gr.Gp}{Wy:Nat->List (Fin 10)}{p q:Int}{y:Fin 10}(h:Gr.fJ t Wy p q y=true):(t y.val).lp≠ -1\/(t y.val).lq≠ -1:=by
 unfold Gr.fJ Gr.kB at h;simp only[Bool.or_eq_true,decide_eq_true_eq]at h;exact h.imp (fun x=>x.1) (fun x=>x.1)
def Kn.zw (k:Kp)(n:Nat)(E:Int)(k':Kp):Prop:= ∃j k1,Kn.Q4 j k k1/\((Kn.lv k1 n=true/\(k1.p n).bP=(k.p n).bP/\ ∃Wy,Gr.gQ k1.gr Wy/\E=Gr.jB k1.gr Wy (k.p n).bP 0 1/\k'={k1 with gr:=Gr.iR k1.gr Wy (k.p n).bP 0 1})\/(E=6/\k'=k1))
section
variable (base N : Nat) (d : Nat -> Nat) (s : St) (w : bD)
theorem FY {t:Nat->Gr.Gp}{Wy:Nat->List (Fin 10)}(b:Nat)(g:Int)(V:bD)(h:Gr.bd V b t)(hW:Gr.gQ t Wy)(hS:Gr.Small t):Calls Tryz.prog 238 #[.pointer (some ⟨b,0,none⟩), .int .i64 g, .int .i64 0, .int .i64 1] V fun e w'=> ∃(f:Int) (l:Bool),e= .returned (.tuple #[.int .i64 f, .bool l])/\(l=true-> ∃g,g<10/\(t g).there=true/\((t g).lp≠ -1\/(t g).lq≠ -1))/\Below V.heap.size V w':=by
 by_cases r:Gr.dU t g 0 1=0
 ·obtain⟨n,rfl,hn,_⟩:=Gr.lx r;refine(Gr.JE b n 0 1 t Wy V h hW hS hn r).mono ?_;rintro _ w' ⟨⟨_,rfl⟩|⟨_,x,_,wy,_,lk,rfl⟩,b⟩
  ·exact⟨0,false,rfl,nofun,b⟩
  ·exact⟨_,true,rfl,fun _=>⟨x,x.2,(hW n hn).in x (List.mem_map_of_mem (by rw[wy];simp)),Gr.Kw lk⟩,b⟩
 ·refine(Gr.Is b g 0 1 t V h r).mono ?_;rintro _ w' ⟨rfl,b⟩;exact⟨0,false,rfl,nofun,b⟩
end
namespace Kn
theorem KH.LH {N n:Nat}{d:Nat->Nat}{k k':Kp}{E:Int}(h:KH N d k)(c:zw k n E k'):KH (N+1) d k':=by
 obtain⟨j,k1,⟨e,_⟩,⟨_,_,Wy,hW,_,rfl⟩|⟨_,rfl⟩⟩:=c
 ·have g:=h.ND j e;obtain⟨Wz,hz⟩:=g.ki.vi.kj.gr;exact g.gr (Nat.le_succ _) ⟨Wy,oL (uH hz hW) _ _ _ (by omega) (by omega)⟩
 ·exact(h.ND j e).more (Nat.le_succ _)
def kD (a:Int)(D:Kp->Nat->Int->Kp->Prop)(k:Kp)(z:Int)(v:Value)(k':Kp):Prop:=
 ∃E,v=aq E/\((E≠0/\k'=k)\/ ∃n:Nat,z=n/\n<20/\lv k n=true/\((Mv.mh (k.p n).mem a=false/\D k n E k')\/(Mv.mh (k.p n).mem a=true/\ ∃E1 k1,zw k n E1 k1/\((E1≠0/\E=E1/\k'=k1)\/(E1=0/\ ∃k2,D k1 n E k2/\((E=0/\k'=k2)\/(E≠0/\k'={k2 with gr:=Gr.gA k2.gr (k2.p n).bP 0 1})))))))
end Kn
def Kn.Gw (base:Nat)(s:St)(w:bD):Prop:= ∀V (n:Nat),Below w.heap.size w V->n<20->Kn.lv s.k n=true->Calls Tryz.prog 184 #[.pointer (some ⟨s.A 0,0,none⟩), .int .i64 n] V (Kn.Nx base s V fun v k'=> ∃E,v=aq E/\Kn.zw s.k n E k')
theorem jY {E:Int}(h:aq E= .nilIface):E=0:=by
 by_cases c:E=0
 ·exact c
 ·rw[aj c]at h;cases h
section
variable (base N : Nat) (d : Nat -> Nat) (s : St) (w : bD)
theorem BW (z a:Int)(c1 c2:Nat)(D:Kp->Nat->Int->Kp->Prop)(KG:bD->St->Prop)(P:Nat->bD->Kp->Prop)(cp:Kn.Gw base s w)(hN:N<900)(h:ak w base s)(hh:KH N d s.k)(hD: ∀k n E k',D k n E k'->k'.gr=k.gr/\(k'.p n).bP=(k.p n).bP)(hG: ∀V s1 W s2,KG V s1->KF s1 V s2 W->KG W s2)(hG0: ∀V s1,KF s w s1 V->KG V s1)
  (DO: ∀V s1 n,ak V base s1->KF s w s1 V->KH (N+1) d s1.k->n<20->Kn.lv s1.k n=true->Calls Tryz.prog 107 #[.pointer (some ⟨s1.A (9+n),0,none⟩), .pointer (some ⟨c1,0,none⟩), .pointer (some ⟨c2,0,none⟩)] V fun e w'=> ∃E k',e= .returned (aq E)/\D s1.k n E k'/\ak w' base {s1 with k:=k'}/\KG w' {s1 with k:=k'}/\(E=0->P n w' k')):
  Calls Tryz.prog 106 #[.pointer (some ⟨s.A 0,0,none⟩), .int .i64 z, .int .i64 a, .bool false, .func (.func 107) #[] #[.pointer (some ⟨c1,0,none⟩), .pointer (some ⟨c2,0,none⟩)]] w fun e w'=> ∃v s',e= .returned v/\Kn.kD a D s.k z v s'.k/\ak w' base s'/\KG w' s'/\(v= .nilIface->P z.toNat w' s'.k):=by
 have AC:=hZ (dg base s w z h);have H:=hZ (aK h (aK hh hN));have HG:=hZ (aK hG (aK hG0 hD));have NO:Hid (∀W E,Below w.heap.size w W->E≠0-> ∃v s',Ending.returned (aq E)= .returned v/\Kn.kD a D s.k z v s'.k/\ak W base s'/\KG W s'/\(v= .nilIface->P z.toNat W s'.k)):=hZ (fun W E b e=>⟨_,s,rfl,⟨E,rfl, .inl ⟨e,rfl⟩⟩,h.below b,hG0 _ _ (KF.below b),fun c=>aZ (jY c) e⟩);have DO:=hZ DO;have C0:=hZ cp;clear cp;clear hG hG0 hD;by_cases A:Kn.bc s.k z=0
 ·obtain⟨n,rfl,hn,hl⟩:=Kn.fv A;have hs:=hh.ki.vi.kj.lv n hn (fun x=>x) (Kn.cW.1 hl);have HL:=hZ (aK hl hs);have C4:Hid (∀V,Below w.heap.size w V->V.cell? ⟨s.A 0,n*12+4,none⟩=some (.pointer (some ⟨s.A (9+n),0,none⟩))):=hZ (fun V b=>(h.below b).qQ n hn hs);have c4:=C4.out _ (aQ _ _);have MY:=hZ (mJ (s.A (9+n)) (s.A 4) a false (s.k.p n).mem w (h.me n hn hs));obtain⟨kb,hk⟩:=nJ (s.A 0);obtain⟨m9,h9⟩:=nJ (s.A (9+n));have HK:=hZ (aK hk h9);rw[A,aa,gN]at AC;rw[hk]at AC C4 c4|-;rw[h9]at C4 c4 MY;clear h hh A hl hs hk h9;go_in
  go_wp2_with fail
  refine bM AC.out ?_;go_wp2_with fail
  refine MY.out.mono ?_;rintro e w1 ⟨rfl,b1⟩;clear c4;cases Mv.jA (s.k.p n).mem a false
  ·go_wp2
   go_ret
   exact NO.out _ 10 b1 (by decide)
  ·have WN:=hZ (wo (s.A (9+n)) (s.A 4) a (s.k.p n).mem w1 ((H.out.1.below b1).me n hn HL.out.2));have c4:=C4.out _ b1;rw[HK.out.2]at WN;go_wp2_with fail
   refine WN.out.mono ?_;rintro e w2 ⟨rfl,b2⟩;have b2:=b1.trans (b2.mono b1.size);clear c4;cases hw:Mv.mh (s.k.p n).mem a
   all_goals have HW:=hZ hw;clear hw
   ·have D2:=hZ (DO.out w2 s n (H.out.1.below b2) (KF.below b2) (H.out.2.1.more (Nat.le_succ _)) hn HL.out.1);have c4:=C4.out _ b2;rw[HK.out.2]at D2;go_wp2_with fail
    refine D2.out.mono ?_;rintro e w3 ⟨E,k',rfl,S3⟩;have S3:=hZ S3;clear c4;go_wp2
    go_ret
    exact⟨_,_,rfl,⟨E,rfl, .inr ⟨n,rfl,hn,HL.out.1, .inl ⟨HW.out,S3.out.1⟩⟩⟩,S3.out.2.1,S3.out.2.2.1,fun c=>S3.out.2.2.2 (jY c)⟩
   ·have CP:=hZ (C0.out w2 n b2 hn HL.out.1);rw[HK.out.1]at CP;go_wp2_with fail
    refine CP.out.mono ?_;rintro e w3 ⟨v,s1,rfl,⟨E1,rfl,cp⟩,K3,F3⟩;have S3:=hZ (aK cp (aK K3 ((KF.below b2).trans F3)));clear cp K3 F3 b1 b2 C4;by_cases e1:E1=0
    ·subst e1;rw[aa];have ln:Kn.lv s1.k n=true:=by
      obtain⟨j,k1,_,⟨l1,_,Wy,_,_,e⟩|⟨e,_⟩⟩:=S3.out.1
      ·rw[e];exact l1
      ·cases e
     have kh:=H.out.2.1.LH S3.out.1;have hs:=kh.ki.vi.kj.lv n hn (fun x=>x) (Kn.cW.1 ln);have c4:=S3.out.2.1.qQ n hn hs;have D2:=hZ (DO.out w3 s1 n S3.out.2.1 S3.out.2.2 kh hn ln);have ea:=S3.out.2.2.a0.trans HK.out.1;obtain⟨Wy,hW⟩:=kh.ki.vi.kj.gr;have UC:Hid (∀V W k2 E,D s1.k n E k2->E≠0->ak V base {s1 with k:=k2}->KG V {s1 with k:=k2}->Below V.heap.size V W->Calls Tryz.prog 67 #[.pointer (some ⟨s1.A 2,0,none⟩), .int .i64 (k2.p n).bP, .int .i64 0, .int .i64 1] W fun e w'=>(∃u,e= .returned (aq u))/\ ∃v s',Ending.returned (aq E)= .returned v/\Kn.kD a D s.k n v s'.k/\ak w' base s'/\KG w' s'/\(v= .nilIface->P (n:Int).toNat w' s'.k)):=hZ (fun V W k2 E dd e0 kk kg b=>by
      have g:=(HG.out.2.2 _ _ _ _ dd).1;refine(Gr.jT (s1.A 2) _ 0 1 k2.gr W (kk.below b).gr (by rw[g];exact hW.small (by have:=H.out.2.2;omega))).mono ?_;rintro _ w' ⟨rfl,u,f⟩;have q:=(kk.below b).lf u f.wI;exact⟨⟨_,rfl⟩,_,_,rfl,⟨E,rfl, .inr ⟨n,rfl,hn,HL.out.1, .inr ⟨HW.out,0,s1.k,S3.out.1, .inr ⟨rfl,k2,dd, .inr ⟨e0,rfl⟩⟩⟩⟩⟩,q.1,HG.out.1 _ _ _ _ kg ((KF.below b).trans q.2),fun c=>aZ (jY c) e0⟩)
     rw[ea]at c4;generalize h9:s1.A (9+n)=m10 at c4 D2;have EA:=hZ ea;clear ln kh hs hW h9 ea;go_wp2_with fail
     refine D2.out.mono ?_;rintro e w4 ⟨E,k2,rfl,S4⟩;have S4:=hZ S4;clear c4;by_cases e0:E=0
     ·subst e0;rw[aa];go_wp2
      go_ret
      exact⟨_,_,rfl,⟨0,rfl, .inr ⟨n,rfl,hn,HL.out.1, .inr ⟨HW.out,0,s1.k,S3.out.1, .inr ⟨rfl,k2,S4.out.1, .inl ⟨rfl,rfl⟩⟩⟩⟩⟩,S4.out.2.1,S4.out.2.2.1,fun _=>S4.out.2.2.2 trivial⟩
     ·have U4:=hZ (fun W b=>UC.out w4 W k2 E S4.out.1 e0 S4.out.2.1 S4.out.2.2.1 b);have g2:=S4.out.2.1.sr;have g3:=S4.out.2.1.pU n hn;rw[show({s1 with k:=k2}:St).A 0=kb from EA.out]at g2 g3;rw[show({s1 with k:=k2}:St).A 2=s1.A 2 from rfl]at g2;rw[show({s1 with k:=k2}:St).k=k2 from rfl]at g3;have EE:=hZ (aj e0);rw[aj e0]at U4|-;generalize (k2.p n).bP=gg at*;generalize s1.A 2=a2 at*;clear e0;go_upto_region 13 with fail
      go_region_with ((go_at_call 67;refine(U4.out _ (by first|exact aQ _ _|exact(aQ _ _).drew)).mono ?_;rintro e w5 ⟨⟨u,rfl⟩,S5⟩;have S5:=hZ S5))
      all_goals
       go_wp2
       go_ret
       exact S5.out
    ·have EE:=hZ (aK e1 (aj e1));rw[aj e1];clear e1;go_wp2
     go_ret
     exact⟨_,s1,rfl,⟨E1,EE.out.2.symm, .inr ⟨n,rfl,hn,HL.out.1, .inr ⟨HW.out,E1,s1.k,S3.out.1, .inl ⟨EE.out.1,rfl,rfl⟩⟩⟩⟩,S3.out.2.1,HG.out.2.1 _ _ S3.out.2.2,fun c=>aZ (jY (EE.out.2.trans c)) EE.out.1⟩
 ·have N1:=hZ (NO.out w _ (aQ _ _) A);rw[aj A]at AC N1;clear h hh A;generalize fP (s.A 0) z (Kn.bc s.k z)=ap at*;generalize Kn.bc s.k z=ae at*;generalize s.A 0=kb at*;go_in
  go_wp2_with fail
  refine bM AC.out ?_;go_wp2
  go_ret
  exact N1.out
theorem Cw (z a:Int)(c1 c2:Nat)(D:Kp->Nat->Int->Kp->Prop)(KG:bD->St->Prop)(P:Nat->bD->Kp->Prop)(cp:Kn.Gw base s w)(hN:N<900)(h:ak w base s)(hh:KH N d s.k)(hD: ∀k n E k',D k n E k'->k'.gr=k.gr/\(k'.p n).bP=(k.p n).bP)(hG: ∀V s1 W s2,KG V s1->KF s1 V s2 W->KG W s2)(hG0: ∀V s1,KF s w s1 V->KG V s1)
  (DO: ∀V s1 n,ak V base s1->KF s w s1 V->KH (N+1) d s1.k->n<20->Kn.lv s1.k n=true->Calls Tryz.prog 109 #[.pointer (some ⟨s1.A (9+n),0,none⟩), .pointer (some ⟨c1,0,none⟩), .pointer (some ⟨c2,0,none⟩)] V fun e w'=> ∃E k',e= .returned (aq E)/\D s1.k n E k'/\ak w' base {s1 with k:=k'}/\KG w' {s1 with k:=k'}/\(E=0->P n w' k')):
  Calls Tryz.prog 106 #[.pointer (some ⟨s.A 0,0,none⟩), .int .i64 z, .int .i64 a, .bool true, .func (.func 109) #[] #[.pointer (some ⟨c1,0,none⟩), .pointer (some ⟨c2,0,none⟩)]] w fun e w'=> ∃v s',e= .returned v/\Kn.kD a D s.k z v s'.k/\ak w' base s'/\KG w' s'/\(v= .nilIface->P z.toNat w' s'.k):=by
 have AC:=hZ (dg base s w z h);have H:=hZ (aK h (aK hh hN));have HG:=hZ (aK hG (aK hG0 hD));have NO:Hid (∀W E,Below w.heap.size w W->E≠0-> ∃v s',Ending.returned (aq E)= .returned v/\Kn.kD a D s.k z v s'.k/\ak W base s'/\KG W s'/\(v= .nilIface->P z.toNat W s'.k)):=hZ (fun W E b e=>⟨_,s,rfl,⟨E,rfl, .inl ⟨e,rfl⟩⟩,h.below b,hG0 _ _ (KF.below b),fun c=>aZ (jY c) e⟩);have DO:=hZ DO;have C0:=hZ cp;clear cp;clear hG hG0 hD;by_cases A:Kn.bc s.k z=0
 ·obtain⟨n,rfl,hn,hl⟩:=Kn.fv A;have hs:=hh.ki.vi.kj.lv n hn (fun x=>x) (Kn.cW.1 hl);have HL:=hZ (aK hl hs);have C4:Hid (∀V,Below w.heap.size w V->V.cell? ⟨s.A 0,n*12+4,none⟩=some (.pointer (some ⟨s.A (9+n),0,none⟩))):=hZ (fun V b=>(h.below b).qQ n hn hs);have c4:=C4.out _ (aQ _ _);have MY:=hZ (mJ (s.A (9+n)) (s.A 4) a true (s.k.p n).mem w (h.me n hn hs));obtain⟨kb,hk⟩:=nJ (s.A 0);obtain⟨m9,h9⟩:=nJ (s.A (9+n));have HK:=hZ (aK hk h9);rw[A,aa,gN]at AC;rw[hk]at AC C4 c4|-;rw[h9]at C4 c4 MY;clear h hh A hl hs hk h9;go_in
  go_wp2_with fail
  refine bM AC.out ?_;go_wp2_with fail
  refine MY.out.mono ?_;rintro e w1 ⟨rfl,b1⟩;clear c4;cases Mv.jA (s.k.p n).mem a true
  ·go_wp2
   go_ret
   exact NO.out _ 10 b1 (by decide)
  ·have WN:=hZ (wo (s.A (9+n)) (s.A 4) a (s.k.p n).mem w1 ((H.out.1.below b1).me n hn HL.out.2));have c4:=C4.out _ b1;rw[HK.out.2]at WN;go_wp2_with fail
   refine WN.out.mono ?_;rintro e w2 ⟨rfl,b2⟩;have b2:=b1.trans (b2.mono b1.size);clear c4;cases hw:Mv.mh (s.k.p n).mem a
   all_goals have HW:=hZ hw;clear hw
   ·have D2:=hZ (DO.out w2 s n (H.out.1.below b2) (KF.below b2) (H.out.2.1.more (Nat.le_succ _)) hn HL.out.1);have c4:=C4.out _ b2;rw[HK.out.2]at D2;go_wp2_with fail
    refine D2.out.mono ?_;rintro e w3 ⟨E,k',rfl,S3⟩;have S3:=hZ S3;clear c4;go_wp2
    go_ret
    exact⟨_,_,rfl,⟨E,rfl, .inr ⟨n,rfl,hn,HL.out.1, .inl ⟨HW.out,S3.out.1⟩⟩⟩,S3.out.2.1,S3.out.2.2.1,fun c=>S3.out.2.2.2 (jY c)⟩
   ·have CP:=hZ (C0.out w2 n b2 hn HL.out.1);rw[HK.out.1]at CP;go_wp2_with fail
    refine CP.out.mono ?_;rintro e w3 ⟨v,s1,rfl,⟨E1,rfl,cp⟩,K3,F3⟩;have S3:=hZ (aK cp (aK K3 ((KF.below b2).trans F3)));clear cp K3 F3 b1 b2 C4;by_cases e1:E1=0
    ·subst e1;rw[aa];have ln:Kn.lv s1.k n=true:=by
      obtain⟨j,k1,_,⟨l1,_,Wy,_,_,e⟩|⟨e,_⟩⟩:=S3.out.1
      ·rw[e];exact l1
      ·cases e
     have kh:=H.out.2.1.LH S3.out.1;have hs:=kh.ki.vi.kj.lv n hn (fun x=>x) (Kn.cW.1 ln);have c4:=S3.out.2.1.qQ n hn hs;have D2:=hZ (DO.out w3 s1 n S3.out.2.1 S3.out.2.2 kh hn ln);have ea:=S3.out.2.2.a0.trans HK.out.1;obtain⟨Wy,hW⟩:=kh.ki.vi.kj.gr;have UC:Hid (∀V W k2 E,D s1.k n E k2->E≠0->ak V base {s1 with k:=k2}->KG V {s1 with k:=k2}->Below V.heap.size V W->Calls Tryz.prog 67 #[.pointer (some ⟨s1.A 2,0,none⟩), .int .i64 (k2.p n).bP, .int .i64 0, .int .i64 1] W fun e w'=>(∃u,e= .returned (aq u))/\ ∃v s',Ending.returned (aq E)= .returned v/\Kn.kD a D s.k n v s'.k/\ak w' base s'/\KG w' s'/\(v= .nilIface->P (n:Int).toNat w' s'.k)):=hZ (fun V W k2 E dd e0 kk kg b=>by
      have g:=(HG.out.2.2 _ _ _ _ dd).1;refine(Gr.jT (s1.A 2) _ 0 1 k2.gr W (kk.below b).gr (by rw[g];exact hW.small (by have:=H.out.2.2;omega))).mono ?_;rintro _ w' ⟨rfl,u,f⟩;have q:=(kk.below b).lf u f.wI;exact⟨⟨_,rfl⟩,_,_,rfl,⟨E,rfl, .inr ⟨n,rfl,hn,HL.out.1, .inr ⟨HW.out,0,s1.k,S3.out.1, .inr ⟨rfl,k2,dd, .inr ⟨e0,rfl⟩⟩⟩⟩⟩,q.1,HG.out.1 _ _ _ _ kg ((KF.below b).trans q.2),fun c=>aZ (jY c) e0⟩)
     rw[ea]at c4;generalize h9:s1.A (9+n)=m10 at c4 D2;have EA:=hZ ea;clear ln kh hs hW h9 ea;go_wp2_with fail
     refine D2.out.mono ?_;rintro e w4 ⟨E,k2,rfl,S4⟩;have S4:=hZ S4;clear c4;by_cases e0:E=0
     ·subst e0;rw[aa];go_wp2
      go_ret
      exact⟨_,_,rfl,⟨0,rfl, .inr ⟨n,rfl,hn,HL.out.1, .inr ⟨HW.out,0,s1.k,S3.out.1, .inr ⟨rfl,k2,S4.out.1, .inl ⟨rfl,rfl⟩⟩⟩⟩⟩,S4.out.2.1,S4.out.2.2.1,fun _=>S4.out.2.2.2 trivial⟩
     ·have U4:=hZ (fun W b=>UC.out w4 W k2 E S4.out.1 e0 S4.out.2.1 S4.out.2.2.1 b);have g2:=S4.out.2.1.sr;have g3:=S4.out.2.1.pU n hn;rw[show({s1 with k:=k2}:St).A 0=kb from EA.out]at g2 g3;rw[show({s1 with k:=k2}:St).A 2=s1.A 2 from rfl]at g2;rw[show({s1 with k:=k2}:St).k=k2 from rfl]at g3;have EE:=hZ (aj e0);rw[aj e0]at U4|-;generalize (k2.p n).bP=gg at*;generalize s1.A 2=a2 at*;clear e0;go_upto_region 13 with fail
      go_region_with ((go_at_call 67;refine(U4.out _ (by first|exact aQ _ _|exact(aQ _ _).drew)).mono ?_;rintro e w5 ⟨⟨u,rfl⟩,S5⟩;have S5:=hZ S5))
      all_goals
       go_wp2
       go_ret
       exact S5.out
    ·have EE:=hZ (aK e1 (aj e1));rw[aj e1];clear e1;go_wp2
     go_ret
     exact⟨_,s1,rfl,⟨E1,EE.out.2.symm, .inr ⟨n,rfl,hn,HL.out.1, .inr ⟨HW.out,E1,s1.k,S3.out.1, .inl ⟨EE.out.1,rfl,rfl⟩⟩⟩⟩,S3.out.2.1,HG.out.2.1 _ _ S3.out.2.2,fun c=>aZ (jY (EE.out.2.trans c)) EE.out.1⟩
 ·have N1:=hZ (NO.out w _ (aQ _ _) A);rw[aj A]at AC N1;clear h hh A;generalize fP (s.A 0) z (Kn.bc s.k z)=ap at*;generalize Kn.bc s.k z=ae at*;generalize s.A 0=kb at*;go_in
  go_wp2_with fail
  refine bM AC.out ?_;go_wp2
  go_ret
  exact N1.out
end
def Kn.uX (a:Int)(k:Kp)(n:Nat)(E:Int)(k':Kp):Prop:= ∃g m b,Mv.nP (k.p n).mem k.bk a false E g m b/\k'=Kn.bR k n m b
def Kn.wZ (a u:Int)(k:Kp)(n:Nat)(E:Int)(k':Kp):Prop:= ∃g m b,Mv.nP (k.p n).mem k.bk a true E g m b/\k'=Kn.bR k n m (if E=0 then Mv.FN b g (a.toNat%8) u else b)
def Kn.w9 (k:Kp)(n a:Nat):Int:=if(k.p n).mem.fr (a/8)=0 then 0 else k.bk.cX ((k.p n).mem.fr (a/8)-1) (a%8)
theorem Mv.nP.fr {m m':Me}{k k':Bk}{z:Int}{wr:Bool}{g:Nat}(t:Mv.nP m k z wr 0 g m' k'):m'.fr (z.toNat/8)=g+1:=by
 rcases t with⟨_,h,_⟩|⟨_,h,_,_,rfl,rfl,rfl⟩|⟨_,_,_,_,⟨h,_⟩|⟨_,rfl,_⟩⟩
 ·exact aZ h (by decide)
 ·omega
 ·exact aZ rfl h
 ·simp[iX]
theorem Kn.Mz {k:Kp}{n g:Nat}{z:Int}{wr:Bool}{m:Me}{b:Bk}(t:Mv.nP (k.p n).mem k.bk z wr 0 g m b)(c:Bk):Kn.w9 (Kn.bR k n m c) n z.toNat=c.cX g (z.toNat%8):=by
 unfold Kn.w9;rw[Kn.nC];show(if m.fr (z.toNat/8)=0 then 0 else c.cX (m.fr (z.toNat/8)-1) (z.toNat%8))=_;rw[t.fr,aI (by omega),aP]
theorem Kn.CY (k:Kp)(n:Nat)(m:Me)(b:Bk):(Kn.bR k n m b).gr=k.gr/\((Kn.bR k n m b).p n).bP=(k.p n).bP:=⟨rfl,by rw[Kn.nC]⟩
section
variable (base N : Nat) (d : Nat -> Nat) (s : St) (w : bD)
theorem EJ (n c1 c2:Nat)(a:Int)(h:ak w base s)(hh:KH N d s.k)(hn:n<20)(l:Kn.lv s.k n=true)(x1:w.cell? ⟨c1,0,none⟩=some (.int .i64 a))(x2: ∃u,w.heap[c2]? =some (.cells #[.int .u8 u] 5 (0,0)))(nk: ¬KB s c2):
  Calls Tryz.prog 107 #[.pointer (some ⟨s.A (9+n),0,none⟩), .pointer (some ⟨c1,0,none⟩), .pointer (some ⟨c2,0,none⟩)] w fun e w'=> ∃E k',e= .returned (aq E)/\Kn.uX a s.k n E k'/\ak w' base {s with k:=k'}/\(∃W,KF s w {s with k:=k'} W/\af c2 W w')/\ ∃u,w'.heap[c2]? =some (.cells #[.int .u8 u] 5 (0,0))/\(E=0->u=Kn.w9 k' n a.toNat):=by
 have hs:=hh.ki.vi.kj.lv n hn (fun x=>x) (Kn.cW.1 l);obtain⟨u,hu⟩:=x2;have LD:Hid (Calls Tryz.prog 108 #[.pointer (some ⟨s.A (9+n),0,none⟩), .int .i64 a] w fun e w'=> ∃(v E:Int) (k':Kp),e= .returned (.tuple #[.int .u8 v,aq E])/\Kn.uX a s.k n E k'/\ak w' base {s with k:=k'}/\KF s w {s with k:=k'} w'/\w'.heap[c2]? =w.heap[c2]? /\(E=0->v=Kn.w9 k' n a.toNat)):=hZ ((FA _ _ _ a _ _ w (h.ub hn hs) (hh.ki.vi.kj.me.OQ hn)).mono (by
  rintro _ w' ⟨E,g,m,b,rfl,t,u1,f,_⟩;have q:=h.vO hn hs u1 f;exact⟨_,E,_,rfl,⟨g,m,b,t,rfl⟩,q.1,q.2,q.2.iC (aX.1 hu).1 nk,fun e=>by subst e;rw[aJ rfl];exact(Kn.Mz t _).symm⟩))
 generalize s.A (9+n)=m9 at*;have H:=hZ (aK nk hu);clear h hh l hs hu nk;go_in
 go_wp2_with fail
 refine LD.out.mono ?_;rintro e w1 ⟨v,E,k',rfl,S1⟩;have S1:=hZ S1;have hu:=S1.out.2.2.2.1.trans H.out.2;have y:w1.cell? ⟨c2,0,none⟩=some (.int .u8 u):=by rw[au hu];rfl
 have fz:=bf hu;have FI:Hid (ak (w1.setCell ⟨c2,0,none⟩ (.int .u8 v)) base {s with k:=k'}/\(∃W,KF s w {s with k:=k'} W/\af c2 W (w1.setCell ⟨c2,0,none⟩ (.int .u8 v)))/\ ∃u,(w1.setCell ⟨c2,0,none⟩ (.int .u8 v)).heap[c2]? =some (.cells #[.int .u8 u] 5 (0,0))/\(E=0->u=Kn.w9 k' n a.toNat)):=hZ (by
  have f:af c2 w1 (w1.setCell ⟨c2,0,none⟩ (.int .u8 v)):=(af.refl _ _).setCell _ _;refine⟨S1.out.2.1.fresh f (S1.out.2.2.1.apart (aX.1 H.out.2).1 H.out.1),⟨w1,S1.out.2.2.1,f⟩,v,?_,S1.out.2.2.2.2⟩;rw[bC hu 0];rfl)
 clear hu;go_wp2
 go_ret
 exact⟨E,k',rfl,S1.out.1,FI.out⟩
def Kn.QU (w:bD)(s:St)(c:Nat)(V:bD)(s1:St):Prop:=KF s w s1 V/\(∃u,V.heap[c]? =some (.cells #[.int .u8 u] 5 (0,0)))/\ ¬KB s1 c
theorem Hl (z a:Int)(cp:Kn.Gw base s w)(hN:N<900)(h:ak w base s)(hh:KH N d s.k):
  Calls Tryz.prog 47 #[.pointer (some ⟨s.A 0,0,none⟩), .int .i64 z, .int .i64 a] w (Kn.Nx base s w fun v k'=> ∃(u:Int) (x:Value),v= .tuple #[.int .u8 u,x]/\Kn.kD a (Kn.uX a) s.k z x k'/\(x= .nilIface->u=Kn.w9 k' z.toNat a.toNat)):=by
 have B0:=((aQ w.heap.size w).alloc (aL _) (.cells #[.int .i64 a] 3)).alloc (by simp) (.cells #[.int .u8 0] 5);have h0:((w.alloc (.cells #[.int .i64 a] 3)).alloc (.cells #[.int .u8 0] 5)).heap[w.heap.size]? =some (.cells #[.int .i64 a] 3 (0,0)):=
  (((aQ _ _).alloc (aL _) _).block w.heap.size (by simp)).trans (heap_alloc_new _ _)
 have h1:((w.alloc (.cells #[.int .i64 a] 3)).alloc (.cells #[.int .u8 0] 5)).heap[w.heap.size+1]? =some (.cells #[.int .u8 0] 5 (0,0)):=by
  have:=heap_alloc_new (w.alloc (.cells #[.int .i64 a] 3)) (.cells #[.int .u8 0] 5);rw[show(w.alloc (.cells #[.int .i64 a] 3)).heap.size=w.heap.size+1 by simp]at this;exact this
 have TO:Hid (∀W,(w.alloc (.cells #[.int .i64 a] 3)).alloc (.cells #[.int .u8 0] 5)=W->_):=hZ (fun W e=>by
  rw[e]at B0 h0 h1;exact BW base N d s W z a w.heap.size (w.heap.size+1) (Kn.uX a) (Kn.QU w s (w.heap.size+1)) (fun n W k'=> ∃u,W.heap[w.heap.size+1]? =some (.cells #[.int .u8 u] 5 (0,0))/\u=Kn.w9 k' n a.toNat) (fun V n b hn l=>cp V n (B0.trans (b.mono B0.size)) hn l) hN (h.below B0) hh (fun k n E k'=>by rintro⟨_,_,_,_,rfl⟩;exact Kn.CY _ _ _ _)
   (fun V s1 W s2 g f=>by
    obtain⟨g1,⟨u,g2⟩,g3⟩:=g;have l:=(aX.1 g2).1;exact⟨g1.trans f,⟨u,(f.iC l g3).trans g2⟩,f.apart l g3⟩)
   (fun V s1 f=>⟨(KF.below B0).trans f,⟨0,(f.iC (aX.1 h1).1 (h.fZ (by omega))).trans h1⟩,f.apart (aX.1 h1).1 (h.fZ (by omega))⟩)
   (fun V s1 n K F kh hn ln=>by
    have l1:=(aX.1 h1).1;have nk:=h.fZ (rb:=w.heap.size+1) (by omega);refine(EJ base (N+1) d s1 V n _ _ a K kh hn ln (by rw[aV (F.iC (aX.1 h0).1 (h.fZ (aL _))),au h0];rfl) ⟨0,(F.iC l1 nk).trans h1⟩ (F.apart l1 nk)).mono ?_;rintro _ w' ⟨E,k',rfl,ld,kk,⟨W2,f,fr⟩,u,hu,hb⟩;exact⟨E,k',rfl,ld,kk,⟨((KF.below B0).trans (F.trans f)).fresh fr (by omega),⟨u,hu⟩,f.apart (aD l1 F.fU.size) (F.apart l1 nk)⟩,fun e=>⟨u,hu,hb e⟩⟩))
 generalize s.A 0=kb at*;clear h hh B0 h0 h1 cp;go_in
 go_wp2_with fail
 refine(TO.out _ rfl).mono ?_;rintro e w1 ⟨x,s',rfl,t,k1,⟨g1,⟨u,hu⟩,g3⟩,pp⟩;have S1:Hid ((Kn.kD a (Kn.uX a) s.k z x s'.k/\(x= .nilIface->u=Kn.w9 s'.k z.toNat a.toNat))/\ak w1 base s'/\KF s w s' w1):=hZ ⟨⟨t,fun e=>by
  obtain⟨u',h1,h2⟩:=pp e;rw[hu]at h1;simp at h1;rw[h1];exact h2⟩,k1,g1⟩
 have y:w1.cell? ⟨w.heap.size+1,0,none⟩=some (.int .u8 u):=by rw[au hu];rfl
 clear hu g1 g3 t k1 pp;go_wp2
 go_ret2
 exact⟨_,s',rfl,⟨u,x,rfl,S1.out.1.1,S1.out.1.2⟩,S1.out.2⟩
theorem Eb (z a u:Int)(cp:Kn.Gw base s w)(hN:N<900)(h:ak w base s)(hh:KH N d s.k):
  Calls Tryz.prog 48 #[.pointer (some ⟨s.A 0,0,none⟩), .int .i64 z, .int .i64 a, .int .u8 u] w (Kn.Nx base s w (Kn.kD a (Kn.wZ a u) s.k z)):=by
 have B0:=((aQ w.heap.size w).alloc (aL _) (.cells #[.int .i64 a] 3)).alloc (by simp) (.cells #[.int .u8 u] 5);have h0:((w.alloc (.cells #[.int .i64 a] 3)).alloc (.cells #[.int .u8 u] 5)).heap[w.heap.size]? =some (.cells #[.int .i64 a] 3 (0,0)):=
  (((aQ _ _).alloc (aL _) _).block w.heap.size (by simp)).trans (heap_alloc_new _ _)
 have h1:((w.alloc (.cells #[.int .i64 a] 3)).alloc (.cells #[.int .u8 u] 5)).heap[w.heap.size+1]? =some (.cells #[.int .u8 u] 5 (0,0)):=by
  have:=heap_alloc_new (w.alloc (.cells #[.int .i64 a] 3)) (.cells #[.int .u8 u] 5);rw[show(w.alloc (.cells #[.int .i64 a] 3)).heap.size=w.heap.size+1 by simp]at this;exact this
 have TO:Hid (∀W,(w.alloc (.cells #[.int .i64 a] 3)).alloc (.cells #[.int .u8 u] 5)=W->_):=hZ (fun W e=>by
  rw[e]at B0 h0 h1;exact Cw base N d s W z a w.heap.size (w.heap.size+1) (Kn.wZ a u) (fun V s1=>KF s w s1 V) (fun _ _ _=>True) (fun V n b hn l=>cp V n (B0.trans (b.mono B0.size)) hn l) hN (h.below B0) hh (fun k n E k'=>by rintro⟨_,_,_,_,rfl⟩;exact Kn.CY _ _ _ _)
   (fun V s1 W s2 g f=>g.trans f) (fun V s1 f=>(KF.below B0).trans f)
   (fun V s1 n K F kh hn ln=>by
    have hs:=kh.ki.vi.kj.lv n hn (fun x=>x) (Kn.cW.1 ln);have x0:V.cell? ⟨w.heap.size,0,none⟩=some (.int .i64 a):=by rw[aV (F.iC (aX.1 h0).1 (h.fZ (aL _))),au h0];rfl
    have x1:V.cell? ⟨w.heap.size+1,0,none⟩=some (.int .u8 u):=by rw[aV (F.iC (aX.1 h1).1 (h.fZ (rb:=w.heap.size+1) (by omega))),au h1];rfl
    have ST:Hid (Calls Tryz.prog 110 #[.pointer (some ⟨s1.A (9+n),0,none⟩), .int .i64 a, .int .u8 u] V fun e w'=> ∃E k',e= .returned (aq E)/\Kn.wZ a u s1.k n E k'/\ak w' base {s1 with k:=k'}/\KF s w {s1 with k:=k'} w'):=hZ ((Eg _ _ _ a u _ _ V (K.ub hn hs) (kh.ki.vi.kj.me.OQ hn)).mono (by
     rintro _ w' ⟨E,g,m,b,rfl,t,u1,f,_⟩;have q:=K.vO hn hs u1 f;exact⟨E,_,rfl,⟨g,m,b,t,rfl⟩,q.1,(KF.below B0).trans (F.trans q.2)⟩))
    generalize s1.A (9+n)=m9 at*;clear h hh B0 h0 h1 K F kh ln hs e cp;generalize w.heap.size=c1 at*;go_in
    go_wp2_with fail
    refine ST.out.mono ?_;rintro e w1 ⟨E,k',rfl,S1⟩;have S1:=hZ S1;go_wp2
    go_ret
    exact⟨E,k',rfl,S1.out.1,S1.out.2.1,S1.out.2.2,fun _=>trivial⟩))
 generalize s.A 0=kb at*;clear h hh B0 h0 h1 cp;go_in
 go_wp2_with fail
 refine(TO.out _ rfl).mono ?_;rintro e w1 ⟨x,s',rfl,S1⟩;have S1:=hZ S1;go_wp2
 go_ret
 exact⟨_,s',rfl,S1.out.1,S1.out.2.1,S1.out.2.2.1⟩
end
theorem wH {W w1:bD}(hb:Below W.heap.size W w1):(∀b o,b<W.heap.size->w1.cell? ⟨b,o,none⟩=W.cell? ⟨b,o,none⟩)/\(∀b o,b<W.heap.size->w1.frozen? ⟨b,o,none⟩=W.frozen? ⟨b,o,none⟩):=⟨fun b o h=>hb.cell (p:=⟨b,o,none⟩) h,fun b o h=>hb.frozen (p:=⟨b,o,none⟩) h⟩
section
variable {base N y : Nat} {s : St} {w : bD}
theorem x9 (h:ak w base s)(hj:KJ (fun _=>False) N s.k)(y6:y<6)(yt:s.k.ht y=true)(V:bD)(p:bU)(b:Below w.heap.size w V):Calls Tryz.prog 205 #[.pointer (some ⟨s.A (49+y),0,none⟩), .string p] V fun e w'=> ∃(x:Wh) (nm:bU) (E:Int),e= .returned (.tuple #[.agg #[.int .i64 x.1, .int .i64 x.2], .string nm,aq E])/\Below V.heap.size V w':=
 (uK base _ _ _ _ _ p V ((h.below b).tb y y6 yt) (h.below b).fo hj.ok.sz).mono (by rintro _ w' ⟨x,nm,E,rfl,_,b2⟩;exact⟨x,nm,E,rfl,b2⟩)
theorem tF (h:ak w base s)(hj:KJ (fun _=>False) N s.k)(y6:y<6)(yt:s.k.ht y=true)(V:bD)(p:bU)(b:Below w.heap.size w V):Calls Tryz.prog 208 #[.pointer (some ⟨s.A (49+y),0,none⟩), .string p] V fun e w'=> ∃(x:Wh) (E:Int),e= .returned (.tuple #[.agg #[.int .i64 x.1, .int .i64 x.2],aq E])/\Below V.heap.size V w':=
 (zK base _ _ _ _ _ p V ((h.below b).tb y y6 yt) (h.below b).fo hj.ok.sz).mono (by rintro _ w' ⟨x,E,rfl,_,b2⟩;exact⟨x,E,rfl,b2⟩)
theorem Ie (h:ak w base s)(hj:KJ (fun _=>False) N s.k)(y6:y<6)(yt:s.k.ht y=true)(V:bD)(p:bU)(b:Below w.heap.size w V):Calls Tryz.prog 210 #[.pointer (some ⟨s.A (49+y),0,none⟩), .string p] V fun e w'=> ∃(x:Wh) (E:Int),e= .returned (.tuple #[.agg #[.int .i64 x.1, .int .i64 x.2],aq E])/\Below V.heap.size V w':=
 (Mc base _ _ _ _ _ p V ((h.below b).tb y y6 yt) (h.below b).fo hj.ok.sz).mono (by rintro _ w' ⟨x,E,rfl,_,b2⟩;exact⟨x,E,rfl,b2⟩)
end
section
variable (base N : Nat) (d : Nat -> Nat) (s : St) (w : bD)
theorem Jh (z:Int)(p q:bU)(h:ak w base s)(hj:KJ (fun _=>False) N s.k):
  Calls Tryz.prog 129 #[.pointer (some ⟨s.A 0,0,none⟩), .int .i64 z, .string p, .string q] w (Kn.Nx base s w (Kn.sW s.k)):=by
 have TB:=hZ (jk base N s w z h hj);have H:=hZ (aK h hj);have RM:Hid (∀V (x:Int) (n:bU) (y:Int) (m:bU),Below w.heap.size w V->Calls Tryz.prog 207 #[.pointer (some ⟨s.A 6,0,none⟩), .int .i64 x, .string n, .int .i64 y, .string m] V fun e w'=> ∃E G,e= .returned (aq E)/\Kn.FG s.k G/\ak w' base {s with k:={s.k with fo:=G}}/\KF s w {s with k:={s.k with fo:=G}} w'):=hZ (fun V x n y m b=>(GG (s.A 6) x n y m s.k.fo V (h.below b).fo hj.ok.sz hj.ok.bO hj.ok.en).mono (by rintro _ w' ⟨E,G,rfl,r,u,f⟩;exact⟨E,G,rfl,⟨hj.ok.Io r,hj.wx.Io r⟩,h.DF b u f⟩));have C6:Hid (∀V,Below w.heap.size w V->V.cell? ⟨s.A 0,250,none⟩=some (.pointer (some ⟨s.A 6,0,none⟩))):=hZ (fun V b=>(h.below b).vF);clear h hj;generalize hk:s.A 0=kb at TB C6|-;clear hk;go_in
 go_wp2_with fail
 refine TB.out.mono ?_;rintro e w1 ⟨v,rfl,tp,b1⟩;by_cases A:Kn.bc s.k z=0
 ·obtain⟨y,y6,yt,rfl⟩:=tp A;have LA:=hZ (x9 H.out.1 H.out.2 y6 yt);have WA:=hZ (tF H.out.1 H.out.2 y6 yt);rw[A,aa];generalize s.A (49+y)=tb at*;generalize s.A 6=a6 at*;clear tp A;go_wp2_with fail
  refine(LA.out _ p b1).mono ?_;rintro e w2 ⟨x0,nm0,E,rfl,b2⟩;have b2:=b1.trans (b2.mono b1.size);have b2:=b2.alloc b2.size (.cells #[.int .i64 x0.1, .int .i64 x0.2] 224);by_cases E0:E=0
  ·subst E0;rw[aa];go_wp2_with fail
   refine(LA.out _ q b2).mono ?_;rintro e w3 ⟨x1,nm1,E,rfl,b3⟩;obtain⟨hc,hf⟩:=wH b3;have hz:w2.heap.size<w3.heap.size:=by have:=b3.size;simp at this;omega
   have b3:=b2.trans (b3.mono b2.size);have b3:=b3.alloc b3.size (.cells #[.int .i64 x1.1, .int .i64 x1.2] 224);by_cases E0:E=0
   ·subst E0;rw[aa];go_upto_region 10 with fail
    have c6:=C6.out _ b3;go_region_with ((go_at_call 207;refine(RM.out _ _ _ _ _ (by first|exact b3|exact b3.drew)).mono ?_;rintro e w4 ⟨E,G,rfl,S4⟩;have S4:=hZ S4))
    all_goals
     go_wp2
     go_ret
     exact .mk ⟨E,G,rfl,S4.out.1,rfl⟩ S4.out.2
   ·have E1:=hZ (aj E0);rw[aj E0];clear E0;go_wp2
    go_ret
    exact .at H.out.1 b3 (.no H.out.2 E1.out)
  ·have E1:=hZ (aj E0);rw[aj E0];clear E0;go_wp2
   go_ret
   exact .at H.out.1 b2 (.no H.out.2 E1.out)
 ·have A':=hZ (aj A);rw[aj A];generalize Kn.bc s.k z=ae at*;clear tp A;go_wp2
  go_ret
  exact .at H.out.1 b1 (.no H.out.2 A'.out)
theorem JK (z:Int)(p q:bU)(h:ak w base s)(hj:KJ (fun _=>False) N s.k):
  Calls Tryz.prog 130 #[.pointer (some ⟨s.A 0,0,none⟩), .int .i64 z, .string p, .string q] w (Kn.Nx base s w (Kn.sW s.k)):=by
 have TB:=hZ (jk base N s w z h hj);have H:=hZ (aK h hj);have RM:Hid (∀V (x y:Int) (m:bU),Below w.heap.size w V->Calls Tryz.prog 209 #[.pointer (some ⟨s.A 6,0,none⟩), .int .i64 x, .int .i64 y, .string m] V fun e w'=> ∃E G,e= .returned (aq E)/\Kn.FG s.k G/\ak w' base {s with k:={s.k with fo:=G}}/\KF s w {s with k:={s.k with fo:=G}} w'):=hZ (fun V x y m b=>(GS (s.A 6) x y m s.k.fo V (h.below b).fo hj.ok.sz (fun n hn k=>by have:=hj.ok.uR n hn k;have e1:(2:Nat)^60=1152921504606846976:=(by decide);omega)).mono (by rintro _ w' ⟨E,G,rfl,r,u,f⟩;exact⟨E,G,rfl,⟨hj.ok.Pd r,hj.wx.Pd r⟩,h.DF b u f⟩));have C6:Hid (∀V,Below w.heap.size w V->V.cell? ⟨s.A 0,250,none⟩=some (.pointer (some ⟨s.A 6,0,none⟩))):=hZ (fun V b=>(h.below b).vF);clear h hj;generalize hk:s.A 0=kb at TB C6|-;clear hk;go_in
 go_wp2_with fail
 refine TB.out.mono ?_;rintro e w1 ⟨v,rfl,tp,b1⟩;by_cases A:Kn.bc s.k z=0
 ·obtain⟨y,y6,yt,rfl⟩:=tp A;have LA:=hZ (x9 H.out.1 H.out.2 y6 yt);have WA:=hZ (tF H.out.1 H.out.2 y6 yt);rw[A,aa];generalize s.A (49+y)=tb at*;generalize s.A 6=a6 at*;clear tp A;go_wp2_with fail
  refine(WA.out _ p b1).mono ?_;rintro e w2 ⟨x0,E,rfl,b2⟩;have b2:=b1.trans (b2.mono b1.size);have b2:=b2.alloc b2.size (.cells #[.int .i64 x0.1, .int .i64 x0.2] 224);by_cases E0:E=0
  ·subst E0;rw[aa];go_wp2_with fail
   refine(LA.out _ q b2).mono ?_;rintro e w3 ⟨x1,nm1,E,rfl,b3⟩;obtain⟨hc,hf⟩:=wH b3;have hz:w2.heap.size<w3.heap.size:=by have:=b3.size;simp at this;omega
   have b3:=b2.trans (b3.mono b2.size);have b3:=b3.alloc b3.size (.cells #[.int .i64 x1.1, .int .i64 x1.2] 224);by_cases E0:E=0
   ·subst E0;rw[aa];go_upto_region 10 with fail
    have c6:=C6.out _ b3;go_region_with ((go_at_call 209;refine(RM.out _ _ _ _ (by first|exact b3|exact b3.drew)).mono ?_;rintro e w4 ⟨E,G,rfl,S4⟩;have S4:=hZ S4))
    all_goals
     go_wp2
     go_ret
     exact .mk ⟨E,G,rfl,S4.out.1,rfl⟩ S4.out.2
   ·have E1:=hZ (aj E0);rw[aj E0];clear E0;go_wp2
    go_ret
    exact .at H.out.1 b3 (.no H.out.2 E1.out)
  ·have E1:=hZ (aj E0);rw[aj E0];clear E0;go_wp2
   go_ret
   exact .at H.out.1 b2 (.no H.out.2 E1.out)
 ·have A':=hZ (aj A);rw[aj A];generalize Kn.bc s.k z=ae at*;clear tp A;go_wp2
  go_ret
  exact .at H.out.1 b1 (.no H.out.2 A'.out)
def Kn.JL (k:Kp)(v:Value)(k':Kp):Prop:= ∃(x E:Int) (G:Fo),v= .tuple #[.int .i64 x,aq E]/\Kn.FG k G/\k'={k with fo:=G}
theorem Kn.JL.no {k:Kp}{X:Nat->Prop}{N:Nat}(h:KJ X N k){E:Int}{v:Value}(e:aq E=v):Kn.JL k (.tuple #[.int .i64 0,v]) k:=⟨0,E,k.fo,by rw[e],⟨h.ok,h.wx⟩,rfl⟩
theorem AK (z:Int)(p:bU)(kz:Int)(h:ak w base s)(hj:KJ (fun _=>False) N s.k):
  Calls Tryz.prog 199 #[.pointer (some ⟨s.A 0,0,none⟩), .int .i64 z, .string p, .int .i64 kz] w (Kn.Nx base s w (Kn.JL s.k)):=by
 have TB:=hZ (jk base N s w z h hj);have H:=hZ (aK h hj);have RM:Hid (∀V (x:Int) (n:bU),Below w.heap.size w V->Calls Tryz.prog 242 #[.pointer (some ⟨s.A 6,0,none⟩), .int .i64 x, .string n, .int .i64 kz] V fun e w'=> ∃(K:Nat) (E:Int) (G:Fo),e= .returned (.tuple #[.int .i64 K,aq E])/\Kn.FG s.k G/\ak w' base {s with k:={s.k with fo:=G}}/\KF s w {s with k:={s.k with fo:=G}} w'):=hZ (fun V x n b=>(Iq (s.A 6) x n kz s.k.fo V (h.below b).fo hj.ok.sz).mono (by rintro _ w' ⟨K,E,G,rfl,r,u,f⟩;exact⟨K,E,G,rfl,⟨hj.ok.Ou r,hj.wx.Ou r⟩,h.DF b u f⟩));have C6:Hid (∀V,Below w.heap.size w V->V.cell? ⟨s.A 0,250,none⟩=some (.pointer (some ⟨s.A 6,0,none⟩))):=hZ (fun V b=>(h.below b).vF);clear h hj;generalize hk:s.A 0=kb at TB C6|-;clear hk;go_in
 go_wp2_with fail
 refine TB.out.mono ?_;rintro e w1 ⟨v,rfl,tp,b1⟩;by_cases A:Kn.bc s.k z=0
 ·obtain⟨y,y6,yt,rfl⟩:=tp A;have LA:=hZ (x9 H.out.1 H.out.2 y6 yt);have WA:=hZ (tF H.out.1 H.out.2 y6 yt);rw[A,aa];generalize s.A (49+y)=tb at*;generalize s.A 6=a6 at*;clear tp A;go_wp2_with fail
  refine(LA.out _ p b1).mono ?_;rintro e w2 ⟨x0,nm0,E,rfl,b2⟩;have b2:=b1.trans (b2.mono b1.size);have b2:=b2.alloc b2.size (.cells #[.int .i64 x0.1, .int .i64 x0.2] 224);by_cases E0:E=0
  ·subst E0;rw[aa];go_upto_region 7 with fail
   have c6:=C6.out _ b2;go_region_with ((go_at_call 242;refine(RM.out _ _ _ (by first|exact b2|exact b2.drew)).mono ?_;rintro e w4 ⟨K,E,G,rfl,S4⟩;have S4:=hZ S4))
   all_goals
    go_wp2
    go_ret2
    exact .mk ⟨K,E,G,rfl,S4.out.1,rfl⟩ S4.out.2
  ·have E1:=hZ (aj E0);rw[aj E0];clear E0;go_wp2
   go_ret2
   exact .at H.out.1 b2 (.no H.out.2 E1.out)
 ·have A':=hZ (aj A);rw[aj A];generalize Kn.bc s.k z=ae at*;clear tp A;go_wp2
  go_ret2
  exact .at H.out.1 b1 (.no H.out.2 A'.out)
theorem Ec (z:Int)(p:bU)(h:ak w base s)(hj:KJ (fun _=>False) N s.k):
  Calls Tryz.prog 127 #[.pointer (some ⟨s.A 0,0,none⟩), .int .i64 z, .string p] w (Kn.Nx base s w (Kn.sW s.k)):=by
 have MA:=hZ (AK base N s w z p 2 h hj);clear h hj;generalize s.A 0=kb at*;go_in
 go_wp2_with fail
 refine MA.out.mono ?_;rintro e w1 ⟨v,s',rfl,⟨x,E,G,rfl,g,ek⟩,S1⟩;have S1:=hZ (aK g (aK ek S1));clear g ek;go_wp2
 go_ret
 exact⟨_,s',rfl,⟨E,G,rfl,S1.out.1,S1.out.2.1⟩,S1.out.2.2⟩

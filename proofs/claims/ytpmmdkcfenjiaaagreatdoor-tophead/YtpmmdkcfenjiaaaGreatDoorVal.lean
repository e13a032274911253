import Derived.Test.YtpmmdkcfenjiaaaGreatDoorVak
set_option maxRecDepth 100000
set_option maxHeartbeats 2000000
namespace Go.Proofs.YtpmmdkcfenjiaaaGreatDoor
open Go.RowKit
open Bd (P)
open Mv (Me Bk)
def C5 (r:Nat):Array Value:=((List.range 33).map fun o=>if o=0 then Value.pointer (some ⟨r,0,none⟩)else .int .i64 0).toArray
theorem Li (r i:Nat)(h:i<33):(C5 r)[i]? =some (if i=0 then Value.pointer (some ⟨r,0,none⟩)else .int .i64 0):=by simp[C5,h]
def Mv.kX:Me:=⟨fun _=>0,fun _=>0⟩
def Mv.Cz (k:Nat):Me:=⟨fun _=>0,fun n=>if n<k then 0 else 1⟩
theorem OV {w:bD}{b r:Nat}(h:w.heap[b]? =some (.cells (C5 r) 186 (0,0))):cA w b r (Mv.Cz 0):=by
 refine⟨⟨_,h,by simp[C5]⟩,fun o ho=>?_⟩;rw[au h,Li r o ho];unfold jK;grind [C5,au,Li,jK,Mv.Cz]
theorem Jc (r:Nat)(w:bD):Calls Tryz.prog 167 #[.pointer (some ⟨r,0,none⟩)] w fun e w'=>e= .returned (.pointer (some ⟨w.heap.size,0,none⟩))/\cA w' w.heap.size r Mv.kX/\Below w.heap.size w w':=by
 have S0:Hid (∀C,C=C5 r->cA (w.alloc (.cells C 186)) w.heap.size r (Mv.Cz 0)/\Below w.heap.size w (w.alloc (.cells C 186))):=hZ (fun C hC=>by
  subst hC;exact⟨OV (heap_alloc_new w _),(aQ _ _).alloc (aL _) _⟩)
 go_in
 go_wp2_with fail
 refine bw (fun W=>cA W w.heap.size r (Mv.Cz 0)/\Below w.heap.size w W) (S0.out _ rfl) ?_;intro W1 h1;have S1:=hZ h1;clear h1 S0;obtain⟨b,hb⟩:=nJ (w.heap.size);rw[hb]at S1|-;have HB:=hZ hb;clear hb;go_loopw [8] (fun i wr=> ∃(k:Nat),i= .int .i64 k/\k<=16/\Hid (cA wr b r (Mv.Cz k)/\Below b w wr)) (fun i _=>16-(intOf i).toNat)
 case atStart=>exact⟨0,rfl,by omega,S1⟩
 case round=>
  clear S1;obtain⟨k,rfl,hk,S⟩:=hrel;by_cases hlt:k<16
  ·have hltI:(k:Int)<16:=by omega
   have c1:=S.out.1.uB k hlt;have cf:=S.out.1.frozen;have S2:Hid (cA (wr.setCell ⟨b,1+k*2+1,none⟩ (.int .i64 (-1))) b r (Mv.Cz (k+1))/\Below b w (wr.setCell ⟨b,1+k*2+1,none⟩ (.int .i64 (-1)))):=hZ ⟨(S.out.1.zu k 0 hlt (-1) rfl).congr (fun n _=>⟨rfl,by
    show(if n<k+1 then 0 else 1)=(if n=k then 0 else if n<k then 0 else 1);by_cases c:n=k
    ·rw[aJ c,aJ (by omega)]
    ·rw[aI c];by_cases d:n<k
     ·rw[aJ d,aJ (by omega)]
     ·rw[aI d,aI (by omega)]⟩),S.out.2.setCell (aL _) _⟩
   go_wp2
   go_roundw
   case rel=>exact⟨k+1,by go_num,by omega,S2⟩
   case measure=>simp[intOf];omega
  ·have hk16:k=16:=by omega
   subst hk16;have FIN:Hid (cA wr b r Mv.kX):=hZ (S.out.1.congr (fun n hn=>⟨rfl,by show 0=if n<16 then 0 else 1;rw[aJ hn]⟩));go_wp2
   go_ret
   rw[HB.out];exact⟨rfl,FIN.out,S.out.2⟩
theorem sF (b:Nat)(a n:Int)(w:bD)(k:Mv.jS a n=true):Calls Tryz.prog 177 #[.pointer (some ⟨b,0,none⟩), .int .i64 a, .int .i64 n] w fun e w'=>e= .returned (.tuple #[.slice none 0 0,aq 1])/\w'=w:=by
 unfold Mv.jS at k;rw[decide_eq_true_iff]at k;by_cases h1:n<1
 ·clear k;go_in
  go_wp2
  go_ret2
  exact⟨rfl,rfl⟩
 ·have d1:decide (n<1)=false:=aT h1;by_cases h2:a<0
  ·clear k h1;go_in
   go_wp2
   go_ret2
   exact⟨rfl,rfl⟩
  ·have d2:decide (a<0)=false:=aT h2;by_cases h3:16<=a
   ·clear k h1 h2;go_in
    go_wp2
    go_ret2
    exact⟨rfl,rfl⟩
   ·have d3:decide (16<=a)=false:=aT h3;have h4:16-a<n:=by omega
    have hw:IntKind.i64.wrap (16-a)=16-a:=aN _ ⟨by omega,by omega⟩;clear k h1 h2 h3;go_in
    go_wp2
    go_ret2
    exact⟨rfl,rfl⟩
theorem vm (b x n:Nat)(w:bD)(hx:x<16)(h1:1<=n)(hn:x+n<=16):Calls Tryz.prog 177 #[.pointer (some ⟨b,0,none⟩), .int .i64 x, .int .i64 n] w fun e w'=>e= .returned (.tuple #[.slice (some ⟨b,1+x*2,none⟩) n (16-x),aq 0])/\w'=w:=by
 have d1:decide ((n:Int)<1)=false:=by simp;omega
 have d3:decide (16<=(x:Int))=false:=by simp;omega
 have hw:IntKind.i64.wrap (16-(x:Int))=16-(x:Int):=aN _ ⟨by omega,by omega⟩;have d4:decide (16-(x:Int)<(n:Int))=false:=by simp;omega
 have hw2:IntKind.i64.wrap ((x:Int)+(n:Int))=(x:Int)+(n:Int):=aN _ ⟨by omega,by omega⟩;have d5:(x:Int)+(n:Int)<=16:=by omega
 have d6:(x:Int)<=(x:Int)+(n:Int):=by omega
 go_in
 go_wp2_with fail
 rw[show x+n-x=n by omega];go_ret2
 exact⟨rfl,rfl⟩
theorem Mm (wr:Bool)(w:bD):Calls Tryz.prog 237 #[.bool wr] w fun e w'=>e= .returned (.int .i64 ((if wr then 2 else 1:Nat):Int))/\w'=w:=by
 cases wr
 ·go_in
  go_wp2
  go_ret
  exact⟨rfl,rfl⟩
 ·go_in
  go_wp2
  go_ret
  exact⟨rfl,rfl⟩
theorem zk (u:Nat)(v:Int)(w:bD):Calls Tryz.prog 179 #[.agg #[.int .i64 (u:Int), .int .i64 v]] w fun e w'=>e= .returned (.bool (decide (u≠0)))/\Below w.heap.size w w':=by
 have BL:Hid (∀o,Below w.heap.size w (w.alloc o)):=hZ (fun o=>(aQ _ _).alloc (aL _) o);by_cases c:u=0
 ·subst c;go_in
  go_wp2
  go_ret
  exact⟨rfl,BL.out _⟩
 ·have c':((u:Int)==0)=false:=by simp;omega
  have HE:=hZ (aO (show u≠0 from c));have HC:=hZ c';go_in
  go_wp2
  go_ret
  exact⟨bN (by rw[HE.out];first|rfl|(show(!((u:Int)==0))=true;rw[HC.out];rfl)),BL.out _⟩
theorem xl (u:Nat)(v:Int)(w:bD):Calls Tryz.prog 181 #[.agg #[.int .i64 (u:Int), .int .i64 v]] w fun e w'=>e= .returned (.bool (decide (u=0)))/\Below w.heap.size w w':=by
 have BL:Hid (∀o,Below w.heap.size w (w.alloc o)):=hZ (fun o=>(aQ _ _).alloc (aL _) o);by_cases c:u=0
 ·subst c;go_in
  go_wp2
  go_ret
  exact⟨rfl,BL.out _⟩
 ·have c':((u:Int)==0)=false:=by simp;omega
  have HE:=hZ (aT c);go_in
  go_wp2
  go_ret
  exact⟨bN HE.out.symm,BL.out _⟩
def xC (F:Nat)(A:Nat->Bool):Prop:= ∀(u:Nat) (v:Int) (w:bD),Calls Tryz.prog F #[.agg #[.int .i64 (u:Int), .int .i64 v]] w fun e w'=>e= .returned (.bool (A u))/\Below w.heap.size w w'
theorem cA.BA {w:bD}{b r:Nat}{m:Me}(h:cA w b r m)(x j:Nat)(hj:x+j<16):w.cell? ⟨b,1+x*2+j*2,none⟩=some (.int .i64 (m.is (x+j):Int)):=by
 have:=h.Qd (x+j) hj;grind
theorem cA.El {w:bD}{b r:Nat}{m:Me}(h:cA w b r m)(x j:Nat)(hj:x+j<16):w.cell? ⟨b,1+x*2+j*2+1,none⟩=some (.int .i64 ((m.fr (x+j):Int)-1)):=by
 have:=h.uB (x+j) hj;grind
theorem DN:xC 179 (fun u=>decide (u≠0)):=zk
theorem Aj:xC 181 (fun u=>decide (u=0)):=xl
theorem zg (A:Nat->Bool)(hA:xC 179 A)(b r x n c:Nat)(m:Me)(w:bD)(h:cA w b r m)(hn:x+n<=16):
  Calls Tryz.prog 236 #[.slice (some ⟨b,1+x*2,none⟩) n c, .func (.func 179) #[] #[]] w fun e w'=> ∃z:Int,e= .returned (.int .i64 z)/\decide (0<=z)=(List.range n).any (fun j=>A (m.is (x+j)))/\Below w.heap.size w w':=by
 have HF:=hZ h;have HA:=hZ hA;clear h hA;go_in
 go_wp2_with fail
 go_loopw [8] (fun i wr=> ∃(k:Nat),i= .int .i64 k/\k<=n/\Hid (Below w.heap.size w wr/\ ∀j,j<k->A (m.is (x+j))=false)) (fun i _=>n-(intOf i).toNat)
 case atStart=>exact⟨0,rfl,by omega,aQ _ _,fun j hj=>by omega⟩
 case round=>
  obtain⟨k,rfl,hk,S⟩:=hrel;by_cases hlt:k<n
  ·have hltI:(k:Int)<(n:Int):=by omega
   have c0:=(HF.out.below S.out.1).BA x k (by omega);have c1:=(HF.out.below S.out.1).El x k (by omega);go_wp2_with fail
   refine(HA.out _ _ _).mono ?_;rintro e w1 ⟨rfl,hb⟩;have HB:=hZ (S.out.1.trans (hb.mono S.out.1.size));clear hb c0 c1;cases ha:A (m.is (x+k))
   ·have N:Hid (∀j,j<k+1->A (m.is (x+j))=false):=hZ (fun j hj=>by
     by_cases e:j=k
     ·rw[e];exact ha
     ·exact S.out.2 j (by omega))
    clear ha;go_wp2
    go_roundw
    case rel=>exact⟨k+1,by go_num,by omega,HB.out,N.out⟩
    case measure=>simp[intOf];omega
   ·have N:Hid (decide ((0:Int)<=(k:Int))=(List.range n).any (fun j=>A (m.is (x+j)))):=hZ (by
     rw[aO (by omega)];exact(List.any_eq_true.2 ⟨k,List.mem_range.2 hlt,ha⟩).symm)
    clear ha;go_wp2
    go_ret
    exact⟨k,rfl,N.out,HB.out⟩
  ·have hltI: ¬(k:Int)<(n:Int):=by omega
   have N:Hid (decide ((0:Int)<= -1)=(List.range n).any (fun j=>A (m.is (x+j)))):=hZ (by
    rw[aT (by omega)];symm;rw[List.any_eq_false];intro j hj;rw[S.out.2 j (by have:=List.mem_range.1 hj;omega)];decide)
   go_wp2
   go_ret
   exact⟨-1,rfl,N.out,S.out.1⟩
theorem vz (A:Nat->Bool)(hA:xC 179 A)(b r x n c:Nat)(m:Me)(w:bD)(h:cA w b r m)(hn:x+n<=16):
  Calls Tryz.prog 178 #[.slice (some ⟨b,1+x*2,none⟩) n c, .func (.func 179) #[] #[]] w fun e w'=>e= .returned (.bool ((List.range n).any (fun j=>A (m.is (x+j)))))/\Below w.heap.size w w':=by
 have HF:=hZ (aK h hA);clear h hA;go_in
 go_wp2_with fail
 refine(zg A HF.out.2 b r x n c m _ HF.out.1 hn).mono ?_;rintro e w1 ⟨z,rfl,hz,hb⟩;have HB:=hZ (aK hz hb);clear hz hb;go_wp2
 go_ret
 exact⟨bN HB.out.1,HB.out.2⟩
theorem wm (A:Nat->Bool)(hA:xC 181 A)(b r x n c:Nat)(m:Me)(w:bD)(h:cA w b r m)(hn:x+n<=16):
  Calls Tryz.prog 236 #[.slice (some ⟨b,1+x*2,none⟩) n c, .func (.func 181) #[] #[]] w fun e w'=> ∃z:Int,e= .returned (.int .i64 z)/\decide (0<=z)=(List.range n).any (fun j=>A (m.is (x+j)))/\Below w.heap.size w w':=by
 have HF:=hZ h;have HA:=hZ hA;clear h hA;go_in
 go_wp2_with fail
 go_loopw [8] (fun i wr=> ∃(k:Nat),i= .int .i64 k/\k<=n/\Hid (Below w.heap.size w wr/\ ∀j,j<k->A (m.is (x+j))=false)) (fun i _=>n-(intOf i).toNat)
 case atStart=>exact⟨0,rfl,by omega,aQ _ _,fun j hj=>by omega⟩
 case round=>
  obtain⟨k,rfl,hk,S⟩:=hrel;by_cases hlt:k<n
  ·have hltI:(k:Int)<(n:Int):=by omega
   have c0:=(HF.out.below S.out.1).BA x k (by omega);have c1:=(HF.out.below S.out.1).El x k (by omega);go_wp2_with fail
   refine(HA.out _ _ _).mono ?_;rintro e w1 ⟨rfl,hb⟩;have HB:=hZ (S.out.1.trans (hb.mono S.out.1.size));clear hb c0 c1;cases ha:A (m.is (x+k))
   ·have N:Hid (∀j,j<k+1->A (m.is (x+j))=false):=hZ (fun j hj=>by
     by_cases e:j=k
     ·rw[e];exact ha
     ·exact S.out.2 j (by omega))
    clear ha;go_wp2
    go_roundw
    case rel=>exact⟨k+1,by go_num,by omega,HB.out,N.out⟩
    case measure=>simp[intOf];omega
   ·have N:Hid (decide ((0:Int)<=(k:Int))=(List.range n).any (fun j=>A (m.is (x+j)))):=hZ (by
     rw[aO (by omega)];exact(List.any_eq_true.2 ⟨k,List.mem_range.2 hlt,ha⟩).symm)
    clear ha;go_wp2
    go_ret
    exact⟨k,rfl,N.out,HB.out⟩
  ·have hltI: ¬(k:Int)<(n:Int):=by omega
   have N:Hid (decide ((0:Int)<= -1)=(List.range n).any (fun j=>A (m.is (x+j)))):=hZ (by
    rw[aT (by omega)];symm;rw[List.any_eq_false];intro j hj;rw[S.out.2 j (by have:=List.mem_range.1 hj;omega)];decide)
   go_wp2
   go_ret
   exact⟨-1,rfl,N.out,S.out.1⟩
theorem rN (A:Nat->Bool)(hA:xC 181 A)(b r x n c:Nat)(m:Me)(w:bD)(h:cA w b r m)(hn:x+n<=16):
  Calls Tryz.prog 178 #[.slice (some ⟨b,1+x*2,none⟩) n c, .func (.func 181) #[] #[]] w fun e w'=>e= .returned (.bool ((List.range n).any (fun j=>A (m.is (x+j)))))/\Below w.heap.size w w':=by
 have HF:=hZ (aK h hA);clear h hA;go_in
 go_wp2_with fail
 refine(wm A HF.out.2 b r x n c m _ HF.out.1 hn).mono ?_;rintro e w1 ⟨z,rfl,hz,hb⟩;have HB:=hZ (aK hz hb);clear hz hb;go_wp2
 go_ret
 exact⟨bN HB.out.1,HB.out.2⟩
theorem we (b r x n c:Nat)(wt:Bool)(m:Me)(w:bD)(h:cA w b r m)(hn:x+n<=16):
  Calls Tryz.prog 180 #[.slice (some ⟨b,1+x*2,none⟩) n c, .bool wt] w fun e w'=>e= .returned (.tuple #[])/\cA w' b r (Mv.oT m x (x+n) wt)/\af b w w':=by
 have S0:Hid (cA w b r (Mv.oT m x (x+0) wt)/\af b w w):=hZ ⟨h.congr (fun i _=>⟨Mv.IP m x wt i,rfl⟩),af.refl _ _⟩;obtain⟨av,hav⟩:=nJ ((if wt then 2 else 1:Nat));have HA:=hZ hav;clear h hav;go_in
 go_wp2_with fail
 go_loopw [7] (fun i wr=> ∃(k:Nat),i= .int .i64 k/\k<=n/\Hid (cA wr b r (Mv.oT m x (x+k) wt)/\af b w wr)) (fun i _=>n-(intOf i).toNat)
 case atStart=>exact⟨0,rfl,by omega,S0⟩
 case round=>
  clear S0;obtain⟨k,rfl,hk,S⟩:=hrel;by_cases hlt:k<n
  ·have hltI:(k:Int)<(n:Int):=by omega
   have c0:=S.out.1.BA x k (by omega);have cf:=S.out.1.frozen;have S2:Hid (cA (wr.setCell ⟨b,1+x*2+k*2,none⟩ (.int .i64 (av:Int))) b r (Mv.oT m x (x+(k+1)) wt)/\af b w (wr.setCell ⟨b,1+x*2+k*2,none⟩ (.int .i64 (av:Int)))):=hZ ⟨by
    have a:=S.out.1.Lb (x+k) av (by omega);rw[show 1+(x+k)*2=1+x*2+k*2 by omega]at a;refine a.congr (fun i _=>⟨?_,rfl⟩);rw[<-Nat.add_assoc,Mv.Gg (by omega),HA.out];rfl,S.out.2.setCell _ _⟩
   go_wp2_with fail
   refine(Mm wt _).mono ?_;rintro e w1 ⟨rfl,hw⟩;subst w1;rw[HA.out];go_wp2
   go_roundw
   case rel=>exact⟨k+1,by go_num,by omega,S2⟩
   case measure=>simp[intOf];omega
  ·have hkn:k=n:=by omega
   subst hkn;go_wp2_with fail
   go_end0
   exact⟨rfl,S.out.1,S.out.2⟩
theorem Ju {m:Me}{x n:Nat}(hn:x+n<=16):(List.range n).any (fun j=>decide (m.is (x+j)≠0))=Mv.anyM m x (x+n):=by
 apply Bool.eq_iff_iff.2;rw[Mv.I9 hn,List.any_eq_true];constructor
 ·grind
 ·rintro⟨i,h1,h2,h3⟩;exact⟨i-x,List.mem_range.2 (by omega),by rw[show x+(i-x)=i by omega];exact aO h3⟩
theorem Jq {m:Me}{x n:Nat}(hn:x+n<=16):(List.range n).any (fun j=>decide (m.is (x+j)=0))= !Mv.allM m x (x+n):=by
 cases c:Mv.allM m x (x+n)
 ·rw[Bool.not_false,List.any_eq_true];apply Classical.byContradiction;intro d;have:Mv.allM m x (x+n)=true:=(Mv.zY hn).2 (fun i h1 h2 h3=>d ⟨i-x,List.mem_range.2 (by omega),by rw[show x+(i-x)=i by omega];exact aO h3⟩);rw[this]at c;cases c
 ·rw[Bool.not_true,List.any_eq_false];intro j hj d;have:=List.mem_range.1 hj;exact(Mv.zY hn).1 c (x+j) (by omega) (by omega) (of_decide_eq_true d)
theorem JU (b r:Nat)(a n:Int)(wt:Bool)(m:Me)(w:bD)(h:cA w b r m):
  Calls Tryz.prog 104 #[.pointer (some ⟨b,0,none⟩), .int .i64 a, .int .i64 n, .bool wt] w fun e w'=>e= .returned (aq (Mv.pZ m a n))/\cA w' b r (Mv.mapM m a n wt)/\af b w w':=by
 have HF:=hZ h;clear h;cases hb:Mv.jS a n
 ·obtain⟨x,k,rfl,rfl,hx,hk1,hk⟩:=Mv.sN hb;have SP:=hZ (vm b x k w hx hk1 hk);have EX:Hid (Mv.pZ m x k=if Mv.anyM m x (x+k)=true then 3 else 0):=hZ (by unfold Mv.pZ;rw[aI (by rw[hb];decide),hU,hU]);have EM:Hid (Mv.mapM m x k wt=if Mv.pZ m x k=0 then Mv.oT m x (x+k) wt else m):=hZ (by unfold Mv.mapM;rw[hU,hU]);clear hb;go_in
  go_wp2_with fail
  refine SP.out.mono ?_;rintro e w1 ⟨rfl,hw⟩;subst w1;rw[aa];go_wp2_with fail
  refine(vz _ DN b r x k (16-x) m _ HF.out hk).mono ?_;rintro e w1 ⟨rfl,hb1⟩;have H1:=hZ (aK (HF.out.below hb1) (af.bB (b:=b) hb1));clear hb1;rw[Ju hk];cases ha:Mv.anyM m x (x+k)
  ·have E0:Hid (Mv.pZ m x k=0):=hZ (by rw[EX.out,ha];rfl);clear ha EX;go_wp2_with fail
   refine(we b r x k (16-x) wt m _ H1.out.1 hk).mono ?_;rintro e w2 ⟨rfl,h2,f2⟩;have H2:=hZ (aK h2 (H1.out.2.trans f2));clear h2 f2;go_wp2
   go_ret
   rw[EM.out,E0.out,aJ rfl];exact⟨rfl,H2.out⟩
  ·have E0:Hid (Mv.pZ m x k=3):=hZ (by rw[EX.out,ha];rfl);clear ha EX;go_wp2
   go_ret
   rw[EM.out,E0.out,aI (by decide)];exact⟨rfl,H1.out⟩
 ·have EX:Hid (Mv.pZ m a n=1):=hZ (by unfold Mv.pZ;rw[aJ hb]);have EM:Hid (Mv.mapM m a n wt=m):=hZ (by unfold Mv.mapM;rw[EX.out,aI (by decide)]);have SP:=hZ (sF b a n w hb);clear hb;go_in
  go_wp2_with fail
  refine SP.out.mono ?_;rintro e w1 ⟨rfl,hw⟩;subst w1;rw[aj (by decide)];go_wp2
  go_ret
  rw[EX.out,EM.out];exact⟨rfl,HF.out,af.refl _ _⟩
theorem An (b r:Nat)(a n:Int)(wt:Bool)(m:Me)(w:bD)(h:cA w b r m):
  Calls Tryz.prog 105 #[.pointer (some ⟨b,0,none⟩), .int .i64 a, .int .i64 n, .bool wt] w fun e w'=>e= .returned (aq (Mv.pW m a n))/\cA w' b r (Mv.sj m a n wt)/\af b w w':=by
 have HF:=hZ h;clear h;cases hb:Mv.jS a n
 ·obtain⟨x,k,rfl,rfl,hx,hk1,hk⟩:=Mv.sN hb;have SP:=hZ (vm b x k w hx hk1 hk);have EX:Hid (Mv.pW m x k=if Mv.allM m x (x+k)=true then 0 else 10):=hZ (by unfold Mv.pW;rw[aI (by rw[hb];decide),hU,hU]);have EM:Hid (Mv.sj m x k wt=if Mv.pW m x k=0 then Mv.oT m x (x+k) wt else m):=hZ (by unfold Mv.sj;rw[hU,hU]);clear hb;go_in
  go_wp2_with fail
  refine SP.out.mono ?_;rintro e w1 ⟨rfl,hw⟩;subst w1;rw[aa];go_wp2_with fail
  refine(rN _ Aj b r x k (16-x) m _ HF.out hk).mono ?_;rintro e w1 ⟨rfl,hb1⟩;have H1:=hZ (aK (HF.out.below hb1) (af.bB (b:=b) hb1));clear hb1;rw[Jq hk];cases ha:Mv.allM m x (x+k)
  ·have E0:Hid (Mv.pW m x k=10):=hZ (by rw[EX.out,ha];rfl);clear ha EX;rw[Bool.not_false];go_wp2
   go_ret
   rw[EM.out,E0.out,aI (by decide)];exact⟨rfl,H1.out⟩
  ·have E0:Hid (Mv.pW m x k=0):=hZ (by rw[EX.out,ha];rfl);clear ha EX;rw[Bool.not_true];go_wp2_with fail
   refine(we b r x k (16-x) wt m _ H1.out.1 hk).mono ?_;rintro e w2 ⟨rfl,h2,f2⟩;have H2:=hZ (aK h2 (H1.out.2.trans f2));clear h2 f2;go_wp2
   go_ret
   rw[EM.out,E0.out,aJ rfl];exact⟨rfl,H2.out⟩
 ·have EX:Hid (Mv.pW m a n=1):=hZ (by unfold Mv.pW;rw[aJ hb]);have EM:Hid (Mv.sj m a n wt=m):=hZ (by unfold Mv.sj;rw[EX.out,aI (by decide)]);have SP:=hZ (sF b a n w hb);clear hb;go_in
  go_wp2_with fail
  refine SP.out.mono ?_;rintro e w1 ⟨rfl,hw⟩;subst w1;rw[aj (by decide)];go_wp2
  go_ret
  rw[EX.out,EM.out];exact⟨rfl,HF.out,af.refl _ _⟩
def UV (b r q x:Nat)(m:Me)(k:Bk)(w0:bD)(j:Nat)(w:bD):Prop:=UB w b r q (Mv.iE m x (x+j)) (Mv.gL m k x j)/\eU b r q w0 w/\Mv.xp (Mv.iE m x (x+j)) (Mv.gL m k x j)
theorem UV.start {b r q x:Nat}{m:Me}{k:Bk}{w:bD}(h:UB w b r q m k)(C:Mv.xp m k):UV b r q x m k w 0 w:=by
 have e1: ∀i,(Mv.iE m x (x+0)).is i=m.is i:=fun i=>aI (by omega);have e2: ∀i,(Mv.iE m x (x+0)).fr i=m.fr i:=fun i=>aI (by omega);refine⟨⟨h.me.congr (fun i _=>⟨e1 i,e2 i⟩),h.bk,h.br,h.bq⟩,eU.refl _ _ _ _,C.inv,C.nb,fun i hi=>by rw[e2];exact C.le i hi,fun f hf=>?_⟩;rw[Mv.nZ (fr:=m.fr) (fun i _=>e2 i)];exact C.bG f hf
theorem UV.below {b r q x j:Nat}{m:Me}{k:Bk}{w0 w w':bD}(h:UV b r q x m k w0 j w)(B:Below w.heap.size w w'):UV b r q x m k w0 j w':=⟨h.1.below B,h.2.1.trans (eU.below B),h.2.2⟩
theorem UV.fr {b r q x j:Nat}{m:Me}{k:Bk}{w0 w:bD}(_:UV b r q x m k w0 j w):(Mv.iE m x (x+j)).fr (x+j)=m.fr (x+j)/\(Mv.iE m x (x+j)).is (x+j)=m.is (x+j):=⟨aI (by omega),aI (by omega)⟩
theorem UV.step {b r q x j:Nat}{m:Me}{k:Bk}{w0 w w2:bD}(h:UV b r q x m k w0 j w)(hj:x+j<16)(me:cA w2 b r (Mv.iE m x (x+j)))(bk:cT w2 r q (Mv.gL m k x (j+1)))(t:eU b r q w0 w2):
  UV b r q x m k w0 (j+1) ((w2.setCell ⟨b,1+x*2+j*2,none⟩ (.int .i64 0)).setCell ⟨b,1+x*2+j*2+1,none⟩ (.int .i64 (-1))):=by
 have f:af b w2 ((w2.setCell ⟨b,1+x*2+j*2,none⟩ (.int .i64 0)).setCell ⟨b,1+x*2+j*2+1,none⟩ (.int .i64 (-1))):=((af.refl b w2).setCell _ _).setCell _ _;have a:=(me.Lb (x+j) 0 hj).zu (x+j) 0 hj (-1) rfl;rw[show 1+(x+j)*2=1+x*2+j*2 by omega]at a;refine⟨⟨a.congr (fun i _=>?_),bk.jW f h.1.br h.1.bq,h.1.br,h.1.bq⟩,t.trans (eU.mem f),h.2.2.step hj⟩;show _=iX _ _ _ i/\_=iX _ _ _ i;unfold iX;by_cases d:i=x+j
 ·subst d;rw[aJ rfl,aJ rfl];exact Hd m x j
 ·rw[aI d,aI d];exact Bo d
theorem GW (b r q x n:Nat)(m:Me)(k:Bk)(w:bD)(h:UB w b r q m k)(C:Mv.xp m k)(hx:x<16)(h1:1<=n)(hn:x+n<=16):
  Calls Tryz.prog 158 #[.pointer (some ⟨b,0,none⟩), .int .i64 x, .int .i64 n] w fun e w'=>e= .returned (.tuple #[.int .i64 (Mv.qA m x n:Int),aq 0])/\UB w' b r q (Mv.iE m x (x+n)) (Mv.gL m k x n)/\eU b r q w w':=by
 have S0:Hid (UV b r q x m k w 0 w):=hZ (UV.start h C);have SP:=hZ (vm b x n w hx h1 hn);clear h C;go_in
 go_wp2_with fail
 refine SP.out.mono ?_;rintro e w1 ⟨rfl,hw⟩;subst w1;rw[aa];go_wp2_with fail
 go_loopw [10,25] (fun s i wr=> ∃(j:Nat),i= .int .i64 j/\s= .int .i64 (Mv.qA m x j:Int)/\j<=n/\Hid (UV b r q x m k w j wr)) (fun _ i _=>n-(intOf i).toNat)
 case atStart=>exact⟨0,rfl,rfl,by omega,S0⟩
 case round=>
  clear S0;obtain⟨j,rfl,rfl,hj,S⟩:=hrel;by_cases hlt:j<n
  ·have hltI:(j:Int)<(n:Int):=by omega
   have c0:=S.out.1.me.BA x j (by omega);have c1:=S.out.1.me.El x j (by omega);have cf:=S.out.1.me.frozen;rw[S.out.fr.1]at c1;have hbs:b<wr.heap.size:=S.out.1.me.lt;have hbn:b≠wr.heap.size:=by omega
   have lc:=Mv.OM m x j;by_cases f0:m.fr (x+j)=0
   ·have LE:Hid (Mv.qA m x (j+1)=Mv.qA m x j):=hZ (by show Mv.qA m x j+(if m.fr (x+j)=0 then 0 else 1)=_;rw[aJ f0];rfl);have KE:Hid (Mv.gL m k x (j+1)=Mv.gL m k x j):=hZ (aJ f0);rw[f0]at c1;have c1':wr.cell? ⟨b,1+x*2+j*2+1,none⟩=some (.int .i64 (-1)):=c1;have NX:Hid (∀o,UV b r q x m k w (j+1) (((wr.setCell ⟨b,1+x*2+j*2,none⟩ (.int .i64 0)).setCell ⟨b,1+x*2+j*2+1,none⟩ (.int .i64 (-1))).alloc o)):=hZ (fun o=>
     (S.out.step (by omega) S.out.1.me (by rw[KE.out];exact S.out.1.bk) S.out.2.1).below ((aQ _ _).alloc (aL _) o))
    clear f0 c1;go_wp2
    go_roundw
    case rel=>exact⟨j+1,by go_num,by rw[LE.out],by omega,NX.out _⟩
    case measure=>simp[intOf];omega
   ·obtain⟨v,hv⟩: ∃v,m.fr (x+j)=v+1:=⟨m.fr (x+j)-1,by omega⟩;have LE:Hid (Mv.qA m x (j+1)=Mv.qA m x j+1):=hZ (by show Mv.qA m x j+(if m.fr (x+j)=0 then 0 else 1)=_;rw[aI f0]);have KE:Hid (Mv.gL m k x (j+1)=Mv.je (Mv.gL m k x j) v):=hZ (by
     show(if m.fr (x+j)=0 then Mv.gL m k x j else Mv.je (Mv.gL m k x j) (m.fr (x+j)-1))=_;rw[aI f0,hv,aP])
    rw[hv,show((v+1:Nat):Int)-1=(v:Int)by omega]at c1;have v64:v<64:=by have:=S.out.2.2.le (x+j) (by omega);rw[S.out.fr.1,hv]at this;omega
    have v1:((v:Int)== -1)=false:=by simp
    have RF:Hid (1<=(Mv.gL m k x j).refs v/\(Mv.gL m k x j).refs v<2^60):=hZ (by
     have a:=S.out.2.2.bG v v64;have p:=Mv.Ak (fr:=(Mv.iE m x (x+j)).fr) (f:=v) (n:=16) (i:=x+j) (by omega) (by rw[S.out.fr.1,hv]);omega)
    have d0:=S.out.1.me.qZ;have SB:Hid (∀o,UV b r q x m k w j (wr.alloc o)):=hZ (fun o=>S.out.below ((aQ _ _).alloc (aL _) o));clear f0 hv;go_wp2_with fail
    go_region_with ((go_at_call 228;refine(vW r q v (Mv.gL m k x j) _ (by first|exact(SB.out _).1.bk.drew|exact(SB.out _).1.bk) v64 S.out.2.2.inv RF.out.1 RF.out.2).mono ?_;rintro e w4 ⟨rfl,hk4,F4⟩;have H4:Hid (cA w4 b r (Mv.iE m x (x+j))/\cT w4 r q (Mv.je (Mv.gL m k x j) v)/\eU b r q w w4):=hZ (by first|exact⟨(SB.out _).1.me.drew.two F4 S.out.1.br S.out.1.bq,hk4,(SB.out _).2.1.drew.trans (eU.AP F4)⟩|exact⟨(SB.out _).1.me.two F4 S.out.1.br S.out.1.bq,hk4,(SB.out _).2.1.trans (eU.AP F4)⟩);clear hk4 F4))
    all_goals
     clear c0 c1 cf d0 hbs hbn;have e0:=H4.out.1.BA x j (by omega);have e1:=H4.out.1.El x j (by omega);have ef:=H4.out.1.frozen;have NX:Hid (UV b r q x m k w (j+1) ((w4.setCell ⟨b,1+x*2+j*2,none⟩ (.int .i64 0)).setCell ⟨b,1+x*2+j*2+1,none⟩ (.int .i64 (-1)))):=hZ (S.out.step (by omega) H4.out.1 (by rw[KE.out];exact H4.out.2.1) H4.out.2.2);generalize Mv.qA m x j=cj at*;go_wp2
     go_roundw
     case rel=>exact⟨j+1,by go_num,by rw[LE.out];go_num,by omega,NX.out⟩
     case measure=>simp[intOf];omega
  ·have hjn:j=n:=by omega
   subst hjn;go_wp2
   go_ret2
   exact⟨rfl,S.out.1,S.out.2.1⟩
theorem Dv (b r q:Nat)(a n:Int)(m:Me)(k:Bk)(w:bD)(h:UB w b r q m k)(C:Mv.xp m k):
  Calls Tryz.prog 158 #[.pointer (some ⟨b,0,none⟩), .int .i64 a, .int .i64 n] w fun e w'=>e= .returned (.tuple #[.int .i64 (Mv.wJ m a n:Int),aq (Mv.pC a n)])/\UB w' b r q (Mv.nA m a n) (Mv.nG m k a n)/\eU b r q w w':=by
 unfold Mv.wJ Mv.pC Mv.nA Mv.nG;cases hb:Mv.jS a n
 ·obtain⟨x,j,rfl,rfl,hx,hk1,hk⟩:=Mv.sN hb;rw[aI (by decide),aI (by decide),aI (by decide),aI (by decide),hU,hU];exact GW b r q x j m k w h C hx hk1 hk
 ·rw[aJ rfl,aJ rfl,aJ rfl,aJ rfl];have HF:=hZ h;have SP:=hZ (sF b a n w hb);clear hb h C;go_in
  go_wp2_with fail
  refine SP.out.mono ?_;rintro e w1 ⟨rfl,hw⟩;subst w1;rw[aj (by decide)];go_wp2
  go_ret2
  exact⟨rfl,HF.out,eU.refl _ _ _ _⟩
def iY (r:Nat)(m:Me):Array Value:=((List.range 33).map (jK r m)).toArray
theorem Dd (r:Nat)(m:Me)(i:Nat)(h:i<33):(iY r m)[i]? =some (jK r m i):=by simp[iY,h]
theorem yA (r:Nat)(m:Me):(iY r m).size=33:=by simp[iY]
theorem oV (r:Nat)(m:Me):(iY r m).toList.length=33:=by simp[iY]
theorem JW (r:Nat)(m:Me):(iY r m).all (·.oneCell')=true:=by
 rw[Array.all_eq_true_iff_forall_mem];intro v hv;simp only[iY,List.mem_toArray,List.mem_map]at hv;obtain⟨o,_,rfl⟩:=hv;unfold jK;split
 ·rfl
 ·split<;>rfl
theorem cA.all {w:bD}{b r:Nat}{m:Me}(h:cA w b r m):w.rangeAt b 0 (iY r m).toList:=fun j v hv=>by
 have hj:j<33:=by have:=(aY.1 hv).1;rwa [oV]at this
 rw[aM,Dd r m j hj]at hv;rw[Nat.zero_add,<-hv];exact h.cell j hj
def pD:Array Value:=((List.range 33).map fun o=>if o=0 then Value.pointer none else .int .i64 0).toArray
section
variable {ops : Array Oper} {rest : List Oper} {x : Oper} {a : Act} {w : bD} {Q : Exit -> Act -> bD -> Prop}
theorem ya (hgd:x.guard=none)(ho:x.op= .alloc 186)(h:wpList Tryz.prog ops Q rest (a.put x.dst (.pointer (some ⟨w.heap.size,0,none⟩))) (w.alloc (.cells pD 186))):wpList Tryz.prog ops Q (x::rest) a w:=
 wpList_plain hgd fun _ hK=>by
  unfold Oper.wp execOp;simp only[ho];simp[go_sem];exact hK _ _ h
end
theorem Kk:pD.size=33:=by simp[pD]
theorem OP {w:bD}{c r:Nat}{m:Me}(h:w.heap[c]? =some (.cells pD 186 (0,0))):cA (w.setCells c 0 (iY r m).toList) c r m:=by
 obtain⟨C',k1,k2⟩:=dR c (iY r m).toList 0 w pD h;refine⟨⟨C',k1,by rw[k2,Kk]⟩,fun o ho=>?_⟩;have:=aS c (iY r m).toList 0 w (fun i hi=>by
  rw[oV]at hi;rw[au h];simp[pD];exact hi) o (by rw[oV];exact ho)
 rw[Nat.zero_add]at this;rw[this,<-aW (by rw[oV];exact ho),aM,Dd r m o ho]
def Mv.dw (m:Me)(k:Bk)(j:Nat):Bk:={k with refs:=fun f=>k.refs f+Mv.dH m.fr f j}
theorem cT.congr {w:bD}{r q:Nat}{k k':Bk}(h:cT w r q k)(e1:k'.cq=k.cq)(e2: ∀f,f<64->k'.refs f=k.refs f)(e3: ∀f j,f<64->k'.cX f j=k.cX f j):cT w r q k':=by
 refine⟨h.cv,fun o ho=>?_,by rw[e1];exact h.cq,h.ne⟩;rw[h.cell o ho];unfold lX;by_cases c:o=0
 ·rw[aJ c,aJ c]
 ·rw[aI c,aI c,e2 _ (by omega),e3 _ _ (by omega)]
theorem cT.Ma {w:bD}{r q:Nat}{m:Me}{k:Bk}(h:cT w r q k):cT w r q (Mv.dw m k 0):=h.congr rfl (fun _ _=>rfl) (fun _ _ _=>rfl)
theorem cT.Qn {w:bD}{r q j:Nat}{m:Me}{k:Bk}(h:cT w r q (Mv.dw m k j))(c:m.fr j=0):cT w r q (Mv.dw m k (j+1)):=h.congr rfl (fun f _=>by
 show k.refs f+(Mv.dH m.fr f j+if m.fr j=f+1 then 1 else 0)=k.refs f+Mv.dH m.fr f j;rw[aI (by omega)];rfl) (fun _ _ _=>rfl)
theorem cT.Po {w:bD}{r q j v:Nat}{m:Me}{k:Bk}(h:cT w r q (Mv.dw m k j))(c:m.fr j=v+1)(hv:v<64):cT (w.setCell ⟨r,1+v*9,none⟩ (.int .i64 (((Mv.dw m k j).refs v+1:Nat):Int))) r q (Mv.dw m k (j+1)):=(h.qb v _ hv).congr rfl (fun f _=>by
 show k.refs f+(Mv.dH m.fr f j+if m.fr j=f+1 then 1 else 0)=if f=v then k.refs v+Mv.dH m.fr v j+1 else k.refs f+Mv.dH m.fr f j;by_cases e:f=v
 ·subst e;rw[aJ c,aJ rfl];omega
 ·rw[aI (by omega),aI e];rfl) (fun _ _ _=>rfl)
theorem CE (fr:Nat->Nat)(f n:Nat):Mv.dH fr f n<=n:=by
 induction n with
 |zero=>exact aL 0
 |succ n ih=>show Mv.dH fr f n+_<=n+1;split<;>omega
theorem Hr (b r q:Nat)(m:Me)(k:Bk)(w:bD)(h:UB w b r q m k)(hl: ∀i,i<16->m.fr i<=64)(hr: ∀f,f<64->k.refs f<2^58):
  Calls Tryz.prog 144 #[.pointer (some ⟨b,0,none⟩)] w fun e w'=>e= .returned (.pointer (some ⟨w.heap.size,0,none⟩))/\cA w' w.heap.size r m/\UB w' b r q m (Mv.dw m k 16)/\af r w w':=by
 have HF:=hZ (aK h (aK hl hr));have HR:=hZ h.me.all;have hs1:Hid ((Tryz.prog.info? 186).map (·.size)=some (iY r m).toList.length):=hZ (by rw[oV];kernel_rfl);have hs2:Hid ((Tryz.prog.info? 186).map (·.size)=some (iY r m).size):=hZ (by rw[yA];kernel_rfl);have h1c:=hZ (JW r m);have N0:Hid ((w.alloc (.cells pD 186)).heap[w.heap.size]? =some (.cells pD 186 (0,0))):=hZ (heap_alloc_new w _);have TH:Hid ((w.alloc (.cells pD 186)).there w.heap.size 0 (iY r m).size):=hZ (fun j hj=>by
  rw[yA]at hj;refine⟨?_,bf N0.out _⟩;rw[au N0.out];simp[pD];exact hj)
 have FIN:Hid (cA ((w.alloc (.cells pD 186)).setCells w.heap.size 0 (iY r m).toList) w.heap.size r m/\UB ((w.alloc (.cells pD 186)).setCells w.heap.size 0 (iY r m).toList) b r q m k/\Below w.heap.size w ((w.alloc (.cells pD 186)).setCells w.heap.size 0 (iY r m).toList)):=hZ (by
  have bb:Below w.heap.size w ((w.alloc (.cells pD 186)).setCells w.heap.size 0 (iY r m).toList):=(af.setCells _ _ (af.refl w.heap.size _)).below ((aQ _ _).alloc (aL _) _) (aL _) (by simp);exact⟨OP N0.out,HF.out.1.below bb,bb⟩)
 obtain⟨A,hA⟩:=nJ (iY r m);rw[hA]at HR hs1 hs2 h1c TH FIN;clear h hl hr hA N0;go_in
 go_upto_region 2 with(first|(refine wpList_load_mid rfl 186 _ rfl b 0 rfl A.toList _ HR.out Tryz.underlying186 rfl hs1.out ?_;rw[Array.toArray_toList])|(refine ya rfl rfl ?_)|(refine wpList_store_mid rfl 186 _ _ rfl w.heap.size 0 A rfl rfl TH.out hs2.out h1c.out ?_))
 refine bw (fun W=>cA W w.heap.size r m/\UB W b r q m k/\Below w.heap.size w W) FIN.out ?_;intro W1 hW1;have S1:=hZ hW1;clear hW1 FIN TH HR hs1 hs2 h1c;obtain⟨c,hc⟩:=nJ (w.heap.size);have HC:Hid (w.heap.size=c/\c≠r/\c≠q/\b≠c):=hZ ⟨hc,by have:=HF.out.1.bk.lt;omega,by have:=HF.out.1.bk.AO;omega,by have:=HF.out.1.me.lt;omega⟩;rw[hc]at S1|-;clear hc;have hsz:=hZ (yU m);have HR:=hZ S1.out.1.range;go_wp2_with (refine wpList_load_mid rfl 184 _ rfl c 1 rfl (rowP m) (.array 16 183) HR.out (by kernel_rfl) rfl hsz.out ?_)
 have S2:Hid (cA W1 c r m/\UB W1 b r q m (Mv.dw m k 0)/\af r w W1):=hZ ⟨S1.out.1,⟨S1.out.2.1.me,S1.out.2.1.bk.Ma,S1.out.2.1.br,S1.out.2.1.bq⟩,af.bB (by have:=S1.out.2.2;rw[<-HC.out.1]at this;exact this)⟩;clear S1 HR hsz;go_loopw [11] (fun i wr=> ∃(j:Nat),i= .int .i64 j/\j<=16/\Hid (cA wr c r m/\UB wr b r q m (Mv.dw m k j)/\af r w wr)) (fun i _=>16-(intOf i).toNat)
 case atStart=>exact⟨0,rfl,by omega,S2⟩
 case round=>
  clear S2;obtain⟨j,rfl,hj,S⟩:=hrel;by_cases hlt:j<16
  ·have hltI:(j:Int)<16:=by omega
   have hix:=wv m j hlt;have AL:Hid (∀o,cA (wr.alloc o) c r m/\UB (wr.alloc o) b r q m (Mv.dw m k j)/\af r w (wr.alloc o)):=hZ (fun o=>by
    have bb:Below wr.heap.size wr (wr.alloc o):=(aQ _ _).alloc (aL _) o;exact⟨S.out.1.below bb,S.out.2.1.below bb,S.out.2.2.trans (af.bB bb)⟩)
   generalize m.is j=u0 at*;by_cases f0:m.fr j=0
   ·have NX:Hid (∀o,cA (wr.alloc o) c r m/\UB (wr.alloc o) b r q m (Mv.dw m k (j+1))/\af r w (wr.alloc o)):=hZ (fun o=>⟨(AL.out o).1,⟨(AL.out o).2.1.me,(AL.out o).2.1.bk.Qn f0,(AL.out o).2.1.br,(AL.out o).2.1.bq⟩,(AL.out o).2.2⟩);rw[f0]at hix;clear f0;go_wp2
    go_roundw
    case rel=>exact⟨j+1,by go_num,by omega,NX.out _⟩
    case measure=>simp[intOf];omega
   ·obtain⟨v,hv⟩: ∃v,m.fr j=v+1:=⟨m.fr j-1,by omega⟩;have v64:v<64:=by have:=HF.out.2.1 j hlt;omega
    rw[hv,show((v+1:Nat):Int)-1=(v:Int)by omega]at hix;have v1:((v:Int)== -1)=false:=by simp
    have vI:(v:Int)<64:=by omega
    have hcl:=CE m.fr v j;have hrl:=HF.out.2.2 v v64;have rfl2:Hid ((Mv.dw m k j).refs v<2^59):=hZ (by show k.refs v+Mv.dH m.fr v j<_;omega);have NX:Hid (∀W,cA W c r m->UB W b r q m (Mv.dw m k j)->af r w W->cA (W.setCell ⟨r,1+v*9,none⟩ (.int .i64 (((Mv.dw m k j).refs v+1:Nat):Int))) c r m/\UB (W.setCell ⟨r,1+v*9,none⟩ (.int .i64 (((Mv.dw m k j).refs v+1:Nat):Int))) b r q m (Mv.dw m k (j+1))/\af r w (W.setCell ⟨r,1+v*9,none⟩ (.int .i64 (((Mv.dw m k j).refs v+1:Nat):Int)))):=hZ (fun W a1 a2 a3=>
     ⟨a1.same (dD _ _ _ _ HC.out.2.1),⟨a2.me.same (dD _ _ _ _ a2.br),a2.bk.Po hv v64,a2.br,a2.bq⟩,a3.setCell _ _⟩)
    obtain⟨rv,hrv⟩:=nJ ((Mv.dw m k j).refs v);rw[hrv]at NX rfl2;have CR:Hid (∀W,UB W b r q m (Mv.dw m k j)->W.cell? ⟨r,1+v*9,none⟩=some (.int .i64 (rv:Int))):=hZ (fun W hW=>by rw[<-hrv];exact hW.bk.vU v v64);have rl:=rfl2.out;have hw:IntKind.i64.wrap ((rv:Int)+1)=(rv:Int)+1:=aN _ ⟨by omega,by omega⟩;clear f0 hv hrv hcl hrl;go_upto_region 6 with fail
    refine bw (fun W=>(cA W c r m/\UB W b r q m (Mv.dw m k j)/\af r w W)/\W.heap[wr.heap.size]? =some (.cells #[.int .i64 (u0:Int), .int .i64 (v:Int)] 183 (0,0))) ⟨AL.out _,heap_alloc_new wr _⟩ ?_;rintro W2 ⟨h2,x2⟩;have H2:=hZ h2;have d0:=h2.2.1.me.qZ;have d1:=bA x2 1 _ rfl;have d2:=CR.out _ h2.2.1;have df:=h2.2.1.bk.frozen;generalize wr.heap.size=bp at*;clear h2 x2 AL S hix;go_region
    generalize hW:World.drew _=W3;have H3:Hid (cA W3 c r m/\UB W3 b r q m (Mv.dw m k (j+1))/\af r w W3):=hZ (by
     rw[<-hW];have a:=NX.out W2 H2.out.1 H2.out.2.1 H2.out.2.2;exact⟨a.1.drew,a.2.1.drew,a.2.2.drew⟩)
    clear hW d0 d1 d2 df;go_wp2
    go_roundw
    case rel=>exact⟨j+1,by go_num,by omega,H3⟩
    case measure=>simp[intOf];omega
  ·have hj16:j=16:=by omega
   subst hj16;go_wp2
   go_ret
   rw[HC.out.1];exact⟨rfl,S.out⟩

import Derived.Test.YtpmmdkcfenjiaaaGreatDoorVbh
set_option linter.unusedVariables false
set_option linter.unusedSimpArgs false
set_option maxRecDepth 100000
set_option maxHeartbeats 1000000
namespace Go.Proofs.YtpmmdkcfenjiaaaGreatDoor
open Go.RowKit
open Fx (Fi)
open Tr (Fo Nd)
open Pp (Pi)
open Mo (Wh Mt)
open Mv (Me Bk)
open Kn (Pr Kp St us KB KJ VI EI KH)
namespace Mo
structure MG (g:Nat->Nat)(F0 F:Fo)(T:Tb):Prop where
 ok:Tr.Ok F
 hi:HI F (fun n=>g n+tc T n)
 rg:Rg T
 qB:T.ms.length<=6
 kd: ∀n,n<40->0<g n->(F.nd n).kind=(F0.nd n).kind
section
variable {g : Nat -> Nat} {F0 F F' : Fo} {T T' : Tb}
theorem MG.bin (h:MG g F0 F T)(x y:Wh):MG g F0 (xG F T x y) (xA F T x y):=by
 unfold xG xA;by_cases c:jV F T x y=0
 ·rw[aJ c,aJ c];obtain⟨c1,c2,c3⟩:=OH c;refine⟨(h.ok.dc _).dc _,(GD h.hi (xg c1) (xg c2)).congr (fun n _=>?_),⟨h.rg.1,fun m hm=>?_⟩,?_,fun n hn c=>(pd _ _ _).trans ((pd _ _ _).trans (h.kd n hn c))⟩
  ·show _=g n+(gm T.rt.2 n+mc (T.ms++[(x,y)]) n);rw[O3,lJ,wN];unfold tc;omega
  ·rcases List.mem_append.1 hm with k|k
   ·exact h.rg.2 m k
   ·rw[List.mem_singleton]at k;subst k;exact⟨Bz (xg c1),Bz (xg c2)⟩
  ·have:=h.qB;show(T.ms++[(x,y)]).length<=6;rw[List.length_append,List.length_singleton];omega
 ·rw[aI c,aI c];exact h
theorem MG.Ra {x:Wh}{E:Int}(h:MG g F0 F T)(hu:zC F T x E T' F'):MG g F0 F' T':=by
 rcases hu with⟨i,_,m,hm,_,rfl,rfl⟩|⟨_,_,rfl,rfl⟩
 ·have hl:=(aY.1 hm).1;have hin:=h.rg.2 m (bK hm);have hi:HI (iL F m) (fun n=>g n+tc ⟨T.rt,T.ms.eraseIdx i⟩ n):=GP (h.hi.congr (fun n _=>by
   show g n+(gm T.rt.2 n+mc T.ms n)=g n+(gm T.rt.2 n+mc (T.ms.eraseIdx i) n)+gm m.1.2 n+gm m.2.2 n;rw[JF hm n];omega)) hin.1 hin.2
  refine⟨(h.ok.cZ _).cZ _,hi,⟨h.rg.1,fun y hy=>h.rg.2 y (List.mem_of_mem_eraseIdx hy)⟩,?_,fun n hn c=>(Ai (by rw[hi.hd n hn];omega)).trans (h.kd n hn c)⟩;have:=h.qB;show(T.ms.eraseIdx i).length<=6;rw[List.length_eraseIdx_of_lt hl];omega
 ·exact h
end
end Mo
namespace Kn
def sA (k:Kp)(y:Nat)(T:Mo.Tb)(F:Fo):Kp:={k with tb:=fun i=>if i=y then T else k.tb i,fo:=F}
theorem BS (k:Kp)(y:Nat)(T:Mo.Tb)(F:Fo)(yt:k.ht y=true)(m:Nat): ∀s,jH (sA k y T F) m s+(if y<s then Mo.tc (k.tb y) m else 0)=jH k m s+if y<s then Mo.tc T m else 0
 |0=>rfl
 |s+1=>by
  have ih:=BS k y T F yt m s;show jH (sA k y T F) m s+(if k.ht s=true then Mo.tc (if s=y then T else k.tb s) m else 0)+_=jH k m s+(if k.ht s=true then Mo.tc (k.tb s) m else 0)+_;by_cases c:s=y
  ·subst c;rw[aI (bV _),aI (bV _)]at ih;rw[aJ yt,aJ yt,aJ rfl,aJ (Nat.lt_succ_self _),aJ (Nat.lt_succ_self _)];omega
  ·rw[aI c];by_cases e:y<s
   ·rw[aJ e,aJ e]at ih;rw[aJ (show y<s+1 by omega),aJ (show y<s+1 by omega)];omega
   ·rw[aI e,aI e]at ih;rw[aI (show¬y<s+1 by omega),aI (show¬y<s+1 by omega)];omega
section
variable {X : Nat -> Prop} {N y : Nat} {k : Kp}
def eC (k:Kp)(y n:Nat):Nat:=Fx.cK k.fi 1 n 24+(iG k n-Mo.tc (k.tb y) n)
theorem KJ.mg (h:KJ X N k)(y6:y<6)(yt:k.ht y=true):Mo.MG (eC k y) k.fo k.fo (k.tb y):=by
 have rg:=h.tb y y6 yt;refine⟨h.ok,⟨fun n hn=>?_,fun n hn c kz=>?_⟩,rg.1,rg.2,fun _ _ _=>rfl⟩
 ·have:Mo.tc (k.tb y) n<=iG k n:=qz n yt 6 y6;rw[h.wx.hl n hn];unfold eC;omega
 ·have:Mo.tc (k.tb y) n<=iG k n:=qz n yt 6 y6;have:=h.wx.z0 n hn kz;rw[h.wx.hl n hn]at this;unfold eC at c;omega
theorem KJ.Q3 (h:KJ X N k)(y6:y<6)(yt:k.ht y=true){T:Mo.Tb}{F:Fo}(g:Mo.MG (eC k y) k.fo F T):KJ X N (sA k y T F):=by
 have tx: ∀m,eC k y m+Mo.tc T m=Fx.cK k.fi 1 m 24+iG (sA k y T F) m:=fun m=>by
  have:=BS k y T F yt m 6;rw[aJ y6,aJ y6]at this;have:Mo.tc (k.tb y) m<=iG k m:=qz m yt 6 y6;unfold eC iG at*;omega
 refine⟨h.sp,h.gr,h.me,⟨h.wx.no,h.wx.kd,fun n hn r k1=>?_,h.wx.pn,h.wx.ps,fun m hm=>(g.hi.hd m hm).trans (tx m),fun m hm kz=>?_,h.wx.rd,h.wx.wt⟩,h.rf,g.ok,fun s hs q=>?_,h.st,h.hs,h.lv,h.of,h.ht,h.nm⟩
 ·have a:=h.wx.nd n hn r k1;refine⟨a.1,(g.kd _ a.1 ?_).trans a.2⟩;have c1:=Fx.mO (T:=k.fi) (k:=1) (m:=(k.fi n).num) hn;have c2:=Fx.lE r;rw[k1]at c2;have c3:Fx.hit (k.fi n) 1 (k.fi n).num=1:=c2;unfold eC;omega
 ·have e:(F.nd m).held=_:=g.hi.hd m hm;by_cases c:(F.nd m).held=0
  ·exact c
  ·exact aZ kz (g.hi.lv m hm (by omega))
 ·show Mo.Rg (if s=y then T else k.tb s)/\(if s=y then T else k.tb s).ms.length<=6;by_cases c:s=y
  ·rw[aJ c];exact⟨g.rg,g.qB⟩
  ·rw[aI c];exact h.tb s hs q
end
def lT (s:St)(y:Nat)(v:Value)(T:Mo.Tb)(F:Fo):St:=⟨fun i=>if i=55+y then v.ownBlock.getD 0 else s.A i,fun i=>if i=y then v else s.V i,sA s.k y T F⟩
end Kn
open Kn (lT sA)
theorem ak.jE {w w':bD}{base y:Nat}{s:St}(h:ak w base s)(y6:y<6)(yt:s.k.ht y=true){T:Mo.Tb}{F:Fo}{v:Value}(t:bd w' base (s.A (49+y)) (s.A 6) T v)(u:ar w' (s.A 6) F)(o:dq (BV (s.A (49+y)) (s.A 6) (s.V y)) w w')(nw:Nw w (s.V y) v):ak w' base (lT s y v T F)/\KF s w (lT s y v T F) w':=by
 have A9: ∀i,i≠55+y->(lT s y v T F).A i=s.A i:=fun i hi=>aI hi;have Ar: ∀g,v.ownBlock=some g->(lT s y v T F).A (55+y)=g:=fun g e=>by show(if 55+y=55+y then v.ownBlock.getD 0 else _)=g;rw[aJ rfl,e];rfl
 have us': ∀i,us (lT s y v T F) i->(i=55+y/\ ∃g,v.ownBlock=some g)\/(i≠55+y/\us s i):=fun i hi=>by
  by_cases c:i=55+y
  ·left;refine⟨c,?_⟩;subst c;rcases hi with hi|⟨_,h2,_⟩|⟨_,h2,_⟩|⟨_,h2,_⟩|⟨_,_,_,h4⟩
   ·omega
   ·omega
   ·omega
   ·omega
   ·have e:(lT s y v T F).V (55+y-55)=v:=by show(if 55+y-55=y then v else _)=v;rw[aJ (by omega)]
    rw[e]at h4;cases e2:v.ownBlock with
    |none=>exact aZ e2 h4
    |some g=>exact⟨g,rfl⟩
  ·right;refine⟨c,?_⟩;rcases hi with hi|hi|hi|hi|⟨h1,h2,h3,h4⟩
   ·exact .inl hi
   ·exact .inr (.inl hi)
   ·exact .inr (.inr (.inl hi))
   ·exact .inr (.inr (.inr (.inl hi)))
   ·have e:(lT s y v T F).V (i-55)=s.V (i-55):=aI (by omega);rw[e]at h4;exact .inr (.inr (.inr (.inr ⟨h1,h2,h3,h4⟩)))
 have ut:=Kn.ja y6 yt;have bk: ∀i,us s i->i≠49+y->i≠6->i≠55+y->w'.heap[s.A i]? =w.heap[s.A i]? :=fun i hi a b c=>o.block _ (h.lt hi) (fun q=>by
  rcases q with q|q|q
  ·exact h.ne hi ut a q
  ·exact h.ne hi (az (by omega)) b q
  ·exact h.ne hi (Kn.iT y6 yt q) c (h.ro y y6 yt _ q).symm)
 have b9: ∀i,i<9->i≠6->w'.heap[s.A i]? =w.heap[s.A i]? :=fun i hi c=>bk i (.inl hi) (by omega) c (by omega);have ne: ∀n,n<6->n≠y->(lT s y v T F).V n=s.V n/\(lT s y v T F).k.tb n=s.k.tb n:=fun n _ c=>⟨aI c,aI c⟩;refine⟨⟨?_,fun x hx=>?_,?_,?_,?_,?_,?_,?_,?_,fun n hn hh=>?_,fun n hn hh=>?_,fun n hn hh=>?_,fun n hn hh g e=>?_,fun i j hi hj e=>?_,fun i hi=>?_⟩,⟨?_,fun b hb=>?_,A9 0 (by omega)⟩⟩
 ·rw[A9 0 (by omega),b9 0 (by omega) (by omega)];exact h.kT
 ·rw[A9 0 (by omega),aV (b9 0 (by omega) (by omega)),h.dC x hx];refine congrArg some ?_;unfold Kn.kc Kn.pc;split
  ·rw[A9 _ (by omega),A9 _ (by omega)];rfl
  ·split
   ·rw[A9 _ (by omega)];rfl
   ·split
    ·rw[A9 _ (by omega)]
    ·rw[A9 _ (by omega)]
 ·rw[A9 1 (by omega)];exact h.sp.same (b9 1 (by omega) (by omega))
 ·rw[A9 2 (by omega)];exact(b9 2 (by omega) (by omega)).trans h.gr
 ·rw[A9 3 (by omega)];exact h.sc.same (b9 3 (by omega) (by omega))
 ·rw[A9 4 (by omega),A9 5 (by omega)];exact h.bk.same (b9 4 (by omega) (by omega)) (b9 5 (by omega) (by omega))
 ·rw[A9 8 (by omega),A9 6 (by omega),A9 7 (by omega)];exact h.fi.same (b9 8 (by omega) (by omega))
 ·rw[A9 6 (by omega)];exact u
 ·rw[A9 7 (by omega)];exact h.pi.same (b9 7 (by omega) (by omega))
 ·rw[A9 _ (by omega),A9 4 (by omega)];exact(h.me n hn hh).same (bk _ (Kn.gP hn hh) (by omega) (by omega) (by omega))
 ·rw[A9 _ (by omega)];exact(h.bx n hn hh).same (bk _ (Kn.iQ hn hh) (by omega) (by omega) (by omega))
 ·rw[A9 _ (by omega),A9 6 (by omega)];by_cases c:n=y
  ·subst c;rw[show(lT s n v T F).k.tb n=T from aJ rfl,show(lT s n v T F).V n=v from aJ rfl];exact t
  ·rw[(ne n hn c).1,(ne n hn c).2];exact(h.tb n hn hh).same (bk _ (Kn.ja hn hh) (by omega) (by omega) (by omega)) (fun g eg=>by have:=bk _ (Kn.iT hn hh eg) (by omega) (by omega) (by omega);rwa [h.ro n hn hh g eg]at this)
 ·by_cases c:n=y
  ·subst c;exact Ar g (by rw[<-e];exact(congrArg Value.ownBlock (show(lT s n v T F).V n=v from aJ rfl)).symm)
  ·rw[(ne n hn c).1]at e;rw[A9 _ (by omega)];exact h.ro n hn hh g e
 ·have key: ∀g,v.ownBlock=some g-> ∀j,j≠55+y->us s j->s.A j≠g:=fun g eg j jn uj q=>by
   rcases nw with n1|n1
   ·rw[eg]at n1;have r:=h.ro y y6 yt g n1.symm;exact jn (h.inj j (55+y) uj (Kn.iT y6 yt n1.symm) (q.trans r.symm))
   ·have:=n1 g eg;have:=h.lt uj;omega
  rcases us' i hi with⟨i1,g1,e1⟩|⟨i1,i2⟩
  ·rcases us' j hj with⟨j1,_⟩|⟨j1,j2⟩
   ·omega
   ·rw[i1,Ar g1 e1,A9 j j1]at e;exact aZ e.symm (key g1 e1 j j1 j2)
  ·rcases us' j hj with⟨j1,g1,e1⟩|⟨j1,j2⟩
   ·rw[j1,Ar g1 e1,A9 i i1]at e;exact aZ e (key g1 e1 i i1 i2)
   ·rw[A9 i i1,A9 j j1]at e;exact h.inj i j i2 j2 e
 ·rcases us' i hi with⟨i1,g1,e1⟩|⟨i1,i2⟩
  ·rw[i1,Ar g1 e1];exact(t.row.lt g1 e1).1
  ·rw[A9 i i1];exact h.low i i2
 ·refine⟨o.os,o.tape,o.output,o.size,fun k hk hn=>o.block k hk (fun q=>hn ?_)⟩;rcases q with q|q|q
  ·exact⟨_,ut,q⟩
  ·exact⟨6,az (by omega),q⟩
  ·exact⟨55+y,Kn.iT y6 yt q,(h.ro y y6 yt _ q).symm⟩
 ·obtain⟨i,hi,rfl⟩:=hb;rcases us' i hi with⟨i1,g1,e1⟩|⟨i1,i2⟩
  ·rw[i1,Ar g1 e1];rcases nw with n1|n1
   ·rw[e1]at n1;exact .inl ⟨55+y,Kn.iT y6 yt n1.symm,(h.ro y y6 yt g1 n1.symm).symm⟩
   ·exact .inr (n1 g1 e1)
  ·exact .inl ⟨i,i2,A9 i i1⟩
open Kn (Pr Kp St us KB KJ VI EI KH lT sA)
def Kn.rQ (k:Kp)(v:Value)(k':Kp):Prop:= ∃E,v=aq E/\(k'=k\/ ∃y T F,y<6/\k.ht y=true/\Mo.MG (Kn.eC k y) k.fo F T/\k'=sA k y T F)
theorem Kn.rQ.no {k:Kp}{E:Int}{v:Value}(e:aq E=v):Kn.rQ k v k:=⟨E,e.symm, .inl rfl⟩
section
variable {base N y : Nat} {s : St} {w : bD}
theorem MR (h:ak w base s)(hb:base<=w.heap.size)(hj:KJ (fun _=>False) N s.k)(y6:y<6)(yt:s.k.ht y=true)(V:bD)(x z:Wh)(b:Below w.heap.size w V):Calls Tryz.prog 211 #[.pointer (some ⟨s.A (49+y),0,none⟩), .agg #[.int .i64 x.1, .int .i64 x.2], .agg #[.int .i64 z.1, .int .i64 z.2]] V (Kn.Nx base s w (Kn.rQ s.k)):=
 have H:=h.below b
 (JX base _ _ 102 _ _ _ x z V (H.tb y y6 yt) H.fo hj.hb (by omega) (aH hb b.size)).mono (by
  rintro _ w' ⟨v,rfl,t,u,o,n⟩;have q:=H.jE y6 yt t u o n;exact⟨_,_,rfl,⟨_,rfl, .inr ⟨y,_,_,y6,yt,(hj.mg y6 yt).bin x z,rfl⟩⟩,q.1,(KF.below b).trans q.2⟩)
theorem FH (h:ak w base s)(hj:KJ (fun _=>False) N s.k)(y6:y<6)(yt:s.k.ht y=true)(V:bD)(x:Wh)(b:Below w.heap.size w V):Calls Tryz.prog 212 #[.pointer (some ⟨s.A (49+y),0,none⟩), .agg #[.int .i64 x.1, .int .i64 x.2]] V (Kn.Nx base s w (Kn.rQ s.k)):=
 have H:=h.below b
 (DU base _ _ 102 _ _ _ x V (H.tb y y6 yt) H.fo hj.hb (by omega)).mono (by
  rintro _ w' ⟨E,T,F,v,rfl,r,t,u,o,n⟩;have q:=H.jE y6 yt t u o (.inl n);exact⟨_,_,rfl,⟨_,rfl, .inr ⟨y,_,_,y6,yt,(hj.mg y6 yt).Ra r,rfl⟩⟩,q.1,(KF.below b).trans q.2⟩)
end
section
variable (base N : Nat) (d : Nat -> Nat) (s : St) (w : bD)
theorem IV (z:Int)(p q:bU)(h:ak w base s)(hb:base<=w.heap.size)(hj:KJ (fun _=>False) N s.k):
  Calls Tryz.prog 131 #[.pointer (some ⟨s.A 0,0,none⟩), .int .i64 z, .string p, .string q] w (Kn.Nx base s w (Kn.rQ s.k)):=by
 have TB:=hZ (jk base N s w z h hj);have H:=hZ (aK h (aK hb hj));clear h hb hj;generalize s.A 0=kb at TB|-;go_in
 go_wp2_with fail
 refine TB.out.mono ?_;rintro e w1 ⟨v,rfl,tp,b1⟩;by_cases A:Kn.bc s.k z=0
 ·obtain⟨y,y6,yt,rfl⟩:=tp A;have RA:=hZ (Ie H.out.1 H.out.2.2 y6 yt);have WA:=hZ (tF H.out.1 H.out.2.2 y6 yt);have BI:=hZ (MR H.out.1 H.out.2.1 H.out.2.2 y6 yt);rw[A,aa];generalize s.A (49+y)=tb at*;clear tp A;go_wp2_with fail
  refine(RA.out _ p b1).mono ?_;rintro e w2 ⟨x0,E,rfl,b2⟩;have b2:=b1.trans (b2.mono b1.size);have b2:=b2.alloc b2.size (.cells #[.int .i64 x0.1, .int .i64 x0.2] 224);by_cases E0:E=0
  ·subst E0;rw[aa];go_wp2_with fail
   refine(WA.out _ q b2).mono ?_;rintro e w3 ⟨x1,E,rfl,b3⟩;obtain⟨hc,hf⟩:=wH b3;have hz:w2.heap.size<w3.heap.size:=by have:=b3.size;simp at this;omega
   have b3:=b2.trans (b3.mono b2.size);have b3:=b3.alloc b3.size (.cells #[.int .i64 x1.1, .int .i64 x1.2] 224);by_cases E0:E=0
   ·subst E0;rw[aa];go_wp2_with fail
    refine(BI.out _ x0 x1 b3).mono ?_;rintro e w4 ⟨v,s',rfl,S4⟩;have S4:=hZ S4;go_wp2
    go_ret
    exact⟨v,s',rfl,S4.out⟩
   ·have E1:=hZ (aj E0);rw[aj E0];clear E0;go_wp2
    go_ret
    exact .at H.out.1 b3 (.no E1.out)
  ·have E1:=hZ (aj E0);rw[aj E0];clear E0;go_wp2
   go_ret
   exact .at H.out.1 b2 (.no E1.out)
 ·have A':=hZ (aj A);rw[aj A];generalize Kn.bc s.k z=ae at*;clear tp A;go_wp2
  go_ret
  exact .at H.out.1 b1 (.no A'.out)
theorem Cj (z:Int)(p:bU)(h:ak w base s)(hj:KJ (fun _=>False) N s.k):
  Calls Tryz.prog 132 #[.pointer (some ⟨s.A 0,0,none⟩), .int .i64 z, .string p] w (Kn.Nx base s w (Kn.rQ s.k)):=by
 have TB:=hZ (jk base N s w z h hj);have H:=hZ (aK h hj);clear h hj;generalize s.A 0=kb at TB|-;go_in
 go_wp2_with fail
 refine TB.out.mono ?_;rintro e w1 ⟨v,rfl,tp,b1⟩;by_cases A:Kn.bc s.k z=0
 ·obtain⟨y,y6,yt,rfl⟩:=tp A;have RA:=hZ (Ie H.out.1 H.out.2 y6 yt);have BI:=hZ (FH H.out.1 H.out.2 y6 yt);rw[A,aa];generalize s.A (49+y)=tb at*;clear tp A;go_wp2_with fail
  refine(RA.out _ p b1).mono ?_;rintro e w2 ⟨x0,E,rfl,b2⟩;have b2:=b1.trans (b2.mono b1.size);have b2:=b2.alloc b2.size (.cells #[.int .i64 x0.1, .int .i64 x0.2] 224);by_cases E0:E=0
  ·subst E0;rw[aa];go_wp2_with fail
   refine(BI.out _ x0 b2).mono ?_;rintro e w4 ⟨v,s',rfl,S4⟩;have S4:=hZ S4;go_wp2
   go_ret
   exact⟨v,s',rfl,S4.out⟩
  ·have E1:=hZ (aj E0);rw[aj E0];clear E0;go_wp2
   go_ret
   exact .at H.out.1 b2 (.no E1.out)
 ·have A':=hZ (aj A);rw[aj A];generalize Kn.bc s.k z=ae at*;clear tp A;go_wp2
  go_ret
  exact .at H.out.1 b1 (.no A'.out)

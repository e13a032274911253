import Derived.Test.YtpmmdkcfenjiaaaGreatDoorXan
set_option maxRecDepth 100000
set_option maxHeartbeats 4000000
set_option linter.unusedVariables false
set_option linter.unusedSimpArgs false
namespace Go.Proofs.YtpmmdkcfenjiaaaGreatDoor
open Value renaming int->aa,pointer->ai,slice->aj,tuple->ao,iface->aq,agg->au
open IntKind renaming i64->bf
open Ending renaming returned->bw
open Obj renaming cells->bA
open Option renaming some->bB,none->bC
open Bool renaming true->bE,false->bF
open Tryz (prog)
open Go.RowKit
open Tr (Fo Nd)
open Mo (Wh Mt)
open Mv (Me Bk)
open Kn (Pr Kp St us KB KJ VI EI)
variable {F:Fo}{p:Int}{k:Kp}{N VK a a0 a1 a2 a3 a4 a5 a6 a7 b bb c f i j m mb n q rb y z:Nat}{Wy:Nat->List (Fin 10)}{d:Nat->Nat}{X:Nat->Prop}{x:Pr}{s:St}{v:Value}{W' w w':bD}
structure Kn.LI (N:Nat)(d:Nat->Nat)(k:Kp)(n z q:Nat):Prop where
 vi:VI (λ_=>False) N d k
 fi:∀m,m<20->m≠n->Kn.lv k m=bE->Kn.hd k m≠m->Sg.fw (k.p m).box 0 0
 hn:n<20
 lv:Kn.lv k n=bE
 ho:k.sp.of n=z+1
 pr:n≠0->q<20/\q≠n/\(k.p n).par=(q:Int)
theorem Kn.LI.has{N:Nat}{d:Nat->Nat}{k:Kp}{n z q:Nat}(h:Kn.LI N d k n z q):(k.p n).has=bE:=h.vi.kj.lv n h.hn (λx=>x) (by have:=h.lv;unfold Kn.lv at this;simpa using this)
def Kn.vL(k:Kp)(n z q:Nat)(k':Kp):Prop:=∃m,Sg.fw (k.p n).box 0 m/\((m=0/\k'=k)\/(m≠0/\Kn.lS k n (128+(m:Int)) z q k'))
def Kn.pR(k:Kp)(n z q:Nat)(k':Kp):Prop:=(Kn.hd k n=n/\k'=k)\/(Kn.hd k n≠n/\Kn.vL k n z q k')
section
variable (VK N:Nat)(d:Nat->Nat)(s:St)(w:bD)
theorem Bf(hN:N<=900)(n z q:Nat)(n0:n≠0)(h:bT w VK s)(hi:Kn.LI N d s.k n z q):
  Calls prog 99 #[ai (bB ⟨s.A 0,0,bC⟩),aa bf n] w λe w'=>∃k',e=bw (ao #[])/\Kn.vL s.k n z q k'/\bT w' VK {s with k:=k'}/\KF s w {s with k:=k'} w':=by
 have hn:=hi.hn;have hnI:(n:Int)<20:=bG
 have c5:=h.sX n hn hi.has;have EN:=hJ (C9 (s.A (29+n)) (s.k.p n).box w (h.bx n hn hi.has));have H:=hJ (aK h (aK hi hN));obtain⟨kb,hkb⟩:=hU (s.A 0);have HK:=hJ hkb;rw[hkb]at c5|-;generalize s.A (29+n)=bb at*;go_in
 go_wp2_with fail
 refine EN.mono ?_;rintro e w1 ⟨m,rfl,hm,hb⟩;have S1:Hid (bT w1 VK s/\KF s w s w1/\Sg.fw (s.k.p n).box 0 m):=hJ ⟨H.1.below hb,KF.below hb,hm⟩;have m8:=hm.le;by_cases m0:m=0
 .subst m0;rw[show Sg.nS 0=bF from rfl];go_wp2_with fail
  go_end0
  exact⟨s.k,rfl,⟨0,S1.2.2, .inl ⟨rfl,rfl⟩⟩,S1.1,S1.2.1⟩
 .rw[show Sg.nS m=bE by unfold Sg.nS;simp;omega];have PR:=H.2.1.pr n0;have EE:=hJ (xt VK N d H.2.2 s w1 n z q (128+(m:Int)) S1.1 H.2.1.vi hn n0 H.2.1.lv H.2.1.ho PR.1 PR.2.1 PR.2.2 H.2.1.fi);rw[HK.v]at EE;have hw:IntKind.i64.wrap (128+(m:Int))=128+(m:Int):=aN _ ⟨by omega,bG⟩;have M0:=hJ m0;go_wp2_with fail
  refine EE.mono ?_;rintro e w2 ⟨k',rfl,et,ka,kf⟩;have S2:Hid (Kn.vL s.k n z q k'/\bT w2 VK {s with k:=k'}/\KF s w {s with k:=k'} w2):=hJ ⟨⟨m,S1.2.2, .inr ⟨M0.v,et⟩⟩,ka,S1.2.1.trans kf⟩;go_wp2_with fail
  go_end0
  exact⟨k',rfl,S2.v⟩
theorem tw(hN:N<=900)(n z q:Nat)(n0:n=0->Kn.hd s.k 0=0)(h:bT w VK s)(hi:Kn.LI N d s.k n z q):
  Calls prog 101 #[ai (bB ⟨s.A 0,0,bC⟩),aa bf n] w λe w'=>∃k',e=bw (ao #[])/\Kn.pR s.k n z q k'/\bT w' VK {s with k:=k'}/\KF s w {s with k:=k'} w':=by
 obtain⟨th,hth⟩:=hU (decide (Kn.hd s.k n=n));have IH:=hJ (mM VK s w n h th hth);cases th
 .have hd:=of_decide_eq_false hth;have LK:=hJ (Bf VK N d s w hN n z q (λe=>by subst e;exact hd (n0 rfl)) h hi);have HD:=hJ hd;generalize s.A 0=kb at*;go_in
  go_wp2_with fail
  refine sC IH.v ?_;rintro w1 hw;subst w1;go_wp2_with fail
  refine LK.mono ?_;rintro e w1 ⟨k',rfl,et,ka,kf⟩;have S2:Hid (Kn.pR s.k n z q k'/\bT w1 VK {s with k:=k'}/\KF s w {s with k:=k'} w1):=hJ ⟨.inr ⟨HD.v,et⟩,ka,kf⟩;go_wp2_with fail
  go_end0
  exact⟨k',rfl,S2.v⟩
 .have HD:=hJ (aK (of_decide_eq_true hth) h);generalize s.A 0=kb at*;go_in
  go_wp2_with fail
  refine sC IH.v ?_;rintro w1 hw;subst w1;go_wp2_with fail
  go_end0
  exact⟨s.k,rfl, .inl ⟨HD.1,rfl⟩,HD.2,KF.refl _ _⟩
def Kn.B7(k:Kp)(z:Int)(m:Nat)(E:Int)(k':Kp):Prop:=(Kn.cH k z≠0/\E=Kn.cH k z/\m=0/\k'=k)\/(Kn.cH k z=0/\∃n j:Nat,z=n/\n<20/\Sg.fw (k.p n).box 2 j/\k'=k.put n {k.p n with box:=Sg.vp (k.p n).box j}/\m=j/\E=if j=0 then 2 else 0)
theorem IA(z:Int)(h:bT w VK s)(hl:∀n,n<20->Kn.lv s.k n=bE->(s.k.p n).has=bE):
  Calls prog 44 #[ai (bB ⟨s.A 0,0,bC⟩),aa bf z] w λe w'=>∃(m:Nat) (E:Int) (k':Kp),e=bw (ao #[aa bf m,bS E])/\Kn.B7 s.k z m E k'/\bT w' VK {s with k:=k'}/\KF s w {s with k:=k'} w':=by
 have AC:=hJ (dX VK s w z h);have H:=hJ h;by_cases a:Kn.cH s.k z=0
 .obtain⟨n,rfl,hn,hlv⟩:=Kn.fY a;have hh:=hl n hn hlv;have c5:=h.sX n hn hh;have TK:=hJ (OS (s.A (29+n)) (s.k.p n).box w (h.bx n hn hh));have HA:=hJ (aK a hh);rw[a,bN,iG]at AC;obtain⟨kb,hkb⟩:=hU (s.A 0);obtain⟨bb,hbb⟩:=hU (s.A (29+n));have HB:=hJ hbb;rw[hkb]at AC c5|-;rw[hbb]at c5 TK;go_in
  go_wp2_with fail
  refine sC AC.v ?_;rintro w1 hw;subst w1;go_wp2_with fail
  refine TK.mono ?_;rintro e w1 ⟨j,rfl,hj,u1,f1⟩;have S1:Hid (Sg.fw (s.k.p n).box 2 j/\bT w1 VK {s with k:=s.k.put n {s.k.p n with box:=Sg.vp (s.k.p n).box j}}/\KF s w {s with k:=s.k.put n {s.k.p n with box:=Sg.vp (s.k.p n).box j}} w1):=hJ (by
   rw[<-HB.v]at u1 f1;exact⟨hj,H.wm hn HA.2 u1 f1⟩)
  by_cases j0:j=0
  .subst j0;rw[show Sg.nS 0=bF from rfl];go_wp2
   go_ret2
   exact⟨0,2,_,rfl, .inr ⟨HA.1,n,0,rfl,hn,S1.1,rfl,rfl,rfl⟩,S1.2⟩
  .rw[show Sg.nS j=bE by unfold Sg.nS;simp;omega];have J0:=hJ j0;go_wp2
   go_ret2
   exact⟨j,0,_,by rw[bN];rfl, .inr ⟨HA.1,n,j,rfl,hn,S1.1,rfl,rfl,by rw[aI J0.v]⟩,S1.2⟩
 .have FIN:Hid (Kn.B7 s.k z 0 (Kn.cH s.k z) s.k):=hJ (.inl ⟨a,rfl,rfl,rfl⟩);have HE:=hJ (bP a);rw[bP a]at AC;generalize gW (s.A 0) z (Kn.cH s.k z)=ap at*;generalize s.A 0=kb at*;go_in
  go_wp2_with fail
  refine sC AC.v ?_;rintro w1 hw;subst w1;go_wp2
  go_ret2
  exact⟨0,Kn.cH s.k z,s.k,by rw[HE.v];rfl,FIN.v,H.v,KF.refl _ _⟩
end
namespace Kn
def YQ(k:Kp)(n y q:Nat):Prop:=k.sp.of n=y+1/\(n≠0->(k.p n).par=(q:Int))
def dy(k:Kp)(n:Nat)(X:Nat->Sg.S1):Kp:=k.put n {k.p n with box:=X}
theorem KI.has{N:Nat}{d:Nat->Nat}{k:Kp}(h:KI N d k){n:Nat}(hn:n<20)(l:lv k n=bE):(k.p n).has=bE:=h.vi.kj.lv n hn (λx=>x) (by unfold lv at l;simpa using l)
theorem KI.li(h:KI N d k)(hn:n<20)(l:lv k n=bE)(X:Nat->Sg.S1):∃z q,LI N d (dy k n X) n z q:=by
 have s1:(k.p n).st=1:=by unfold lv at l;simpa using l
 have o:=(h.vi.kj.of n hn).2 bG;have e:(dy k n X).p n={k.p n with box:=X}:=bR _ _ _;have vi:VI (λ_=>False) N d (dy k n X):=⟨h.vi.kj.DS rfl rfl rfl,h.vi.iv,h.vi.hs⟩;have fi:∀m,m<20->m≠n->lv (dy k n X) m=bE->hd (dy k n X) m≠m->Sg.fw ((dy k n X).p m).box 0 0:=λm hm mn lm hm2=>by
  have e2:(dy k n X).p m=k.p m:=cr _ _ _ _ mn;rw[e2];refine h.fi m hm ?_ hm2;unfold lv at lm|-;rw[e2]at lm;exact lm
 have dJ:lv (dy k n X) n=bE:=by unfold lv;rw[e];exact l
 by_cases n0:n=0
 .exact⟨k.sp.of n-1,0,vi,fi,hn,dJ,(by show k.sp.of n=_;omega),λc=>aZ n0 c⟩
 .obtain⟨q,ik,qn,hp⟩:=h.pr n hn n0 bG;exact⟨k.sp.of n-1,q,vi,fi,hn,dJ,(by show k.sp.of n=_;omega),λ_=>⟨ik,qn,by rw[e];exact hp⟩⟩
theorem LI.yq{X:Nat->Sg.S1}(h:LI N d (dy k n X) n y q):YQ k n y q:=⟨h.ho,λn0=>by have:=(h.pr n0).2.2;unfold dy at this;rw[bR]at this;exact this⟩
end Kn
section
variable (VK N:Nat)(d:Nat->Nat)(s:St)(w:bD)
def Kn.yj(k:Kp)(z c:Int)(on:Bool)(E:Int)(k':Kp):Prop:=(Kn.cH k z≠0/\E=Kn.cH k z/\k'=k)\/(Kn.cH k z=0/\∃n:Nat,z=n/\n<20/\E=Sg.kW c/\((Sg.kW c≠0/\k'=Kn.dy k n (Sg.oB (k.p n).box c on))\/(Sg.kW c=0/\∃y q,Kn.YQ k n y q/\Kn.pR (Kn.dy k n (Sg.oB (k.p n).box c on)) n y q k')))
theorem Ix(hN:N<=900)(z c:Int)(on:Bool)(h:bT w VK s)(hi:Kn.KI N d s.k):
  Calls prog 42 #[ai (bB ⟨s.A 0,0,bC⟩),aa bf z,aa bf c, .bool on] w λe w'=>∃(E:Int) (k':Kp),e=bw (bS E)/\Kn.yj s.k z c on E k'/\bT w' VK {s with k:=k'}/\KF s w {s with k:=k'} w':=by
 have AC:=hJ (dX VK s w z h);have H:=hJ (aK h (aK hi hN));by_cases a:Kn.cH s.k z=0
 .obtain⟨n,rfl,hn,hlv⟩:=Kn.fY a;have hh:=hi.has hn hlv;have c5:=h.sX n hn hh;have TK:=hJ (Jc (s.A (29+n)) c on (s.k.p n).box w (h.bx n hn hh));have HA:=hJ (aK a (aK hh hlv));rw[a,bN,iG]at AC;obtain⟨kb,hkb⟩:=hU (s.A 0);have HK:=hJ hkb;obtain⟨bb,hbb⟩:=hU (s.A (29+n));have HB:=hJ hbb;rw[hkb]at AC c5|-;rw[hbb]at c5 TK;go_in
  go_wp2_with fail
  refine sC AC.v ?_;rintro w1 hw;subst w1;go_wp2_with fail
  refine sC TK.v ?_;rintro w1 ⟨u1,f1⟩;have S1:Hid (bT w1 VK {s with k:=Kn.dy s.k n (Sg.oB (s.k.p n).box c on)}/\KF s w {s with k:=Kn.dy s.k n (Sg.oB (s.k.p n).box c on)} w1):=hJ (by
   rw[<-HB.v]at u1 f1;exact H.1.wm hn HA.2.1 u1 f1)
  by_cases j0:Sg.kW c=0
  .have J0:=hJ j0;rw[j0,bN];obtain⟨y,q,li⟩:=H.2.1.li hn HA.2.2 (Sg.oB (s.k.p n).box c on);have LB:=hJ (tw VK N d {s with k:=Kn.dy s.k n (Sg.oB (s.k.p n).box c on)} w1 H.2.2 n y q (λ_=>H.2.1.h0) S1.1 li);rw[show({s with k:=Kn.dy s.k n (Sg.oB (s.k.p n).box c on)}:St).A 0=kb from HK.v]at LB;have YY:=hJ li.yq;go_wp2_with fail
   refine LB.mono ?_;rintro e w2 ⟨k',rfl,et,ka,kf⟩;have S2:Hid (Kn.yj s.k (n:Int) c on 0 k'/\bT w2 VK {s with k:=k'}/\KF s w {s with k:=k'} w2):=hJ ⟨.inr ⟨HA.1,n,rfl,hn,J0.symm, .inr ⟨J0.v,y,q,YY.v,et⟩⟩,ka,S1.2.trans kf⟩;go_wp2
   go_ret
   exact⟨0,k',by rw[bN];rfl,S2.v⟩
  .have J0:=hJ j0;have HE:=hJ (bP j0);rw[bP j0];go_wp2
   go_ret
   exact⟨Sg.kW c,_,by rw[HE.v];rfl, .inr ⟨HA.1,n,rfl,hn,rfl, .inl ⟨J0.v,rfl⟩⟩,S1.v⟩
 .have FIN:Hid (Kn.yj s.k z c on (Kn.cH s.k z) s.k):=hJ (.inl ⟨a,rfl,rfl⟩);have HE:=hJ (bP a);rw[bP a]at AC;generalize gW (s.A 0) z (Kn.cH s.k z)=ap at*;generalize s.A 0=kb at*;go_in
  go_wp2_with fail
  refine sC AC.v ?_;rintro w1 hw;subst w1;go_wp2
  go_ret
  exact⟨Kn.cH s.k z,s.k,by rw[HE.v];rfl,FIN.v,H.1,KF.refl _ _⟩
def Kn.yk(k:Kp)(z c:Int)(ny:Int)(E:Int)(k':Kp):Prop:=(Kn.cH k z≠0/\E=Kn.cH k z/\k'=k)\/(Kn.cH k z=0/\∃n:Nat,z=n/\n<20/\E=Sg.jD c ny/\((Sg.jD c ny≠0/\k'=Kn.dy k n (Sg.mu (k.p n).box c ny))\/(Sg.jD c ny=0/\∃y q,Kn.YQ k n y q/\Kn.pR (Kn.dy k n (Sg.mu (k.p n).box c ny)) n y q k')))
theorem Ks(hN:N<=900)(z c:Int)(ny:Int)(h:bT w VK s)(hi:Kn.KI N d s.k):
  Calls prog 43 #[ai (bB ⟨s.A 0,0,bC⟩),aa bf z,aa bf c,aa bf ny] w λe w'=>∃(E:Int) (k':Kp),e=bw (bS E)/\Kn.yk s.k z c ny E k'/\bT w' VK {s with k:=k'}/\KF s w {s with k:=k'} w':=by
 have AC:=hJ (dX VK s w z h);have H:=hJ (aK h (aK hi hN));by_cases a:Kn.cH s.k z=0
 .obtain⟨n,rfl,hn,hlv⟩:=Kn.fY a;have hh:=hi.has hn hlv;have c5:=h.sX n hn hh;have TK:=hJ (QN (s.A (29+n)) c ny (s.k.p n).box w (h.bx n hn hh));have HA:=hJ (aK a (aK hh hlv));rw[a,bN,iG]at AC;obtain⟨kb,hkb⟩:=hU (s.A 0);have HK:=hJ hkb;obtain⟨bb,hbb⟩:=hU (s.A (29+n));have HB:=hJ hbb;rw[hkb]at AC c5|-;rw[hbb]at c5 TK;go_in
  go_wp2_with fail
  refine sC AC.v ?_;rintro w1 hw;subst w1;go_wp2_with fail
  refine sC TK.v ?_;rintro w1 ⟨u1,f1⟩;have S1:Hid (bT w1 VK {s with k:=Kn.dy s.k n (Sg.mu (s.k.p n).box c ny)}/\KF s w {s with k:=Kn.dy s.k n (Sg.mu (s.k.p n).box c ny)} w1):=hJ (by
   rw[<-HB.v]at u1 f1;exact H.1.wm hn HA.2.1 u1 f1)
  by_cases j0:Sg.jD c ny=0
  .have J0:=hJ j0;rw[j0,bN];obtain⟨y,q,li⟩:=H.2.1.li hn HA.2.2 (Sg.mu (s.k.p n).box c ny);have LB:=hJ (tw VK N d {s with k:=Kn.dy s.k n (Sg.mu (s.k.p n).box c ny)} w1 H.2.2 n y q (λ_=>H.2.1.h0) S1.1 li);rw[show({s with k:=Kn.dy s.k n (Sg.mu (s.k.p n).box c ny)}:St).A 0=kb from HK.v]at LB;have YY:=hJ li.yq;go_wp2_with fail
   refine LB.mono ?_;rintro e w2 ⟨k',rfl,et,ka,kf⟩;have S2:Hid (Kn.yk s.k (n:Int) c ny 0 k'/\bT w2 VK {s with k:=k'}/\KF s w {s with k:=k'} w2):=hJ ⟨.inr ⟨HA.1,n,rfl,hn,J0.symm, .inr ⟨J0.v,y,q,YY.v,et⟩⟩,ka,S1.2.trans kf⟩;go_wp2
   go_ret
   exact⟨0,k',by rw[bN];rfl,S2.v⟩
  .have J0:=hJ j0;have HE:=hJ (bP j0);rw[bP j0];go_wp2
   go_ret
   exact⟨Sg.jD c ny,_,by rw[HE.v];rfl, .inr ⟨HA.1,n,rfl,hn,rfl, .inl ⟨J0.v,rfl⟩⟩,S1.v⟩
 .have FIN:Hid (Kn.yk s.k z c ny (Kn.cH s.k z) s.k):=hJ (.inl ⟨a,rfl,rfl⟩);have HE:=hJ (bP a);rw[bP a]at AC;generalize gW (s.A 0) z (Kn.cH s.k z)=ap at*;generalize s.A 0=kb at*;go_in
  go_wp2_with fail
  refine sC AC.v ?_;rintro w1 hw;subst w1;go_wp2
  go_ret
  exact⟨Kn.cH s.k z,s.k,by rw[HE.v];rfl,FIN.v,H.1,KF.refl _ _⟩
end
namespace Kn
theorem Aq{z:Int}(h:eZ k z p=0):lv k (iZ k z p)=bE:=by
 unfold iZ;rw[aJ h];unfold eZ at h;by_cases a:cH k z=0
 .rw[aJ a]at h;by_cases f:Sp.gF k.sp (Sp.dV k.sp z:Nat) p=0
  .rw[aJ f]at h;cases l:lv k (Sp.eV k.sp (Sp.dV k.sp z:Nat) p)
   .rw[l]at h;revert h;decide
   .rfl
  .rw[aI f]at h;exact aZ h f
 .rw[aI a]at h;exact aZ h a
theorem As(hw:∀z p,z<6->p<21->k.sp.cD z p<=20)(z p:Int):iZ k z p<20:=by
 unfold iZ;by_cases c:eZ k z p=0
 .rw[aJ c];exact lU hw _ _
 .rw[aI c];omega
def pL(k:Kp)(z p c:Int):Int:=if eZ k z p=0 then(if c<1\/8<c then 1 else if p=1 then 8 else 0)else eZ k z p
def qZ(k:Kp)(z p c:Int)(k':Kp):Prop:=(pL k z p c≠0/\k'=k)\/(pL k z p c=0/\∃y q,YQ k (iZ k z p) y q/\vL (dy k (iZ k z p) (Sg.mE (k.p (iZ k z p)).box c)) (iZ k z p) y q k')
end Kn
section
variable (VK N:Nat)(d:Nat->Nat)(s:St)(w:bD)
theorem Dp(hN:N<=900)(z p c:Int)(h:bT w VK s)(hi:Kn.KI N d s.k)(h1:Kn.eZ s.k z p=0->p≠1->Kn.iZ s.k z p≠0):
  Calls prog 41 #[ai (bB ⟨s.A 0,0,bC⟩),aa bf z,aa bf p,aa bf c] w λe w'=>∃k',e=bw (bS (Kn.pL s.k z p c))/\Kn.qZ s.k z p c k'/\bT w' VK {s with k:=k'}/\KF s w {s with k:=k'} w':=by
 have hw:∀z p,z<6->p<21->s.k.sp.cD z p<=20:=hi.vi.iv.qR;have SE:=hJ (Dr VK s w z p h hw);have H:=hJ (aK h (aK hi hN));by_cases a:Kn.eZ s.k z p=0
 .have hn:=Kn.As hw z p;have hlv:=Kn.Aq a;have n0:=h1 a;rw[a,bN]at SE;obtain⟨n,hsn⟩:=hU (Kn.iZ s.k z p);have HSN:=hJ hsn;rw[hsn]at SE hn hlv n0;have hnI:(n:Int)<20:=bG
  by_cases b:c<1\/8<c
  .have E:Kn.pL s.k z p c=1:=by unfold Kn.pL;rw[aJ a,aJ b]
   have FIN:Hid (Kn.qZ s.k z p c s.k):=hJ (.inl ⟨by rw[E];decide,rfl⟩);rw[E];generalize s.A 0=kb at*;by_cases b1:c<1
   .clear b;go_in
    go_wp2_with fail
    refine sC SE.v ?_;rintro w1 hb;have S1:Hid (bT w1 VK s/\KF s w s w1):=hJ ⟨H.1.below hb,KF.below hb⟩;go_wp2
    go_ret
    exact⟨s.k,rfl,FIN.v,S1.v⟩
   .have b2:8<c:=bG
    go_in
    go_wp2_with fail
    refine sC SE.v ?_;rintro w1 hb;have S1:Hid (bT w1 VK s/\KF s w s w1):=hJ ⟨H.1.below hb,KF.below hb⟩;go_wp2
    go_ret
    exact⟨s.k,rfl,FIN.v,S1.v⟩
  .have b1:¬c<1:=bG
   have b2:¬8<c:=bG
   by_cases p1:p=1
   .subst p1;have E:Kn.pL s.k z 1 c=8:=by unfold Kn.pL;rw[aJ a,aI b,aJ rfl]
    have FIN:Hid (Kn.qZ s.k z 1 c s.k):=hJ (.inl ⟨by rw[E];decide,rfl⟩);rw[E];generalize s.A 0=kb at*;go_in
    go_wp2_with fail
    refine sC SE.v ?_;rintro w1 hb;have S1:Hid (bT w1 VK s/\KF s w s w1):=hJ ⟨H.1.below hb,KF.below hb⟩;go_wp2
    go_ret
    exact⟨s.k,rfl,FIN.v,S1.v⟩
   .have E:Kn.pL s.k z p c=0:=by unfold Kn.pL;rw[aJ a,aI b,aI p1]
    obtain⟨y,q,li⟩:=hi.li hn hlv (Sg.mE (s.k.p n).box c);have FIN:Hid (∀k',Kn.vL (Kn.dy s.k n (Sg.mE (s.k.p n).box c)) n y q k'->Kn.qZ s.k z p c k'):=hJ (λk' e=> .inr ⟨E,y,q,by rw[HSN.v];exact⟨li.yq,e⟩⟩);have HH:=hJ (aK (hi.has hn hlv) (aK (n0 p1) li));rw[E,bN];have pI:(p==1)=bF:=by simpa using p1
    obtain⟨kb,hkb⟩:=hU (s.A 0);have HK:=hJ hkb;obtain⟨bb,hbb⟩:=hU (s.A (29+n));have HB:=hJ hbb;rw[hkb]at SE|-;go_in
    go_wp2_with fail
    refine sC SE.v ?_;rintro w1 hb;have S1:Hid (bT w1 VK s/\KF s w s w1):=hJ ⟨H.1.below hb,KF.below hb⟩;have c5:=S1.1.sX n hn HH.1;have SD:=hJ (xF (s.A (29+n)) c (s.k.p n).box w1 (S1.1.bx n hn HH.1));rw[HK.v,HB.v]at c5;rw[HB.v]at SD;go_wp2_with fail
    refine sC SD.v ?_;rintro w2 ⟨u2,f2⟩;generalize bS (Sg.cQ c)=ev;have S2:Hid (bT w2 VK {s with k:=Kn.dy s.k n (Sg.mE (s.k.p n).box c)}/\KF s w {s with k:=Kn.dy s.k n (Sg.mE (s.k.p n).box c)} w2):=hJ (by
     rw[<-HB.v]at u2 f2;have q:=S1.1.wm hn HH.1 u2 f2;exact⟨q.1,S1.2.trans q.2⟩)
    have LK:=hJ (Bf VK N d {s with k:=Kn.dy s.k n (Sg.mE (s.k.p n).box c)} w2 H.2.2 n y q HH.2.1 S2.1 HH.2.2);rw[show({s with k:=Kn.dy s.k n (Sg.mE (s.k.p n).box c)}:St).A 0=kb from HK.v]at LK;go_wp2_with fail
    refine LK.mono ?_;rintro e w3 ⟨k',rfl,et,ka,kf⟩;have S3:Hid (Kn.qZ s.k z p c k'/\bT w3 VK {s with k:=k'}/\KF s w {s with k:=k'} w3):=hJ ⟨FIN.v k' et,ka,S2.2.trans kf⟩;go_wp2
    go_ret
    exact⟨k',rfl,S3.v⟩
 .have E:Kn.pL s.k z p c=Kn.eZ s.k z p:=aI a;have FIN:Hid (Kn.qZ s.k z p c s.k):=hJ (.inl ⟨by rw[E];exact a,rfl⟩);rw[bP a]at SE;rw[E,bP a];generalize Kn.iZ s.k z p=sn at*;generalize Kn.eZ s.k z p=ae at*;generalize s.A 0=kb at*;go_in
  go_wp2_with fail
  refine sC SE.v ?_;rintro w1 hb;have S1:Hid (bT w1 VK s/\KF s w s w1):=hJ ⟨H.1.below hb,KF.below hb⟩;go_wp2
  go_ret
  exact⟨s.k,rfl,FIN.v,S1.v⟩
end
namespace Kn
theorem VI.h0(h:VI X N d k):hd k 0=0:=(iV h.iv h.hs bG h.hs.r0.1).2 h.hs.r0.2
theorem VI.OH(h:VI X N d k){z:Int}(a:eZ k z p=0)(p1:p≠1):iZ k z p≠0:=by
 intro e;unfold iZ at e;rw[aJ a]at e;unfold eZ at a;by_cases c:cH k z=0
 .rw[aJ c]at a;obtain⟨n,rfl,hn,hl⟩:=fY c;have s1:(k.p n).st=1:=by unfold lv at hl;simpa using hl
  have o:=(h.kj.of n hn).2 bG;obtain⟨y,hy⟩:∃y,k.sp.of n=y+1:=⟨k.sp.of n-1,bG⟩;obtain⟨_,y6,yh⟩:=h.iv.dj hn hy;rw[Sp.gM hn hy]at a e;by_cases f:Sp.gF k.sp (y:Nat) p=0
  .unfold Sp.eV at e;rw[aJ f,hZ]at e;unfold Sp.gF at f;rw[Sp.iW y6 yh,aJ rfl,hZ]at f;by_cases g:p<1\/20<p\/k.sp.cD y p.toNat=0
   .rw[aJ g]at f;omega
   .have w1:k.sp.cD y p.toNat=0+1:=bG
    obtain⟨x,x20,xw,xo⟩:=h.hs.hd y y6 yh;by_cases x0:x=0
    .subst x0;have:=h.iv.one y p.toNat 1 y6 bG bG (by rw[w1,xw]) bG;omega
    .exact h.iv.zero h.hs y6 xw x0 ⟨p.toNat,bG,w1⟩
  .rw[aI f]at a;exact f a
 .rw[aI c]at a;exact c a
theorem OQ{X:Nat->Sg.S1}(j:Nat)(h:Sg.fw X 0 0):Sg.fw (Sg.vp X j) 0 0:=by
 rcases h with⟨_,h⟩|⟨h,_⟩
 .refine .inl ⟨rfl,λi h1 h2=>?_⟩;have q:=h i h1 h2;unfold Sg.vp;by_cases j0:j=0
  .first|(rw[aJ j0];exact q)|simp_all
  .unfold Sg.ok at*;by_cases c:i=j
   .subst c;simp[Sg.put,j0]
   .simpa[Sg.put,j0,c]using q
 .omega
theorem KI.box(h:KI N d k)(n:Nat){X:Nat->Sg.S1}(hX:n<20->lv k n=bE->hd k n≠n->Sg.fw X 0 0):KI N d (dy k n X):=by
 have e:∀m,((dy k n X).p m).st=(k.p m).st/\((dy k n X).p m).par=(k.p m).par:=λm=>by
  by_cases c:m=n
  .subst c;unfold dy;rw[bR];exact⟨rfl,rfl⟩
  .unfold dy;rw[cr _ _ _ _ c];exact⟨rfl,rfl⟩
 refine⟨⟨h.vi.kj.DS rfl rfl rfl,h.vi.iv,h.vi.hs⟩,λm hm l hd1=>?_,λm hm m0 s0=>?_,h.h0⟩
 .have l2:lv k m=bE:=by unfold lv at l|-;rw[(e m).1]at l;exact l
  by_cases c:m=n
  .subst c;unfold dy;rw[bR];exact hX hm l2 hd1
  .unfold dy;rw[cr _ _ _ _ c];exact h.fi m hm l2 hd1
 .rw[(e m).1]at s0;rw[(e m).2];exact h.pr m hm m0 s0
end Kn
namespace Kn
def iD(s:St)(y c:Nat)(v:Value)(T:Mo.Tb):St:=
 ⟨λi=>if i=49+y then c else if i=55+y then v.ownBlock.getD 0 else s.A i,λi=>if i=y then v else s.V i,{s.k with ht:=λi=>if i=y then bE else s.k.ht i,tb:=λi=>if i=y then T else s.k.tb i}⟩
section
variable (s:St)(y c:Nat)(v:Value)(T:Mo.Tb)
theorem nD:(iD s y c v T).A (49+y)=c:=aJ rfl
theorem oG:(iD s y c v T).A (55+y)=v.ownBlock.getD 0:=(nJ).trans (aJ rfl)
theorem fZ(h1:i≠49+y)(h2:i≠55+y):(iD s y c v T).A i=s.A i:=(aI h1).trans (aI h2)
theorem qF:(iD s y c v T).V y=v/\(iD s y c v T).k.ht y=bE/\(iD s y c v T).k.tb y=T:=⟨aJ rfl,aJ rfl,aJ rfl⟩
theorem kL(h:i≠y):(iD s y c v T).V i=s.V i/\(iD s y c v T).k.ht i=s.k.ht i/\(iD s y c v T).k.tb i=s.k.tb i:=⟨aI h,aI h,aI h⟩
end
theorem wC{T:Mo.Tb}(hi:us (iD s y c v T) i):i=49+y\/(i=55+y/\v.ownBlock≠bC)\/(us s i/\i≠49+y/\i≠55+y):=by
 by_cases c1:i=49+y
 .exact .inl c1
 .by_cases c2:i=55+y
  .refine .inr (.inl ⟨c2,?_⟩);subst c2;rcases hi with hi|⟨h1,h2,h3⟩|⟨h1,h2,h3⟩|⟨h1,h2,h3⟩|⟨h1,h2,h3,h4⟩
   .omega
   .omega
   .omega
   .omega
   .rw[show 55+y-55=y by omega,(qF s y c v T).1]at h4;exact h4
  .refine .inr (.inr ⟨?_,c1,c2⟩);rcases hi with hi|⟨h1,h2,h3⟩|⟨h1,h2,h3⟩|⟨h1,h2,h3⟩|⟨h1,h2,h3,h4⟩
   .exact .inl hi
   .exact .inr (.inl ⟨h1,h2,h3⟩)
   .exact .inr (.inr (.inl ⟨h1,h2,h3⟩))
   .rw[(kL s y c v T bG).2.1]at h3;exact .inr (.inr (.inr (.inl ⟨h1,h2,h3⟩)))
   .rw[(kL s y c v T bG).2.1]at h3;rw[(kL s y c v T bG).1]at h4;exact .inr (.inr (.inr (.inr ⟨h1,h2,h3,h4⟩)))
theorem QT(s:St)(y c:Nat)(v:Value)(T:Mo.Tb)(hy:y<6)(o:Nat)(ho:o<253):kc (iD s y c v T) o=if o=240+y then ai (bB ⟨c,0,bC⟩)else kc s o:=by
 unfold kc;by_cases e:o<240
 .rw[aJ e,aJ e,nJ];unfold pc;rw[fZ _ _ _ _ _ bG bG,fZ _ _ _ _ _ bG bG];rfl
 .rw[aI e,aI e];by_cases c2:o<246
  .rw[aJ c2,aJ c2];by_cases c3:o=240+y
   .rw[aJ c3,show o-240=y by omega,nD,(qF s y c v T).2.1];rfl
   .rw[aI c3,fZ _ _ _ _ _ bG bG,(kL s y c v T bG).2.1]
  .have c4:¬o=240+y:=bG
   rw[aI c2,aI c2,aI c4];by_cases c3:o<250
   .rw[aJ c3,aJ c3,fZ _ _ _ _ _ bG bG]
   .rw[aI c3,aI c3,fZ _ _ _ _ _ bG bG]
end Kn
section
variable {w w':bD}{VK:Nat}{s:St}
theorem bT.Pw(h:bT w VK s)(hy:y<6){T:Mo.Tb}(t:cC w VK c (s.A 6) T v)(ac:∀i,us s i->s.A i≠c)(ag:∀g,v.ownBlock=bB g->∀i,us s i->s.A i≠g)(lc:VK<=c):
  bT (w.setCell ⟨s.A 0,240+y,bC⟩ (ai (bB ⟨c,0,bC⟩))) VK (Kn.iD s y c v T)/\bO (s.A 0) w (w.setCell ⟨s.A 0,240+y,bC⟩ (ai (bB ⟨c,0,bC⟩))):=by
 obtain⟨C,e,sz⟩:=h.mL;have f:bO (s.A 0) w (w.setCell ⟨s.A 0,240+y,bC⟩ (ai (bB ⟨c,0,bC⟩))):=(bO.refl _ _).setCell _ _;have o:=h.others cE f;have A9:∀i,i<49->(Kn.iD s y c v T).A i=s.A i:=λi hi=>Kn.fZ _ _ _ _ _ bG bG;have t':cC (w.setCell ⟨s.A 0,240+y,bC⟩ (ai (bB ⟨c,0,bC⟩))) VK c (s.A 6) T v:=t.same (f.block _ t.lt (ac 0 cE).symm) (λg eg=>f.block _ (t.row.lt g eg).2 (ag g eg 0 cE).symm);have rg:v.ownBlock≠bC->∃g,v.ownBlock=bB g/\v.ownBlock.getD 0=g:=λq=>by
  cases e:v.ownBlock with
  |none=>exact aZ e q
  |some g=>exact⟨g,rfl,rfl⟩
 refine⟨⟨⟨_,by rw[A9 0 bG];exact cT e _ _,by simpa using sz⟩,λi hi=>?_,by rw[A9 1 bG];exact h.sp.same (o 1 cE bG),by rw[A9 2 bG];exact(o 2 cE bG).trans h.gr,by rw[A9 3 bG];exact h.sc.same (o 3 cE bG),by rw[A9 4 bG,A9 5 bG];exact h.bk.same (o 4 cE bG) (o 5 cE bG),by rw[A9 8 bG,A9 6 bG,A9 7 bG];exact h.fi.same (o 8 cE bG),by rw[A9 6 bG];exact h.fo.same (o 6 cE bG),by rw[A9 7 bG];exact h.pi.same (o 7 cE bG),
  λj hj jh=>?_,λj hj jh=>?_,λj hj hh=>?_,λj hj hh g eg=>?_,λi j hi hj eq=>?_,λi hi=>?_⟩,f⟩
 .rw[A9 0 bG,Kn.QT s y c v T hy i hi];by_cases q:i=240+y
  .subst q;rw[aJ rfl,dH e _ _ bG]
  .rw[aI q,dw e _ _ _ (bQ q),h.eF i hi]
 .rw[A9 _ bG,A9 4 bG];exact(h.me j hj jh).same (o _ (Kn.jb hj jh) bG)
 .rw[A9 _ bG];exact(h.bx j hj jh).same (o _ (Kn.jY hj jh) bG)
 .by_cases q:j=y
  .subst q;rw[Kn.nD,A9 6 bG,(Kn.qF s j c v T).1,(Kn.qF s j c v T).2.2];exact t'
  .rw[(Kn.kL s y c v T q).2.1]at hh;rw[Kn.fZ _ _ _ _ _ bG bG,A9 6 bG,(Kn.kL s y c v T q).1,(Kn.kL s y c v T q).2.2];exact(h.tb j hj hh).same (o _ (Kn.kv hj hh) bG) (λg eg=>by have:=o _ (Kn.jZ hj hh eg) bG;rwa [h.ro j hj hh g eg]at this)
 .by_cases q:j=y
  .subst q;rw[(Kn.qF s j c v T).1]at eg;rw[Kn.oG,eg];rfl
  .rw[(Kn.kL s y c v T q).2.1]at hh;rw[(Kn.kL s y c v T q).1]at eg;rw[Kn.fZ _ _ _ _ _ bG bG];exact h.ro j hj hh g eg
 .rcases Kn.wC hi with rfl|⟨rfl,vi⟩|⟨ui,i1,i2⟩<;>rcases Kn.wC hj with rfl|⟨rfl,vj⟩|⟨uj,j1,j2⟩
  .rfl
  .obtain⟨g,g1,g2⟩:=rg vj;rw[Kn.nD,Kn.oG,g2]at eq;exact aZ eq.symm (t.Pu g g1)
  .rw[Kn.nD,Kn.fZ _ _ _ _ _ j1 j2]at eq;exact aZ eq.symm (ac j uj)
  .obtain⟨g,g1,g2⟩:=rg vi;rw[Kn.nD,Kn.oG,g2]at eq;exact aZ eq (t.Pu g g1)
  .rfl
  .obtain⟨g,g1,g2⟩:=rg vi;rw[Kn.oG,g2,Kn.fZ _ _ _ _ _ j1 j2]at eq;exact aZ eq.symm (ag g g1 j uj)
  .rw[Kn.nD,Kn.fZ _ _ _ _ _ i1 i2]at eq;exact aZ eq (ac i ui)
  .obtain⟨g,g1,g2⟩:=rg vj;rw[Kn.oG,g2,Kn.fZ _ _ _ _ _ i1 i2]at eq;exact aZ eq (ag g g1 i ui)
  .rw[Kn.fZ _ _ _ _ _ i1 i2,Kn.fZ _ _ _ _ _ j1 j2]at eq;exact h.inj i j ui uj eq
 .rcases Kn.wC hi with rfl|⟨rfl,vi⟩|⟨ui,i1,i2⟩
  .rw[Kn.nD];exact lc
  .obtain⟨g,g1,g2⟩:=rg vi;rw[Kn.oG,g2];exact(t.row.lt g g1).1
  .rw[Kn.fZ _ _ _ _ _ i1 i2];exact h.low i ui
end
theorem cC.low{B:Nat}{T:Mo.Tb}(h:cC w B b f T v)(hB:VK<=B):cC w VK b f T v:=by
 refine⟨h.dk,⟨h.row.1,?_⟩,h.sF⟩;rcases h.row.2 with q|⟨g,cap,cur,e,hb,r⟩
 .exact .inl q
 .exact .inr ⟨g,cap,cur,e,aH hB hb,r⟩
def Kn.jC(k:Kp)(n:Nat)(own:Bool):Int:=if own=bE then Sp.iN k.sp ((Sp.dV k.sp (n:Int):Nat):Int)else 0
def Kn.mU(k:Kp)(n:Nat)(own:Bool):Nat:=if own=bE then Sp.nL k.sp ((Sp.dV k.sp (n:Int):Nat):Int)else Sp.dV k.sp (n:Int)
def Kn.fP(k:Kp)(n:Nat)(own:Bool):Kp:=if own=bE/\Kn.jC k n own=0 then{k with sp:=Sp.gm k.sp ((Sp.dV k.sp (n:Int):Nat):Int),fo:=Mo.nQ k.fo (k.tb (Sp.dV k.sp (n:Int))),ht:=λi=>if i=Kn.mU k n own then bE else k.ht i,tb:=λi=>if i=Kn.mU k n own then k.tb (Sp.dV k.sp (n:Int))else k.tb i}else k
section
variable (VK N:Nat)(d:Nat->Nat)(s:St)(w:bD)
theorem Km(n z:Nat)(own:Bool)(h:bT w VK s)(hb:VK<=w.heap.size)(hv:VI (λ_=>False) N d s.k)(hn:n<20)(ho:s.k.sp.of n=z+1):
  Calls prog 66 #[ai (bB ⟨s.A 0,0,bC⟩),aa bf n, .bool own] w λe w'=>∃s',e=bw (ao #[aa bf (Kn.mU s.k n own:Int),bS (Kn.jC s.k n own)])/\s'.k=Kn.fP s.k n own/\bT w' VK s'/\KF s w s' w':=by
 obtain⟨_,z6,zh⟩:=hv.iv.dj hn ho;have z6I:(z:Int)<6:=bG
 have SP:=hJ (iK VK s w (n:Int) h);have iz:Sp.dV s.k.sp (n:Int)=z:=Sp.gM hn ho;have hz:s.k.ht z=bE:=by rw[hv.kj.ht z z6];exact zh
 have H:=hJ (aK h (aK hv (aK hz hb)));rw[iz]at SP;cases own
 .have E:Hid (Kn.jC s.k n bF=0/\Kn.mU s.k n bF=z/\Kn.fP s.k n bF=s.k):=hJ ⟨rfl,iz,by unfold Kn.fP;rw[aI (λq=>by cases q.1)]⟩;rw[E.1,E.2.1,bN];generalize s.A 0=kb at*;go_in
  go_wp2_with fail
  refine sC SP.v ?_;rintro w1 hw;subst w1;go_wp2
  go_ret2
  exact⟨s,rfl,E.2.2.symm,H.1,KF.refl _ _⟩
 .have E0:Kn.jC s.k n bE=Sp.iN s.k.sp (z:Int):=by unfold Kn.jC;rw[aJ rfl,iz]
  have N0:Kn.mU s.k n bE=Sp.nL s.k.sp (z:Int):=by unfold Kn.mU;rw[aJ rfl,iz]
  have AD:=hJ (vS (s.A 1) (z:Int) s.k.sp d w h.sp hv.iv);have c6:=h.yD;obtain⟨kb,hkb⟩:=hU (s.A 0);have HK:=hJ hkb;obtain⟨p1,hp1⟩:=hU (s.A 1);have HP:=hJ hp1;rw[hkb]at SP c6|-;rw[hp1]at AD c6;by_cases c:Sp.iN s.k.sp (z:Int)=0
  .obtain⟨f6,fh⟩:Sp.fM s.k.sp<6/\s.k.sp.here (Sp.fM s.k.sp)=bF:=by obtain⟨n1,e1,a1,a2,a3,a4,a5,a6⟩:=Sp.pf c;exact⟨a4,a5⟩
   have an:Sp.nL s.k.sp (z:Int)=Sp.fM s.k.sp:=aJ c;obtain⟨y,hy⟩:=hU (Sp.fM s.k.sp);rw[hy]at f6 fh an;have EK:Hid (Kn.fP s.k n bE={s.k with sp:=Sp.gm s.k.sp (z:Int),fo:=Mo.nQ s.k.fo (s.k.tb z),ht:=λi=>if i=y then bE else s.k.ht i,tb:=λi=>if i=y then s.k.tb z else s.k.tb i}):=hJ (by
    unfold Kn.fP;rw[aJ ⟨rfl,by rw[E0];exact c⟩,N0,an,iz])
   rw[E0,N0,an,c,bN];rw[an,c,bN]at AD;have y6I:(y:Int)<6:=bG
   have YZ:y≠z:=λe=>by rw[e,zh]at fh;cases fh
   go_in
   go_wp2_with fail
   refine sC SP.v ?_;rintro w1 hw;subst w1;go_wp2_with fail
   refine sC AD.v ?_;rintro w1 ⟨t1,f1⟩;have S1:Hid (bT w1 VK {s with k:={s.k with sp:=Sp.gm s.k.sp (z:Int)}}/\KF s w {s with k:={s.k with sp:=Sp.gm s.k.sp (z:Int)}} w1/\VK<=w1.heap.size):=hJ (by
    rw[<-HP.v]at t1 f1;have q:=H.1.yY t1 f1;exact⟨q.1,q.2,aH H.2.2.2 f1.size⟩)
   go_upto_region 7 with fail
   have KC:Hid (∀W k,bT W VK {s with k:=k}->k.ht z=bE->W.cell? ⟨kb,240+z,bC⟩=bB (ai (bB ⟨s.A (49+z),0,bC⟩))):=hJ (λW k hW e=>by
    have q:=hW.MJ z z6 e;rw[show({s with k:=k}:St).A 0=kb from HK.v]at q;exact q)
   have K0:=hJ (KC.v w1 _ S1.1 H.2.2.1);have CP:=hJ (M4 VK (s.A (49+z)) (s.A 6) 102 (s.k.tb z) (s.V z) s.k.fo w1.drew (S1.1.drew.tb z z6 H.2.2.1) S1.1.drew.fo H.2.1.kj.hb bM);obtain⟨tz,htz⟩:=hU (s.A (49+z));rw[htz]at CP K0;have y1:=K0.v;go_region_held3 (λw'=>w'.cell? ⟨kb,240+z,bC⟩=bB (ai (bB ⟨tz,0,bC⟩))) (first|exact K0.v|exact K4.v|exact K5.v) (
    (go_at_call 141;refine CP.mono ?_;rintro e w4 ⟨c,v',rfl,lc,t4,u4,f4⟩;have S4:Hid (bT w4 VK {s with k:={s.k with sp:=Sp.gm s.k.sp (z:Int),fo:=Mo.nQ s.k.fo (s.k.tb z)}}/\KF s w {s with k:={s.k with sp:=Sp.gm s.k.sp (z:Int),fo:=Mo.nQ s.k.fo (s.k.tb z)}} w4/\cC w4 w1.heap.size c (s.A 6) (s.k.tb z) v'/\w1.heap.size<=c):=hJ (by
      have q:=S1.1.drew.Cm u4 f4;exact⟨q.1,S1.2.1.trans ((KF.drew _ _).trans q.2),t4,lc⟩);have K4:Hid (w4.cell? ⟨kb,240+z,bC⟩=bB (ai (bB ⟨tz,0,bC⟩))):=hJ (by
      rw[<-K0.v];exact aV (f4.block kb (by rw[<-HK.v];exact S1.1.lt cE) (by rw[<-HK.v];exact S1.1.ne cE cE bG)));have K5:Hid ((w4.setCell ⟨kb,240+y,bC⟩ (ai (bB ⟨c,0,bC⟩))).cell? ⟨kb,240+z,bC⟩=bB (ai (bB ⟨tz,0,bC⟩))):=hJ (by
      obtain⟨C,e,_⟩:=S4.1.mL;rw[show({s with k:={s.k with sp:=Sp.gm s.k.sp (z:Int),fo:=Mo.nQ s.k.fo (s.k.tb z)}}:St).A 0=kb from HK.v]at e;rw[dw e _ _ _ bG];exact K4.v);have cy:∃vy,w4.cell? ⟨kb,240+y,bC⟩=bB vy:=(by rw[<-HK.v];exact⟨_,S4.1.eF (240+y) bG⟩);obtain⟨vy,cy⟩:=cy;have fz:∀o,w4.frozen? ⟨kb,o,bC⟩=bF:=(λo=>by rw[<-HK.v];exact S4.1.frozen o)))
   have FIN:Hid (bT (w4.setCell ⟨kb,240+y,bC⟩ (ai (bB ⟨c,0,bC⟩))) VK (Kn.iD {s with k:={s.k with sp:=Sp.gm s.k.sp (z:Int),fo:=Mo.nQ s.k.fo (s.k.tb z)}} y c v' (s.k.tb z))/\KF s w (Kn.iD {s with k:={s.k with sp:=Sp.gm s.k.sp (z:Int),fo:=Mo.nQ s.k.fo (s.k.tb z)}} y c v' (s.k.tb z)) (w4.setCell ⟨kb,240+y,bC⟩ (ai (bB ⟨c,0,bC⟩)))):=hJ (by
    have lt1:∀i,us s i->s.A i<w1.heap.size:=λi hi=>aD (H.1.lt hi) S1.2.1.ie.size;have q:=S4.1.Pw f6 (S4.2.2.1.low S1.2.2) (λi hi=>by have:=lt1 i hi;have:=S4.2.2.2;show s.A i≠c;omega) (λg eg i hi=>by have:=lt1 i hi;have:=(S4.2.2.1.row.lt g eg).1;show s.A i≠g;omega) (aH S1.2.2 S4.2.2.2);rw[show({s with k:={s.k with sp:=Sp.gm s.k.sp (z:Int),fo:=Mo.nQ s.k.fo (s.k.tb z)}}:St).A 0=kb from HK.v]at q;refine⟨q.1,S4.2.1.ie.trans (dR.kP q.2 (by rw[<-HK.v];exact⟨0,cE,rfl⟩)),λb ⟨i,hi,eb⟩=>?_,Kn.fZ _ _ _ _ _ bG bG⟩;rcases Kn.wC hi with rfl|⟨rfl,vi⟩|⟨ui,i1,i2⟩
    .rw[Kn.nD]at eb;exact .inr (by rw[eb];exact aH S1.2.1.ie.size S4.2.2.2)
    .rw[Kn.oG]at eb;cases e:v'.ownBlock with
     |none=>exact aZ e vi
     |some g=>
      rw[e]at eb;have:=(S4.2.2.1.row.lt g e).1;exact .inr (by rw[eb];exact aH S1.2.1.ie.size this)
    .rw[Kn.fZ _ _ _ _ _ i1 i2]at eb;exact .inl ⟨i,ui,eb⟩)
   go_wp2
   go_ret2
   exact⟨rfl,_,EK.symm,FIN.v⟩
  .have E:Hid (Kn.fP s.k n bE=s.k/\Sp.gm s.k.sp (z:Int)=s.k.sp):=hJ ⟨by unfold Kn.fP;rw[aI (λq=>c (by rw[<-E0];exact q.2))],aI c⟩;have an:Sp.nL s.k.sp (z:Int)=0:=aI c;rw[E0,N0,an,bP c];rw[an,bP c]at AD;generalize Sp.iN s.k.sp (z:Int)=ae at*;go_in
   go_wp2_with fail
   refine sC SP.v ?_;rintro w1 hw;subst w1;go_wp2_with fail
   refine sC AD.v ?_;rintro w1 ⟨t1,f1⟩;have S1:Hid (bT w1 VK s/\KF s w s w1):=hJ (by
    rw[<-HP.v]at t1 f1;rw[E.2]at t1;exact H.1.yY t1 f1)
   go_wp2
   go_ret2
   exact⟨s,rfl,E.1.symm,S1.v⟩
end
namespace Mv
theorem uE{fr:Nat->Nat}(f:Nat):∀n,(∀x,x<n->fr x=0)->eH fr f n=0
 |0,_=>rfl
 |n+1,h=>by
  show eH fr f n+(if fr n=f+1 then 1 else 0)=0;rw[uE f n (λx hx=>h x bG),h n bG,nJ]
theorem fR.Sr{k:Bk}{me:Nat->Me}(h:fR k N me)(hi:i<N)(hj:j<N)(h0:∀x,x<16->(me j).fr x=0):fR (eJ (me i) k 16) N (im me j (me i)):=by
 refine⟨h.inv,h.nb,h.n8,λa ha n hn=>?_,λf hf=>?_,λf hf=>?_,h.one⟩
 .by_cases c:a=j
  .subst c;rw[dZ];exact h.le i hi n hn
  .rw[gv _ _ _ _ c];exact h.le a ha n hn
 .show k.refs f+eH (me i).fr f 16=pG (im me j (me i)) f N;have:=AB me f j (me i) N;rw[aJ hj,aJ hj,uE f 16 h0]at this;rw[h.ref f hf];omega
 .show k.dn.tk f=bE↔1<=k.refs f+eH (me i).fr f 16;rw[h.tk f hf];have:=(h.cY hi).cY f hf;omega
end Mv
namespace Sp
section
variable {t:T}{d:Nat->Nat}{z x:Nat}
theorem Da(hz:z<6)(hh:t.here z=bE)(hx:x<20)(h0:t.of x=0):mr t (z:Int) (x:Int)=0/\fO t (z:Int) (x:Int)={DU t (W t (z:Int)) x with of:=tZ t.of x (z+1)}:=by
 have e:mr t (z:Int) (x:Int)=0:=by
  unfold mr iX;rw[iW hz hh,aJ rfl,rC hx,aJ rfl,hZ,aJ h0]
 refine⟨e,?_⟩;unfold fO;rw[aJ e,hZ,hZ]
theorem qs(hz:z<6)(hh:t.here z=bE)(hx:x<20)(h0:t.of x=0)(m:Nat):(fO t (z:Int) (x:Int)).of m=if m=x then z+1 else t.of m:=by rw[(Da hz hh hx h0).2];rfl
theorem lG(hz:z<6)(hh:t.here z=bE)(hx:x<20)(h0:t.of x=0):(fO t (z:Int) (x:Int)).here=t.here/\(fO t (z:Int) (x:Int)).par=t.par:=by rw[(Da hz hh hx h0).2];exact⟨rfl,rfl⟩
theorem Ab(hz:z<6)(hh:t.here z=bE)(hx:x<20)(h0:t.of x=0)(s p:Nat):(fO t (z:Int) (x:Int)).cD s p=if s∈W t (z:Int)/\p=low t s then x+1 else t.cD s p:=by rw[(Da hz hh hx h0).2];rfl
theorem ti(hI:Inv t d)(hz:z<6)(hh:t.here z=bE)(hx:x<20)(h0:t.of x=0){s p:Nat}(hs:s<6)(hw:t.cD s p≠0):(fO t (z:Int) (x:Int)).cD s p=t.cD s p:=by
 rw[Ab hz hh hx h0,aI];rintro⟨_,rfl⟩;exact hw (hI.low hx h0 hs).2.2.1
theorem qX.enter(hI:Inv t d)(hz:z<6)(hh:t.here z=bE)(hx:x<20)(h0:t.of x=0)(hH:∀s,s<6->t.here s=bE->(∃h,h<20/\t.cD s 1=h+1/\t.of h=s+1)\/(s=z/\∀p,p<21->t.cD s p=0))(r0:t.of 0=1/\t.cD 0 1=1):qX (fO t (z:Int) (x:Int)):=by
 refine⟨λs hs hs2=>?_,?_⟩
 .rw[(lG hz hh hx h0).1]at hs2;rcases hH s hs hs2 with⟨h,a,b,c⟩|⟨rfl,e⟩
  .exact⟨h,a,by rw[ti hI hz hh hx h0 hs bG];exact b,by rw[qs hz hh hx h0,aI (λq=>by subst q;omega)];exact c⟩
  .have l:=hI.low hx h0 hs;have l1:low t s=1:=by
    by_cases c:low t s=1
    .exact c
    .exact aZ (e 1 bG) (l.2.2.2 1 bG bG)
   refine⟨x,hx,?_,by rw[qs hz hh hx h0,aJ rfl]⟩;have mz:s∈W t (s:Int):=by rw[hI.tree.step hz hh];simp
   rw[Ab hz hh hx h0,aJ ⟨mz,l1.symm⟩]
 .have x0:(0:Nat)≠x:=λq=>by subst q;rw[r0.1]at h0;omega
  rw[qs hz hh hx h0,aI x0,ti hI hz hh hx h0 bG (by rw[r0.2];omega)];exact r0
theorem add_eq{y:Int}(h:iN t y=0):gm t y={t with here:=nF t.here (fM t) bE,par:=gE t.par (fM t) y}:=by unfold gm;rw[aJ h]
end
end Sp
namespace Mo
theorem oC(F:Fo)(z:Int)(n:Nat):((Tr.dO F z).nd n).kind=(F.nd n).kind:=by
 unfold Tr.dO;split
 .by_cases c:n=z.toNat
  .subst c;rw[Tr.bR]
  .rw[Tr.cr _ _ _ _ c]
 .rfl
theorem Nr(F:Fo)(T:Mo.Tb)(n:Nat):((nQ F T).nd n).kind=(F.nd n).kind:=by
 have:∀(L:List Mt) (G:Fo),((L.foldl nu G).nd n).kind=(G.nd n).kind:=λL=>by
  induction L with
  |nil=>exact λ_=>rfl
  |cons m L ih=>exact λG=>(ih _).trans ((oC _ _ _).trans (oC _ _ _))
 exact(this _ _).trans (oC _ _ _)
theorem SJ{T:Mo.Tb}(h:Tr.Ok F):Tr.Ok (nQ F T):=by
 have:∀(L:List Mt) (G:Fo),Tr.Ok G->Tr.Ok (L.foldl nu G):=λL=>by
  induction L with
  |nil=>exact λ_ h=>h
  |cons m L ih=>exact λG h=>ih _ ((h.dO _).dO _)
 exact this _ _ (h.dO _)
theorem KY{L:List Mt}{m:Mt}(h:m∈L)(n:Nat):gS m.1.2 n+gS m.2.2 n<=mc L n:=by
 induction L with
 |nil=>cases h
 |cons x L ih=>
  rw[nC];rcases List.mem_cons.1 h with rfl|h
  .omega
  .have:=ih h;omega
theorem HI.tab{f:Nat->Nat}{T:Mo.Tb}(h:HI F f)(hr:Rg T)(hf:∀n,n<40->tc T n<=f n):Tr.cM F T.rt.2=0/\∀m∈T.ms,Tr.cM F m.1.2=0/\Tr.cM F m.2.2=0:=by
 have key:∀z,wO z->(∀n,n<40->gS z n<=f n)->Tr.cM F z=0:=λz hz hl=>by
  obtain⟨n,rfl,n40⟩:=hz;unfold Tr.cM;have:=hl n n40;rw[rB]at this;rw[nJ,hZ,aI (h.lv n n40 bG)]
 refine⟨key _ hr.1 (λn hn=>?_),λm hm=>⟨key _ (hr.2 m hm).1 (λn hn=>?_),key _ (hr.2 m hm).2 (λn hn=>?_)⟩⟩
 .have:=hf n hn;unfold tc at this;omega
 .have a:=hf n hn;have b:=KY hm n;unfold tc at a;omega
 .have a:=hf n hn;have b:=KY hm n;unfold tc at a;omega
end Mo
namespace Kn
section
variable {X:Nat->Prop}{N:Nat}{d:Nat->Nat}{k:Kp}
theorem Bw(k:Kp)(k':Kp)(y:Nat)(T:Mo.Tb)(h1:k'.ht=λi=>if i=y then bE else k.ht i)(h2:k'.tb=λi=>if i=y then T else k.tb i)(h0:k.ht y=bF)(m:Nat):∀s,la k' m s=la k m s+(if y<s then Mo.tc T m else 0)
 |0=>by rw[aI (Nat.not_lt_zero _)];rfl
 |s+1=>by
  have ih:=Bw k k' y T h1 h2 h0 m s;show la k' m s+(if k'.ht s=bE then Mo.tc (k'.tb s) m else 0)=la k m s+(if k.ht s=bE then Mo.tc (k.tb s) m else 0)+_;rw[ih];by_cases c:s=y
  .have a:k'.ht s=bE:=by rw[h1];exact aJ c
   have b:k'.tb s=T:=by rw[h2];exact aJ c
   subst c;rw[aJ a,b,h0,aI (show¬s<s by omega),aI (show¬bF=bE by decide),aJ (show s<s+1 by omega)]
  .have a:k'.ht s=k.ht s:=by rw[h1];exact aI c
   have b:k'.tb s=k.tb s:=by rw[h2];exact aI c
   rw[a,b];by_cases e:y<s
   .rw[aJ e,aJ (show y<s+1 by omega)];omega
   .rw[aI e,aI (show¬y<s+1 by omega)];omega
theorem sK{k:Kp}{z:Nat}(m:Nat)(hz:k.ht z=bE):∀s,z<s->Mo.tc (k.tb z) m<=la k m s
 |0,h=>aZ h (Nat.not_lt_zero _)
 |s+1,h=>by
  show _<=la k m s+(if k.ht s=bE then Mo.tc (k.tb s) m else 0);by_cases c:z=s
  .subst c;rw[aJ hz];omega
  .have:=sK m hz s bG;omega
def Am(k:Kp)(z y:Nat):Kp:={k with sp:=Sp.gm k.sp (z:Int),fo:=Mo.nQ k.fo (k.tb z),ht:=λi=>if i=y then bE else k.ht i,tb:=λi=>if i=y then k.tb z else k.tb i}
theorem KJ.Lc(h:KJ X N k)(ea:Sp.iN k.sp (z:Int)=0)(hy:Sp.fM k.sp=y):KJ X N (Am k z y):=by
 obtain⟨z',ez,z6,zh,wl,f6,fh,fl⟩:=Sp.pf ea;obtain rfl:z=z':=bG
 rw[hy]at f6 fh;have htz:k.ht z=bE:=by rw[h.ht z z6];exact zh
 have hty:k.ht y=bF:=by rw[h.ht y f6];exact fh
 have tx:∀m,jM (Am k z y) m=jM k m+Mo.tc (k.tb z) m:=λm=>by
  have:=Bw k (Am k z y) y (k.tb z) rfl rfl hty m 6;rw[aJ f6]at this;exact this
 have rg:=h.tb z z6 htz;have hi:Mo.HI k.fo (λn=>Fx.cK k.fi 1 n 24+jM k n):=⟨λn hn=>h.wx.hl n hn,λn hn c kz=>by
  have:=h.wx.z0 n hn kz;rw[h.wx.hl n hn]at this;omega⟩
 have nn:=hi.tab rg.1 (λn _=>by have:Mo.tc (k.tb z) n<=jM k n:=sK n htz 6 z6;omega);have ho:=Mo.SF hi nn.1 nn.2;have es:=Sp.add_eq ea;rw[hy]at es;refine⟨?_,h.gr,h.me,?_,h.rf,Mo.SJ h.ok,λs hs q=>?_,h.st,h.hs,h.lv,λn hn=>?_,λs hs=>?_,h.nm⟩
 .obtain⟨d,hd⟩:=h.sp;exact hd.add _
 .refine⟨h.wx.no,h.wx.kd,λn hn r k1=>?_,h.wx.pn,h.wx.ps,λm hm=>?_,λm hm kz=>?_,h.wx.rd,h.wx.wt⟩
  .have a:=h.wx.nd n hn r k1;exact⟨a.1,by show((Mo.nQ k.fo (k.tb z)).nd _).kind=1;rw[Mo.Nr];exact a.2⟩
  .show((Mo.nQ k.fo (k.tb z)).nd m).held=_;rw[ho.hd m hm,tx m];show _=Fx.cK k.fi 1 m 24+_;omega
  .by_cases c:((Mo.nQ k.fo (k.tb z)).nd m).held=0
   .exact c
   .exact aZ kz (ho.lv m hm (by rw[<-ho.hd m hm];omega))
 .have q2:(if s=y then bE else k.ht s)=bE:=q;show Mo.Rg (if s=y then k.tb z else k.tb s)/\(if s=y then k.tb z else k.tb s).ms.length<=6;by_cases c:s=y
  .rw[aJ c];exact rg
  .rw[aI c]at q2|-;exact h.tb s hs q2
 .show(Sp.gm k.sp (z:Int)).of n≠0↔_;rw[es];exact h.of n hn
 .show(if s=y then bE else k.ht s)=(Sp.gm k.sp (z:Int)).here s;rw[es];show _=if s=y then bE else k.sp.here s;by_cases c:s=y
  .rw[aJ c,aJ c]
  .rw[aI c,aI c];exact h.ht s hs
theorem xk(hz:Sp.dV k.sp (n:Int)=z)(ea:Sp.iN k.sp (z:Int)=0)(hy:Sp.fM k.sp=y):fP k n bE=Am k z y/\mU k n bE=y/\jC k n bE=0:=by
 have e0:jC k n bE=0:=by unfold jC;rw[aJ rfl,hz];exact ea
 have n0:mU k n bE=y:=by
  unfold mU Sp.nL;rw[aJ rfl,hz,aJ ea,hy]
 refine⟨?_,n0,e0⟩;unfold fP;rw[aJ ⟨rfl,e0⟩,n0,hz];rfl
theorem Ad(k:Kp)(n:Nat):fP k n bF=k/\jC k n bF=0:=⟨by unfold fP;rw[aI (λq=>by cases q.1)],rfl⟩
def jL(k:Kp)(fd:Nat->Int):Nat->Kp
 |0=>k
 |j+1=>if fd j= -1 then jL k fd j else{jL k fd j with fi:=Fx.jX (jL k fd j).fi (fd j)}
theorem kC(k:Kp)(fd:Nat->Int):∀j,∃T,jL k fd j={k with fi:=T}
 |0=>⟨k.fi,rfl⟩
 |j+1=>by
  obtain⟨T,e⟩:=kC k fd j;by_cases c:fd j= -1
  .exact⟨T,by show(if fd j= -1 then _ else _)=_;rw[aJ c];exact e⟩
  .exact⟨Fx.jX T (fd j),by show(if fd j= -1 then _ else _)=_;rw[aI c,e]⟩
theorem Lu{xx:Nat->Nat}{T:Nat->Fx.Fi}{S:Nat->Pp.Pi}(h:WX xx T F S)(z:Int):WX xx (Fx.jX T z) F S/\∀n,(Fx.jX T z n).refs<=(T n).refs+1:=by
 unfold Fx.jX;by_cases c:Fx.dB T z=0
 .rw[aJ c];obtain⟨n,rfl,hn,r⟩:=Fx.kT c;rw[hZ];refine⟨h.jN hn r _ (Nat.succ_ne_zero _) rfl rfl (h.ps n hn),λm=>?_⟩;by_cases e:m=n
  .subst e;rw[Fx.bR];exact aL _
  .rw[Fx.cr _ _ _ _ e];omega
 .rw[aI c];exact⟨h,λ_=>bG⟩
theorem GS{xx:Nat->Nat}{k:Kp}(h:WX xx k.fi k.fo k.pi)(fd:Nat->Int):∀j,WX xx (jL k fd j).fi k.fo k.pi/\∀n,((jL k fd j).fi n).refs<=(k.fi n).refs+j
 |0=>⟨h,λ_=>aL _⟩
 |j+1=>by
  have ih:=GS h fd j;show WX xx (if fd j= -1 then jL k fd j else _:Kp).fi k.fo k.pi/\∀n,((if fd j= -1 then jL k fd j else _:Kp).fi n).refs<=_;by_cases c:fd j= -1
  .rw[aJ c];exact⟨ih.1,λn=>by have:=ih.2 n;omega⟩
  .rw[aI c];have a:=Lu ih.1 (fd j);exact⟨a.1,λn=>by have:=a.2 n;have:=ih.2 n;show(Fx.jX (jL k fd j).fi (fd j) n).refs<=_;omega⟩
def eU(k:Kp)(n:Nat):Pr:={k.p n with par:=(n:Int),box:=Sg.qo (k.p n).box}
def dI(k:Kp)(n:Nat):Kp:=jL {k with bk:=Mv.eJ (k.p n).mem k.bk 16} (k.p n).fd 6
theorem KJ.VD(h:KJ X N k){m':Wf.M}(hX:¬X c)(hn:n<20)(hc:c<20)(l:Kn.lv k n=bE)(hh:(k.p n).has=bE)(c0:(k.p c).st=0)(z6:z<6)(zh:k.sp.here z=bE)(wk:Wf.jw (Wf.eA k.sc (c:Int) (k.p n).cJ) (c:Int) bE m'):KJ X (N+1) (iQ (dI k n) c (eU k n) (z:Int) m'):=by
 obtain⟨T,eT⟩:=kC {k with bk:=Mv.eJ (k.p n).mem k.bk 16} (k.p n).fd 6;have st1:(k.p n).st=1:=by unfold Kn.lv at l;simpa using l
 have nc:n≠c:=λe=>by subst e;omega
 have fh:(k.p c).has=bF:=by
  cases e:(k.p c).has
  .rfl
  .have:=h.hs c hc e;omega
 have o0:k.sp.of c=0:=by
  by_cases e:k.sp.of c=0
  .exact e
  .exact aZ c0 ((h.of c hc).1 e)
 have cop:dI k n={k with bk:=Mv.eJ (k.p n).mem k.bk 16,fi:=T}:=eT;have wx:=GS (k:={k with bk:=Mv.eJ (k.p n).mem k.bk 16}) h.wx (k.p n).fd 6;rw[eT]at wx;rw[cop];have e:∀m,m≠c->(iQ {k with bk:=Mv.eJ (k.p n).mem k.bk 16,fi:=T} c (eU k n) (z:Int) m').p m=k.p m:=λm q=>cr _ _ _ _ q;have e2:(iQ {k with bk:=Mv.eJ (k.p n).mem k.bk 16,fi:=T} c (eU k n) (z:Int) m').p c=eU k n:=bR _ _ _;refine⟨?_,?_,?_,wx.1,λm hm=>?_,h.ok,h.tb,λm hm=>?_,λm hm=>?_,λm hm=>?_,λm hm=>?_,λs hs=>?_,λm hm=>?_⟩
 .obtain⟨d,hd⟩:=h.sp;exact⟨d,hd.enter _ _⟩
 .obtain⟨Wy,g⟩:=h.gr;exact⟨Wy,g.mono (Nat.le_succ N)⟩
 .rw[show(λm=>((iQ {k with bk:=Mv.eJ (k.p n).mem k.bk 16,fi:=T} c (eU k n) (z:Int) m').p m).mem)=Mv.im (λm=>(k.p m).mem) c (k.p n).mem from funext λm=>by
   by_cases q:m=c
   .subst q;rw[e2,Mv.dZ];rfl
   .rw[e m q,Mv.gv _ _ _ _ q]]
  exact h.me.Sr (i:=n) hn hc (λx _=>by show(k.p c).mem.fr x=0;rw[h.nm c hc fh];rfl)
 .have:=wx.2 m;have:=h.rf m hm;show(T m).refs<=_;have t:(T m).refs<=(k.fi m).refs+6:=wx.2 m;omega
 .by_cases q:m=c
  .subst q;rw[e2];show(k.p n).st<=2;omega
  .rw[e m q];exact h.st m hm
 .by_cases q:m=c
  .subst q;rw[e2];intro _;exact st1
  .rw[e m q];exact h.hs m hm
 .intro hx;by_cases q:m=c
  .subst q;rw[e2];intro _;exact hh
  .rw[e m q];exact h.lv m hm hx
 .show(Sp.fO k.sp (z:Int) (c:Int)).of m≠0↔_;rw[Sp.qs z6 zh hc o0];by_cases q:m=c
  .subst q;rw[e2,aJ rfl];exact⟨λ_=>by show(k.p n).st≠0;omega,λ_=>bG⟩
  .rw[e m q,aI q];exact h.of m hm
 .show k.ht s=(Sp.fO k.sp (z:Int) (c:Int)).here s;rw[(Sp.lG z6 zh hc o0).1];exact h.ht s hs
 .by_cases q:m=c
  .subst q;rw[e2];intro f;have f2:(k.p n).has=bF:=f;rw[hh]at f2;cases f2
  .rw[e m q];exact h.nm m hm
end
end Kn
section
variable {s s1:St}{w W W':bD}{rb VK:Nat}
theorem KF.fresh(h:KF s w s1 W)(f:bO rb W W')(hr:w.heap.size<=rb):KF s w s1 W':=⟨⟨f.os.trans h.ie.os,f.tape.trans h.ie.tape,f.output.trans h.ie.output,aH h.ie.size f.size,λb hb hn=>(f.block b (aD hb h.ie.size) bG).trans (h.ie.block b hb hn)⟩,h.sub,h.a0⟩
theorem bT.fresh(h:bT W VK s)(f:bO rb W W')(hn:¬KB s rb):bT W' VK s:=h.same (λi hi=>f.block _ (h.lt hi) (λe=>hn ⟨i,hi,e.symm⟩))
theorem bT.iq(h:bT w VK s)(hr:w.heap.size<=rb):¬KB s rb:=λc=>by have:=h.UR c;omega
end
def CB(w:bD)(b:Nat)(p c:Int):Prop:=w.heap[b]? =bB (bA #[aa bf p,aa bf c] 54 (0,0))
theorem CB.lt{c:Int}(h:CB w b p c):b<w.heap.size:=(aX.1 h).1
theorem CB.c0{c:Int}(h:CB w b p c):w.cell? ⟨b,0,bC⟩=bB (aa bf p):=by rw[cA h];rfl
theorem CB.c1{c:Int}(h:CB w b p c):w.cell? ⟨b,1,bC⟩=bB (aa bf c):=by rw[cA h];rfl
theorem CB.frozen{w:bD}{b:Nat}{p c:Int}(h:CB w b p c)(o:Nat):w.frozen? ⟨b,o,bC⟩=bF:=cL h o
theorem CB.same{c:Int}(h:CB w b p c)(e:w'.heap[b]? =w.heap[b]?):CB w' b p c:=e.trans h
theorem CB.set{c:Int}(h:CB w b p c)(p' c':Int):CB ((w.setCell ⟨b,0,bC⟩ (aa bf p')).setCell ⟨b,1,bC⟩ (aa bf c')) b p' c':=cT (cT h 0 _) 1 _
theorem CB.mK(w:bD)(b:Nat)(p' c':Int):bO b w ((w.setCell ⟨b,0,bC⟩ (aa bf p')).setCell ⟨b,1,bC⟩ (aa bf c')):=((bO.refl _ _).setCell _ _).setCell _ _
def Kn.yu(k:Kp)(z:Int)(p:Nat)(c E:Int)(k':Kp):Prop:=
 (Kn.cH k z≠0/\E=Kn.cH k z/\p=0/\c=0/\k'=k)\/
 (Kn.cH k z=0/\∃n:Nat,z=n/\n<20/\((Kn.je k n=[]/\E=2/\p=0/\c=0/\k'=k)\/
  (Kn.je k n≠[]/\(∀m∈Kn.je k n,Kn.lv k m=bE)/\E=8/\p=0/\c=0/\k'=k)\/
  (E=0/\∃(i m:Nat),(Kn.je k n)[i]? =bB m/\Kn.lv k m=bF/\(∀(j x:Nat),j<i->(Kn.je k n)[j]? =bB x->Kn.lv k x=bE)/\p=Sp.mA k.sp (m:Int) (Sp.dV k.sp (n:Int):Nat)/\c=(k.p m).code/\Kn.iY 6 k m k')))
section
variable (VK N:Nat)(d:Nat->Nat)(s:St)(w:bD)
theorem Kz(hN:N<=900)(z:Int)(h:bT w VK s)(hv:VI (λ_=>False) N d s.k)(h0:(s.k.p 0).par= -1):
  Calls prog 22 #[ai (bB ⟨s.A 0,0,bC⟩),aa bf z] w λe w'=>∃(p:Nat) (c E:Int) (k':Kp),e=bw (ao #[au #[aa bf (p:Int),aa bf c],bS E])/\Kn.yu s.k z p c E k'/\bT w' VK {s with k:=k'}/\KF s w {s with k:=k'} w':=by
 have b0:Below w.heap.size w (w.alloc (bA #[aa bf 0,aa bf 0] 54)):=(aQ _ _).alloc (aL _) _;have AC:=hJ (dX VK s _ z (h.below b0));have R0:Hid (CB (w.alloc (bA #[aa bf 0,aa bf 0] 54)) w.heap.size 0 0/\Below w.heap.size w (w.alloc (bA #[aa bf 0,aa bf 0] 54))):=hJ ⟨heap_alloc_new w _,b0⟩;have H:=hJ (aK h (aK hv (aK h0 hN)));obtain⟨kb,hkb⟩:=hU (s.A 0);have HK:=hJ hkb;rw[hkb]at AC|-;by_cases a:Kn.cH s.k z=0
 .obtain⟨n,rfl,hn,hl⟩:=Kn.fY a;have HA:=hJ a;rw[a,bN]at AC;generalize gW kb (n:Int) 0=ap at*;have st1:(s.k.p n).st≠0:=by
   have:decide ((s.k.p n).st=1)=bE:=hl;have:(s.k.p n).st=1:=by simpa using this
   omega
  obtain⟨y,hy⟩:∃y,s.k.sp.of n=y+1:=⟨s.k.sp.of n-1,by have:=(hv.kj.of n hn).2 st1;omega⟩;have HY:=hJ hy;clear h hv h0 a b0 hl st1 hy;go_in
  go_wp2_with fail
  refine sC AC.v ?_;rintro w1 hw;rw[<-hw]at R0;clear hw AC;have CH:=hJ (tW VK s w1 n (H.1.below R0.2) (H.2.1.Om hn HY.v));rw[HK.v]at CH;go_wp2_with fail
  refine CH.mono ?_;rintro e w4 ⟨v4,u4,rfl,hb4,hL⟩;clear CH;obtain⟨LC,hLC⟩:=hU (Kn.je s.k n);rw[hLC]at hL;have HLC:=hJ hLC;have LP:Hid ((∀x∈LC,x<20)/\∀x∈LC,x≠0):=hJ (by
   rw[<-HLC.v];exact⟨Kn.JK H.2.1 hn HY.v,λx hx e=>by have:=Kn.vU x hx;rw[e,H.2.2.1]at this;omega⟩)
  obtain⟨a1,cp1,hv1⟩:=ij hL.own;obtain⟨NN,hNN⟩:=hU (LC.length);have HNN:=hJ hNN;have NL:NN<=21:=by
   rw[<-hNN,<-HLC.v];exact aH (Kn.zV _ _ _) (Kn.xy _ _)
  have BB:Hid (Below w.heap.size w w4/\CB w4 w.heap.size 0 0/\bT w4 VK s):=hJ (by
   have q:Below w1.heap.size w1 w4:=hb4.trans (hL.cZ.mono hb4.size);exact⟨R0.2.trans (q.mono (by have:=R0.1.lt;omega)),R0.1.same (q.block _ R0.1.lt),(H.1.below R0.2).below q⟩)
  have LL:Hid (∀i,i<LC.length->∃gg cap,v4=aj (bB ⟨gg,0,bC⟩) LC.length cap/\w4.cell? ⟨gg,i,bC⟩=bB (aa bf ((LC.getD i 0:Nat):Int))):=hJ (λi hi=>by
   obtain⟨gg,cap,hv,hg,hc⟩:=hL.cells bG;refine⟨gg,cap,hv,?_⟩;have q:=hc i hi;rw[show 0+i=i by omega]at q;exact q)
  rw[hNN]at hv1;have HV1:=hJ hv1;rw[hv1];obtain⟨rb,hrb⟩:=hU (w.heap.size);have HR:=hJ hrb;rw[hrb]at BB|-;clear hL hv1 hNN hb4 hLC R0 hrb;by_cases n0:NN=0
  .subst n0;have EL:Hid (LC=[]):=hJ (List.length_eq_zero_iff.1 HNN.v);have x0:=BB.2.1.c0;have x1:=BB.2.1.c1;have xf:=BB.2.1.frozen;go_wp2_with fail
   have S2:Hid (CB ((w4.setCell ⟨rb,0,bC⟩ (aa .i64 0)).setCell ⟨rb,1,bC⟩ (aa .i64 0)) rb 0 0/\bT ((w4.setCell ⟨rb,0,bC⟩ (aa .i64 0)).setCell ⟨rb,1,bC⟩ (aa .i64 0)) VK s/\KF s w s ((w4.setCell ⟨rb,0,bC⟩ (aa .i64 0)).setCell ⟨rb,1,bC⟩ (aa .i64 0))):=hJ ⟨BB.2.1.set 0 0,BB.2.2.fresh (CB.mK _ _ _ _) (H.1.iq (by rw[HR.v];exact aL _)),(KF.below (by rw[HR.v];exact BB.1)).fresh (CB.mK _ _ _ _) (by rw[HR.v];exact aL _)⟩;generalize (w4.setCell ⟨rb,0,bC⟩ (aa .i64 0)).setCell ⟨rb,1,bC⟩ (aa .i64 0)=WF at S2|-;have y0:=S2.1.c0;have y1:=S2.1.c1;refine bodyPost_ret (v:=ao #[au #[aa bf 0,aa bf 0],aq 100 (aa .i64 2)]) (by simp[results,Tryz.f22,go_sem,y0,y1]) rfl ?_;exact⟨0,0,2,s.k,by rw[bP bM];rfl, .inr ⟨HA.v,n,rfl,hn, .inl ⟨by rw[HLC.v];exact EL.v,rfl,rfl,rfl,rfl⟩⟩,S2.2⟩
  .have nB:((NN:Int)==0)=bF:=by simp;omega
   have nI:¬(NN:Int)=0:=bG
   have EL:Hid (LC≠[]):=hJ (λe=>n0 (by rw[<-HNN.v,e];rfl));go_wp2_with fail
   go_loopw [10,32] (λ_ i wr=>∃(k:Nat),i=aa bf k/\k<=NN/\wr=w4/\Hid (∀j x,j<k->LC[j]? =bB x->Kn.lv s.k x=bE)) (λ_ i _=>NN-(intOf i).toNat)
   case atStart=>exact⟨0,rfl,bG,rfl,hJ (λj _ hj=>aZ hj (Nat.not_lt_zero j))⟩
   case round=>
    obtain⟨k,rfl,hk,hwr,R⟩:=hrel;subst wr;by_cases hlt:k<NN
    .have hltI:(k:Int)<NN:=bG
     have hkL:k<LC.length:=by rw[HNN.v];exact hlt
     obtain⟨m,hm⟩:∃m,LC[k]? =bB m:=⟨_,aW hkL⟩;have m20:m<20:=LP.1 m (bK hm);have m20I:(m:Int)<20:=bG
     obtain⟨gg,cap,hv,hc⟩:=LL.v k hkL;rw[HV1.v]at hv;cases hv;have cm:w4.cell? ⟨gg,k,bC⟩=bB (aa bf (m:Int)):=by
      rw[hc];simp[aF,hm]
     obtain⟨tl,htl⟩:=hU (Kn.lv s.k m);have LV:=hJ (jq VK s w4 m BB.2.2 m20 tl htl);rw[HK.v]at LV;have HM:=hJ (aK hm (aK htl (LP.2 m (bK hm))));clear hc hm hkL htl;cases tl
     .have cc:=BB.2.2.Pc m m20;rw[HK.v]at cc;obtain⟨cd,hcd⟩:=hU ((s.k.p m).code);have HCD:=hJ hcd;rw[hcd]at cc;clear hcd;have SP:Hid (∀W,Below w4.heap.size w4 W->Calls prog 62 #[ai (bB ⟨kb,0,bC⟩),aa bf n] W λe w'=>e=bw (aa bf (Sp.dV s.k.sp (n:Int):Int))/\w'=W):=hJ (λW b=>by rw[<-HK.v];exact iK VK s W (n:Int) (BB.2.2.below b));have PI:Hid (∀W,Below w4.heap.size w4 W->Calls prog 70 #[ai (bB ⟨kb,0,bC⟩),aa bf m,aa bf (Sp.dV s.k.sp (n:Int):Int)] W λe w'=>e=bw (aa bf (Sp.mA s.k.sp (m:Int) (Sp.dV s.k.sp (n:Int):Nat):Int))/\w'=W):=hJ (λW b=>by rw[<-HK.v];exact Dq VK s W (m:Int) _ (BB.2.2.below b) H.2.1.iv.qQ);obtain⟨pp,hpp⟩:=hU (Sp.mA s.k.sp (m:Int) (Sp.dV s.k.sp (n:Int):Nat));have HPP:=hJ hpp;rw[hpp]at PI;obtain⟨ss,hss⟩:=hU (Sp.dV s.k.sp (n:Int));rw[hss]at SP PI;clear hpp hss;go_upto_region 11 with(refine sC LV.v ?_;rintro w5 hw;subst w5)
      have nk:=World.new_ne w4 ⟨kb,m*12+3,bC⟩ cc;go_region_held3 (λw'=>w'.cell? ⟨kb,m*12+3,bC⟩=bB (aa bf cd)) (go_keep) (first|(go_at_call 62;refine sC (SP.v _ (by first|exact(aQ _ _).drew|exact(aQ _ _).drew.alloc (aL _) _)) ?_;rintro w5 hw;subst w5)|(go_at_call 70;refine sC (PI.v _ (by first|exact(aQ _ _).drew|exact(aQ _ _).drew.alloc (aL _) _)) ?_;rintro w5 hw;subst w5))
      all_goals
       have S5:Hid (CB (w4.alloc (bA #[aa bf pp,aa bf cd] 54)).drew w4.heap.size pp cd/\CB (w4.alloc (bA #[aa bf pp,aa bf cd] 54)).drew rb 0 0/\bT (w4.alloc (bA #[aa bf pp,aa bf cd] 54)).drew VK s/\KF s w s (w4.alloc (bA #[aa bf pp,aa bf cd] 54)).drew/\rb<w4.heap.size):=hJ (by
        have b5:Below w4.heap.size w4 (w4.alloc (bA #[aa bf pp,aa bf cd] 54)).drew:=((aQ _ _).alloc (aL _) _).drew;exact⟨heap_alloc_new w4 _,BB.2.1.same (b5.block _ BB.2.1.lt),BB.2.2.below b5,(KF.below (by rw[HR.v];exact BB.1)).trans (KF.below b5),BB.2.1.lt⟩)
       generalize (w4.alloc (bA #[aa bf pp,aa bf cd] 54)).drew=W5 at*;generalize w4.heap.size=cb at*;have VN:Hid (Calls prog 73 #[ai (bB ⟨kb,0,bC⟩),aa bf m] W5 λe w'=>∃k',e=bw (ao #[])/\Kn.iY 6 s.k m k'/\bT w' VK {s with k:=k'}/\KF s w {s with k:=k'} w'/\CB w' cb pp cd/\CB w' rb 0 0/\KF s W5 {s with k:=k'} w'):=hJ (by
        obtain⟨x,hx⟩:∃x,s.k.sp.of m=x+1:=by
         have q:m∈Kn.je s.k n:=by rw[HLC.v];exact bK HM.1
         unfold Kn.je Kn.jo at q;have y6:=(H.2.1.iv.dj hn HY.v).2;rw[Sp.gM hn HY.v]at q;have q2:=(bX.1 q).1;unfold eR at q2;rw[Sp.iW y6.1 y6.2,aJ rfl,hZ]at q2;obtain⟨i,hi⟩:=List.getElem?_of_mem q2;have q3:=(H.2.1.iv.mem_of y6.1 m20 (Sp.vZ hi (λp hp=>H.2.1.iv.qR y p y6.1 hp)).2).1;exact⟨s.k.sp.of m-1,bG⟩
        have q:=Fl VK N d hN (λ_=>False) s W5 m x S5.2.2.1 H.2.1 m20 HM.2.2 (λx=>x) hx (λ_ _ _ x=>x.elim);rw[HK.v]at q;refine q.mono ?_;rintro e w6 ⟨k',rfl,vn,ka,kf⟩;have nk1:¬KB s cb:=H.1.iq (by have:=S5.2.2.2.2;rw[HR.v];omega);have nk2:¬KB s rb:=H.1.iq (by rw[HR.v];exact aL _);exact⟨k',rfl,vn,ka,S5.2.2.2.1.trans kf,S5.1.same (kf.jl S5.1.lt nk1),S5.2.1.same (kf.jl S5.2.1.lt nk2),kf⟩)
       clear cc cm nk;go_wp2_with fail
       refine VN.mono ?_;rintro e w6 ⟨k',rfl,vn,ka,kf,cb1,rb1,kf1⟩;have S6:Hid (Kn.yu s.k (n:Int) pp cd 0 k'/\bT w6 VK {s with k:=k'}/\KF s w {s with k:=k'} w6/\CB w6 rb 0 0/\¬KB {s with k:=k'} rb):=hJ ⟨.inr ⟨HA.v,n,rfl,hn, .inr (.inr ⟨rfl,k,m,by rw[HLC.v];exact HM.1,HM.2.1,by rw[HLC.v];exact R.v,HPP.symm,HCD.symm,vn⟩)⟩,ka,kf,rb1,kf1.apart S5.2.1.lt (H.1.iq (by rw[HR.v];exact aL _))⟩;have x0:=rb1.c0;have x1:=rb1.c1;have xf:=rb1.frozen;have u0:=cb1.c0;have u1:=cb1.c1;clear vn ka kf cb1 rb1 kf1 S5 VN;go_wp2_with fail
       have S2:Hid (CB ((w6.setCell ⟨rb,0,bC⟩ (aa bf pp)).setCell ⟨rb,1,bC⟩ (aa bf cd)) rb pp cd/\bT ((w6.setCell ⟨rb,0,bC⟩ (aa bf pp)).setCell ⟨rb,1,bC⟩ (aa bf cd)) VK {s with k:=k'}/\KF s w {s with k:=k'} ((w6.setCell ⟨rb,0,bC⟩ (aa bf pp)).setCell ⟨rb,1,bC⟩ (aa bf cd))):=hJ ⟨S6.2.2.2.1.set pp cd,S6.2.1.fresh (CB.mK _ _ _ _) S6.2.2.2.2,S6.2.2.1.fresh (CB.mK _ _ _ _) (by rw[HR.v];exact aL _)⟩;generalize (w6.setCell ⟨rb,0,bC⟩ (aa bf pp)).setCell ⟨rb,1,bC⟩ (aa bf cd)=WF at S2|-;have y0:=S2.1.c0;have y1:=S2.1.c1
       (try simp only[Exit.then])
       refine bodyPost_ret (v:=ao #[au #[aa bf pp,aa bf cd], .nilIface]) (by simp[results,Tryz.f22,go_sem,y0,y1]) rfl ?_;exact⟨pp,cd,0,k',by rw[bN],S6.1,S2.2⟩
     .have R1:Hid (∀j x,j<k+1->LC[j]? =bB x->Kn.lv s.k x=bE):=hJ (λj x hj hx=>by
       by_cases e:j=k
       .subst e;rw[HM.1]at hx;cases hx;exact HM.2.1
       .exact R.v j x bG hx)
      go_wp2_with fail
      refine sC LV.v ?_;rintro w5 hw;subst w5;go_wp2
      go_roundw
      case rel=>exact⟨k+1,by go_num,bG,by first|rfl|trivial,R1⟩
      case measure=>simp[intOf];omega
    .obtain rfl:k=NN:=bG
     have AL:Hid (∀x∈LC,Kn.lv s.k x=bE):=hJ (λx hx=>by
      obtain⟨j,hj⟩:=List.getElem?_of_mem hx;exact R.v j x (by rw[<-HNN.v];exact(aY.1 hj).1) hj)
     have x0:=BB.2.1.c0;have x1:=BB.2.1.c1;have xf:=BB.2.1.frozen;go_wp2_with fail
     have S2:Hid (CB ((w4.setCell ⟨rb,0,bC⟩ (aa .i64 0)).setCell ⟨rb,1,bC⟩ (aa .i64 0)) rb 0 0/\bT ((w4.setCell ⟨rb,0,bC⟩ (aa .i64 0)).setCell ⟨rb,1,bC⟩ (aa .i64 0)) VK s/\KF s w s ((w4.setCell ⟨rb,0,bC⟩ (aa .i64 0)).setCell ⟨rb,1,bC⟩ (aa .i64 0))):=hJ ⟨BB.2.1.set 0 0,BB.2.2.fresh (CB.mK _ _ _ _) (H.1.iq (by rw[HR.v];exact aL _)),(KF.below (by rw[HR.v];exact BB.1)).fresh (CB.mK _ _ _ _) (by rw[HR.v];exact aL _)⟩;generalize (w4.setCell ⟨rb,0,bC⟩ (aa .i64 0)).setCell ⟨rb,1,bC⟩ (aa .i64 0)=WF at S2|-;have y0:=S2.1.c0;have y1:=S2.1.c1;refine bodyPost_ret (v:=ao #[au #[aa bf 0,aa bf 0],aq 100 (aa .i64 8)]) (by simp[results,Tryz.f22,go_sem,y0,y1]) rfl ?_;exact⟨0,0,8,s.k,by rw[bP bM];rfl, .inr ⟨HA.v,n,rfl,hn, .inr (.inl ⟨by rw[HLC.v];exact EL.v,by rw[HLC.v];exact AL.v,rfl,rfl,rfl,rfl⟩)⟩,S2.2⟩
 .have FIN:Hid (Kn.yu s.k z 0 0 (Kn.cH s.k z) s.k):=hJ (.inl ⟨a,rfl,rfl,rfl,rfl⟩);have HE:=hJ (bP a);rw[bP a]at AC;clear h hv h0 a b0;generalize gW kb z (Kn.cH s.k z)=ap at*;go_in
  go_wp2_with fail
  refine sC AC.v ?_;rintro w4 hw;rw[<-hw]at R0;clear hw AC;obtain⟨rb,hrb⟩:=hU (w.heap.size);have HR:=hJ hrb;rw[hrb]at R0|-;have x0:=R0.1.c0;have x1:=R0.1.c1;have xf:=R0.1.frozen;clear hrb;go_wp2_with fail
  have S2:Hid (CB ((w4.setCell ⟨rb,0,bC⟩ (aa .i64 0)).setCell ⟨rb,1,bC⟩ (aa .i64 0)) rb 0 0/\bT ((w4.setCell ⟨rb,0,bC⟩ (aa .i64 0)).setCell ⟨rb,1,bC⟩ (aa .i64 0)) VK s/\KF s w s ((w4.setCell ⟨rb,0,bC⟩ (aa .i64 0)).setCell ⟨rb,1,bC⟩ (aa .i64 0))):=hJ ⟨R0.1.set 0 0,(H.1.below (by rw[HR.v];exact R0.2)).fresh (CB.mK _ _ _ _) (H.1.iq (by rw[HR.v];exact aL _)),(KF.below (by rw[HR.v];exact R0.2)).fresh (CB.mK _ _ _ _) (by rw[HR.v];exact aL _)⟩;generalize (w4.setCell ⟨rb,0,bC⟩ (aa .i64 0)).setCell ⟨rb,1,bC⟩ (aa .i64 0)=WF at S2|-;have y0:=S2.1.c0;have y1:=S2.1.c1;refine bodyPost_ret (v:=ao #[au #[aa bf 0,aa bf 0],aq 100 (aa bf (Kn.cH s.k z))]) (by simp[results,Tryz.f22,go_sem,y0,y1]) rfl ?_;exact⟨0,0,Kn.cH s.k z,s.k,by rw[HE.v];rfl,FIN.v,S2.2⟩
end
def PB(w:bD)(c a b:Nat)(x:Pr):Prop:=w.heap[c]? =bB (bA (dW a b x) 74 (0,0))
section
variable {w w':bD}{c a b:Nat}{x:Pr}
theorem PB.lt(h:PB w c a b x):c<w.heap.size:=(aX.1 h).1
theorem PB.same(h:PB w c a b x)(e:w'.heap[c]? =w.heap[c]?):PB w' c a b x:=e.trans h
theorem PB.cell(h:PB w c a b x)(j:Nat)(hj:j<12):w.cell? ⟨c,j,bC⟩=bB (Kn.fB a b x j):=by rw[cA h,lO a b x j hj]
theorem PB.frozen(h:PB w c a b x)(o:Nat):w.frozen? ⟨c,o,bC⟩=bF:=cL h o
theorem PB.range(h:PB w c a b x):w.rangeAt c 0 (dW a b x).toList:=λj hj=>by
 rw[Nat.zero_add,cA h];simp
theorem PB.there(h:PB w c a b x):w.there c 0 12:=λj hj=>⟨by rw[Nat.zero_add,h.cell j hj];rfl,h.frozen _⟩
theorem we{A:Array Value}{a b:Nat}{x:Pr}(hs:A.size=12)(h:∀j,j<12->A[j]? =bB (Kn.fB a b x j)):A=dW a b x:=by grind [dW,lO,dM]
theorem PB.set(h:PB w c a b x){a' b':Nat}{y:Pr}(hi:i<12)(hv:∀j,j<12->Kn.fB a' b' y j=if j=i then v else Kn.fB a b x j):PB (w.setCell ⟨c,i,bC⟩ v) c a' b' y:=by
 unfold PB;rw[cT h i v,we (A:=(dW a b x).setIfInBounds i v) (a:=a') (b:=b') (x:=y) (by simp[dM]) (λj hj=>?_)];grind [PB,cT,we,dW,dM,lO]
theorem PB.Ed(h:PB w c a b x)(n:Int):PB (w.setCell ⟨c,1,bC⟩ (aa bf n)) c a b {x with par:=n}:=h.set bG (λj hj=>by
 match j,hj with
 |0,_=>rfl
 |1,_=>rfl
 |j+2,_=>rw[nJ];rfl)
theorem PB.TI(h:PB w c a b x)(hh:x.has=bE)(m:Nat):PB (w.setCell ⟨c,4,bC⟩ (ai (bB ⟨m,0,bC⟩))) c m b x:=h.set bG (λj hj=>by
 match j,hj with
 |0,_=>rfl
 |1,_=>rfl
 |2,_=>rfl
 |3,_=>rfl
 |4,_=>show Kn.ptr m x.has=_;rw[hh];rfl
 |j+5,_=>rw[nJ];rfl)
theorem PB.TC(h:PB w c a b x)(hh:x.has=bE)(m:Nat):PB (w.setCell ⟨c,5,bC⟩ (ai (bB ⟨m,0,bC⟩))) c a m x:=h.set bG (λj hj=>by
 match j,hj with
 |0,_=>rfl
 |1,_=>rfl
 |2,_=>rfl
 |3,_=>rfl
 |4,_=>rfl
 |5,_=>show Kn.ptr m x.has=_;rw[hh];rfl
 |j+6,_=>rw[nJ];rfl)
theorem PB.box(h:PB w c a b x)(X:Nat->Sg.S1):PB w c a b {x with box:=X}:=h
theorem PB.fds(h:PB w c a b x)(j:Nat)(hj:j<(mh x.fd).size):w.cell? ⟨c,6+j,bC⟩=(mh x.fd)[j]? :=by
 rw[qt]at hj;rw[Db _ j hj,h.cell (6+j) bG];unfold Kn.fB;grind
end
theorem PB.put(h:PB w c a b x)(a' b':Nat)(y:Pr):PB (w.setCells c 0 (dW a' b' y).toList) c a' b' y:=by
 obtain⟨C',e',sz'⟩:=ed c (dW a' b' y).toList 0 w _ h;unfold PB;rw[e'];have hl:(dW a' b' y).toList.length=12:=by rw[aB,dM]
 have:C'=dW a' b' y:=by
  refine we (by rw[sz',dM]) (λj hj=>?_);have q:=aS c (dW a' b' y).toList 0 w (λi hi=>by rw[hl]at hi;rw[Nat.zero_add,h.cell i hi];rfl) j bG;rw[Nat.zero_add,cA e']at q;rw[q,<-aW bG,aM,lO _ _ _ j hj]
 rw[this]
namespace Kn
theorem TM(T:Nat->Fx.Fi)(z:Int)(n:Nat):(Fx.jX T z n).refs<=(T n).refs+1:=by
 unfold Fx.jX;by_cases c:Fx.dB T z=0
 .rw[aJ c];by_cases e:n=z.toNat
  .subst e;rw[Fx.bR];exact aL _
  .rw[Fx.cr _ _ _ _ e];omega
 .rw[aI c];omega
theorem GQ(k:Kp)(fd:Nat->Int)(n:Nat):∀j,((jL k fd j).fi n).refs<=(k.fi n).refs+j
 |0=>aL _
 |j+1=>by
  have ih:=GQ k fd n j;show((if fd j= -1 then jL k fd j else _:Kp).fi n).refs<=_;split
  .omega
  grind [jL,TM,Fx.jX]
end Kn
theorem bT.I9(h:bT w VK s){T:Nat->Fx.Fi}(u:eI w' (s.A 8) (s.A 6) (s.A 7) T)(f:bO (s.A 8) w w'):bT w' VK {s with k:={s.k with fi:=T}}/\KF s w {s with k:={s.k with fi:=T}} w':=by
 have o:=h.others cE f;refine⟨⟨by rw[o 0 cE bG];exact h.mL,λx hx=>(aV (o 0 cE bG)).trans (h.eF x hx),h.sp.same (o 1 cE bG),(o 2 cE bG).trans h.gr,h.sc.same (o 3 cE bG),h.bk.same (o 4 cE bG) (o 5 cE bG),u,h.fo.same (o 6 cE bG),h.pi.same (o 7 cE bG),
  λn hn hh=>(h.me n hn hh).same (o _ (Kn.jb hn hh) bG),λn hn hh=>(h.bx n hn hh).same (o _ (Kn.jY hn hh) bG),
  λn hn hh=>(h.tb n hn hh).same (o _ (Kn.kv hn hh) bG) (λg eg=>by have:=o _ (Kn.jZ hn hh eg) bG;rwa [h.ro n hn hh g eg]at this),h.ro,h.inj,h.low⟩,KF.one _ cE f rfl (λ_ hi=>hi)⟩
theorem bT.Tw(h:bT w VK s)(hn:n<20):w.rangeAt (s.A 0) (n*12) (dW (s.A (9+n)) (s.A (29+n)) (s.k.p n)).toList:=λj v hv=>by
 rw[aM]at hv;have hj:j<12:=by grind [dM,lO]
 rw[lO _ _ _ j hj]at hv;rw[h.cP n j hn hj];exact hv
structure CO (VK:Nat)(s:St)(w:bD)(n rb c mb bb:Nat)(k:Kp)(W:bD):Prop where
 kk:bT W VK {s with k:=k}
 kf:KF s w {s with k:=k} W
 pb:PB W c mb bb (Kn.eU s.k n)
 rs:PB W rb 0 0 Pr.no
 um:du W mb (s.A 4) (s.k.p n).mem
 ub:CX W bb (Sg.qo (s.k.p n).box)
 ge:w.heap.size<=rb/\w.heap.size<=c/\w.heap.size<=mb/\w.heap.size<=bb
 ne:mb≠bb/\rb≠c/\rb≠mb/\rb≠bb/\c≠mb/\c≠bb
theorem CO.step{k':Kp}{W:bD}(h:CO VK s w n rb c mb bb k W)(f:bO (s.A 8) W W')(kk:bT W' VK {s with k:=k'})(kf:KF {s with k:=k} W {s with k:=k'} W')(l8:s.A 8<w.heap.size):CO VK s w n rb c mb bb k' W':=
 ⟨kk,h.kf.trans kf,h.pb.same (f.block _ h.pb.lt (by have:=h.ge;omega)),h.rs.same (f.block _ h.rs.lt (by have:=h.ge;omega)),h.um.same (f.block _ h.um.lt (by have:=h.ge;omega)),h.ub.same (f.block _ h.ub.lt (by have:=h.ge;omega)),h.ge,h.ne⟩
section
variable (VK:Nat)(s:St)(w:bD)
theorem Im(n:Nat)(h:bT w VK s)(hn:n<20)(hh:(s.k.p n).has=bE)(hW:Mv.fR s.k.bk 20 (λm=>(s.k.p m).mem))(hr:∀f,f<24->(s.k.fi f).refs<2^50):
  Calls prog 69 #[ai (bB ⟨s.A 0,0,bC⟩),aa bf n] w λe w'=>∃mb bb,e=bw (au (dW mb bb (Kn.eU s.k n)))/\bT w' VK {s with k:=Kn.dI s.k n}/\KF s w {s with k:=Kn.dI s.k n} w'/\du w' mb (s.A 4) (s.k.p n).mem/\CX w' bb (Sg.qo (s.k.p n).box)/\w.heap.size<=mb/\w.heap.size<=bb/\mb≠bb:=by
 have hnI:(n:Int)<20:=bG
 obtain⟨kb,hkb⟩:=hU (s.A 0);have HK:=hJ hkb;obtain⟨A,hA⟩:=hU (dW (s.A (9+n)) (s.A (29+n)) (s.k.p n));have HA:=hJ hA;have b0:Below w.heap.size w (w.alloc (bA #[aa bf 0,aa bf 0,aa bf 0,aa bf 0,ai bC,ai bC,aa bf 0,aa bf 0,aa bf 0,aa bf 0,aa bf 0,aa bf 0] 74)):=(aQ _ _).alloc (aL _) _;have N1:((w.alloc (bA #[aa bf 0,aa bf 0,aa bf 0,aa bf 0,ai bC,ai bC,aa bf 0,aa bf 0,aa bf 0,aa bf 0,aa bf 0,aa bf 0] 74)).alloc (bA #[aa bf 0,aa bf 0,aa bf 0,aa bf 0,ai bC,ai bC,aa bf 0,aa bf 0,aa bf 0,aa bf 0,aa bf 0,aa bf 0] 74)).heap[w.heap.size+1]? =bB (bA #[aa bf 0,aa bf 0,aa bf 0,aa bf 0,ai bC,ai bC,aa bf 0,aa bf 0,aa bf 0,aa bf 0,aa bf 0,aa bf 0] 74 (0,0)):=by
  have:=heap_alloc_new (w.alloc (bA #[aa bf 0,aa bf 0,aa bf 0,aa bf 0,ai bC,ai bC,aa bf 0,aa bf 0,aa bf 0,aa bf 0,aa bf 0,aa bf 0] 74)) (bA #[aa bf 0,aa bf 0,aa bf 0,aa bf 0,ai bC,ai bC,aa bf 0,aa bf 0,aa bf 0,aa bf 0,aa bf 0,aa bf 0] 74);rw[show(w.alloc (bA #[aa bf 0,aa bf 0,aa bf 0,aa bf 0,ai bC,ai bC,aa bf 0,aa bf 0,aa bf 0,aa bf 0,aa bf 0,aa bf 0] 74)).heap.size=w.heap.size+1 by simp]at this;exact this
 have b1:Below w.heap.size w ((w.alloc (bA #[aa bf 0,aa bf 0,aa bf 0,aa bf 0,ai bC,ai bC,aa bf 0,aa bf 0,aa bf 0,aa bf 0,aa bf 0,aa bf 0] 74)).alloc (bA #[aa bf 0,aa bf 0,aa bf 0,aa bf 0,ai bC,ai bC,aa bf 0,aa bf 0,aa bf 0,aa bf 0,aa bf 0,aa bf 0] 74)):=b0.alloc b0.size _;have R0:Hid ((w.alloc (bA #[aa bf 0,aa bf 0,aa bf 0,aa bf 0,ai bC,ai bC,aa bf 0,aa bf 0,aa bf 0,aa bf 0,aa bf 0,aa bf 0] 74)).rangeAt kb (n*12) A.toList):=hJ (by rw[<-hkb,<-hA];exact(h.below b0).Tw hn);have SL:Hid ((prog.info? 74).map (·.size)=bB A.toList.length):=hJ (by rw[<-hA,aB,dM];kernel_rfl);have SZ:Hid ((prog.info? 74).map (·.size)=bB A.size):=hJ (by rw[<-hA,dM];kernel_rfl);have TH:Hid (((w.alloc (bA #[aa bf 0,aa bf 0,aa bf 0,aa bf 0,ai bC,ai bC,aa bf 0,aa bf 0,aa bf 0,aa bf 0,aa bf 0,aa bf 0] 74)).alloc (bA #[aa bf 0,aa bf 0,aa bf 0,aa bf 0,ai bC,ai bC,aa bf 0,aa bf 0,aa bf 0,aa bf 0,aa bf 0,aa bf 0] 74)).there (w.heap.size+1) 0 A.size):=hJ (by rw[<-hA,dM];exact PB.there (a:=0) (b:=0) (x:=Pr.no) (by unfold PB;rw[yS];exact N1));have H1:Hid (A.all (·.oneCell')=bE):=hJ (by rw[<-hA];exact qa _ _ _);have F0:Hid (PB (((w.alloc (bA #[aa bf 0,aa bf 0,aa bf 0,aa bf 0,ai bC,ai bC,aa bf 0,aa bf 0,aa bf 0,aa bf 0,aa bf 0,aa bf 0] 74)).alloc (bA #[aa bf 0,aa bf 0,aa bf 0,aa bf 0,ai bC,ai bC,aa bf 0,aa bf 0,aa bf 0,aa bf 0,aa bf 0,aa bf 0] 74)).setCells (w.heap.size+1) 0 A.toList) (w.heap.size+1) (s.A (9+n)) (s.A (29+n)) (s.k.p n)/\PB (((w.alloc (bA #[aa bf 0,aa bf 0,aa bf 0,aa bf 0,ai bC,ai bC,aa bf 0,aa bf 0,aa bf 0,aa bf 0,aa bf 0,aa bf 0] 74)).alloc (bA #[aa bf 0,aa bf 0,aa bf 0,aa bf 0,ai bC,ai bC,aa bf 0,aa bf 0,aa bf 0,aa bf 0,aa bf 0,aa bf 0] 74)).setCells (w.heap.size+1) 0 A.toList) w.heap.size 0 0 Pr.no/\Below w.heap.size w (((w.alloc (bA #[aa bf 0,aa bf 0,aa bf 0,aa bf 0,ai bC,ai bC,aa bf 0,aa bf 0,aa bf 0,aa bf 0,aa bf 0,aa bf 0] 74)).alloc (bA #[aa bf 0,aa bf 0,aa bf 0,aa bf 0,ai bC,ai bC,aa bf 0,aa bf 0,aa bf 0,aa bf 0,aa bf 0,aa bf 0] 74)).setCells (w.heap.size+1) 0 A.toList)):=hJ (by
  have fr:bO (w.heap.size+1) ((w.alloc (bA #[aa bf 0,aa bf 0,aa bf 0,aa bf 0,ai bC,ai bC,aa bf 0,aa bf 0,aa bf 0,aa bf 0,aa bf 0,aa bf 0] 74)).alloc (bA #[aa bf 0,aa bf 0,aa bf 0,aa bf 0,ai bC,ai bC,aa bf 0,aa bf 0,aa bf 0,aa bf 0,aa bf 0,aa bf 0] 74)) (((w.alloc (bA #[aa bf 0,aa bf 0,aa bf 0,aa bf 0,ai bC,ai bC,aa bf 0,aa bf 0,aa bf 0,aa bf 0,aa bf 0,aa bf 0] 74)).alloc (bA #[aa bf 0,aa bf 0,aa bf 0,aa bf 0,ai bC,ai bC,aa bf 0,aa bf 0,aa bf 0,aa bf 0,aa bf 0,aa bf 0] 74)).setCells (w.heap.size+1) 0 A.toList):=bO.setCells _ _ (bO.refl _ _);refine⟨?_,?_,fr.below b1 bG b1.size⟩
  .obtain⟨C',e',sz'⟩:=ed (w.heap.size+1) A.toList 0 _ _ N1;unfold PB;rw[e',hA];have sz:C'.size=12:=by rw[sz'];rfl
   have:C'=A:=by
    rw[<-hA];refine we sz (λj hj=>?_);have q:=aS (w.heap.size+1) A.toList 0 ((w.alloc (bA #[aa bf 0,aa bf 0,aa bf 0,aa bf 0,ai bC,ai bC,aa bf 0,aa bf 0,aa bf 0,aa bf 0,aa bf 0,aa bf 0] 74)).alloc (bA #[aa bf 0,aa bf 0,aa bf 0,aa bf 0,ai bC,ai bC,aa bf 0,aa bf 0,aa bf 0,aa bf 0,aa bf 0,aa bf 0] 74)) (λi hi=>by rw[cA N1];rw[aB,<-hA,dM]at hi;simp;omega) j (by rw[aB,<-hA,dM];exact hj);rw[Nat.zero_add,cA e']at q;rw[q,<-aW (by rw[aB,<-hA,dM];exact hj),aM,<-hA,lO _ _ _ j hj]
   rw[this]
  .unfold PB;rw[yS,fr.block w.heap.size (by simp;omega) bG];have:=heap_alloc_new w (bA #[aa bf 0,aa bf 0,aa bf 0,aa bf 0,ai bC,ai bC,aa bf 0,aa bf 0,aa bf 0,aa bf 0,aa bf 0,aa bf 0] 74);rw[show((w.alloc (bA #[aa bf 0,aa bf 0,aa bf 0,aa bf 0,ai bC,ai bC,aa bf 0,aa bf 0,aa bf 0,aa bf 0,aa bf 0,aa bf 0] 74)).alloc (bA #[aa bf 0,aa bf 0,aa bf 0,aa bf 0,ai bC,ai bC,aa bf 0,aa bf 0,aa bf 0,aa bf 0,aa bf 0,aa bf 0] 74)).heap[w.heap.size]? =(w.alloc (bA #[aa bf 0,aa bf 0,aa bf 0,aa bf 0,ai bC,ai bC,aa bf 0,aa bf 0,aa bf 0,aa bf 0,aa bf 0,aa bf 0] 74)).heap[w.heap.size]? from((aQ _ _).alloc (aL _) (bA #[aa bf 0,aa bf 0,aa bf 0,aa bf 0,ai bC,ai bC,aa bf 0,aa bf 0,aa bf 0,aa bf 0,aa bf 0,aa bf 0] 74):Below (w.alloc (bA #[aa bf 0,aa bf 0,aa bf 0,aa bf 0,ai bC,ai bC,aa bf 0,aa bf 0,aa bf 0,aa bf 0,aa bf 0,aa bf 0] 74)).heap.size (w.alloc (bA #[aa bf 0,aa bf 0,aa bf 0,aa bf 0,ai bC,ai bC,aa bf 0,aa bf 0,aa bf 0,aa bf 0,aa bf 0,aa bf 0] 74)) ((w.alloc (bA #[aa bf 0,aa bf 0,aa bf 0,aa bf 0,ai bC,ai bC,aa bf 0,aa bf 0,aa bf 0,aa bf 0,aa bf 0,aa bf 0] 74)).alloc (bA #[aa bf 0,aa bf 0,aa bf 0,aa bf 0,ai bC,ai bC,aa bf 0,aa bf 0,aa bf 0,aa bf 0,aa bf 0,aa bf 0] 74))).block w.heap.size (by simp)]
   exact this)
 have H:=hJ (aK h (aK hh (aK hW hr)));rw[hkb];clear h hh hW hr hA hkb b0 N1 b1;go_in
 go_upto_region 2 with(first|(refine wpList_load_mid rfl 74 _ rfl kb (n*12) rfl A.toList _ R0.v Tryz.underlying74 rfl SL.v ?_;rw[Array.toArray_toList])|(refine wpList_store_mid rfl 74 _ _ rfl (w.heap.size+1) 0 A rfl rfl TH.v SZ.v H1.v ?_))
 obtain⟨rb,hrb⟩:=hU (w.heap.size);have HR:=hJ hrb;refine cR (λW=>PB W (w.heap.size+1) (s.A (9+n)) (s.A (29+n)) (s.k.p n)/\PB W w.heap.size 0 0 Pr.no/\Below w.heap.size w W) F0.v ?_;intro W1 hW1;have S1:=hJ hW1;clear hW1 F0 R0 SL SZ TH H1;rw[hrb]at S1|-;clear hrb;have y1:=S1.1.cell 1 bG;have yf:=S1.1.frozen;have y1':W1.cell? ⟨rb+1,1,bC⟩=bB (aa bf (s.k.p n).par):=y1;generalize (s.k.p n).par=pv at y1';clear y1;go_upto_region 3 with fail
 have F1:Hid (PB (W1.setCell ⟨rb+1,1,bC⟩ (aa bf n)) (rb+1) (s.A (9+n)) (s.A (29+n)) {s.k.p n with par:=(n:Int)}/\PB (W1.setCell ⟨rb+1,1,bC⟩ (aa bf n)) rb 0 0 Pr.no/\Below rb w (W1.setCell ⟨rb+1,1,bC⟩ (aa bf n))):=hJ (by
  have fr:bO (rb+1) W1 (W1.setCell ⟨rb+1,1,bC⟩ (aa bf n)):=(bO.refl _ _).setCell _ _;refine⟨S1.1.Ed _,S1.2.1.same (fr.block rb S1.2.1.lt bG),fr.below S1.2.2 bG (bI S1.2.1.lt)⟩)
 refine cR (λW=>PB W (rb+1) (s.A (9+n)) (s.A (29+n)) {s.k.p n with par:=(n:Int)}/\PB W rb 0 0 Pr.no/\Below rb w W) F1.v ?_;intro W2 hW2;have S2:=hJ hW2;clear hW2 F1 S1 y1' yf;have K2:Hid (bT W2 VK s):=hJ (H.1.below (by rw[HR.v];exact S2.2.2));obtain⟨m9,hm9⟩:=hU (s.A (9+n));obtain⟨b29,hb29⟩:=hU (s.A (29+n));have HM:=hJ (aK hm9 hb29);have LT:Hid (∀i,us s i->s.A i<rb):=hJ (λi hi=>by rw[<-HR.v];exact H.1.lt hi);have y4:W2.cell? ⟨rb+1,4,bC⟩=bB (ai (bB ⟨m9,0,bC⟩)):=by
  rw[S2.1.cell 4 bG,<-hm9];show bB (Kn.ptr _ (s.k.p n).has)=_;rw[H.2.1];rfl
 have y5:W2.cell? ⟨rb+1,5,bC⟩=bB (ai (bB ⟨b29,0,bC⟩)):=by
  rw[S2.1.cell 5 bG,<-hb29];show bB (Kn.ptr _ (s.k.p n).has)=_;rw[H.2.1];rfl
 have FK:=hJ (Ma (s.A (9+n)) (s.A 4) (s.A 5) (s.k.p n).mem s.k.bk W2.drew ⟨K2.drew.me n hn H.2.1,K2.drew.bk,K2.ne (Kn.jb hn H.2.1) cE bG,K2.ne (Kn.jb hn H.2.1) cE bG⟩ (λi hi=>H.2.2.1.le n hn i hi) (λf hf=>by have:=H.2.2.1.refl f hf;omega));have A4:Hid (∀w4,du w4 W2.drew.heap.size (s.A 4) (s.k.p n).mem->UB w4 (s.A (9+n)) (s.A 4) (s.A 5) (s.k.p n).mem (Mv.eJ (s.k.p n).mem s.k.bk 16)->bO (s.A 4) W2.drew w4->bT w4 VK {s with k:={s.k with bk:=Mv.eJ (s.k.p n).mem s.k.bk 16}}/\KF s w {s with k:={s.k with bk:=Mv.eJ (s.k.p n).mem s.k.bk 16}} w4/\PB w4 (rb+1) m9 b29 {s.k.p n with par:=(n:Int)}/\PB w4 rb 0 0 Pr.no/\rb+1<W2.heap.size/\W2.heap.size<w4.heap.size):=hJ (λw4 u1 u2 f=>by
  have q:=K2.drew.Uq u2.bk (jm.left (jm.refl _ _ _) f);have l4:=LT.v 4 cE;refine⟨q.1,(KF.below (by rw[HR.v];exact S2.2.2)).trans ((KF.drew _ _).trans q.2),?_,S2.2.1.same (f.block rb S2.2.1.lt bG),S2.1.lt,u1.lt⟩;have:=S2.1.same (f.block (rb+1) S2.1.lt bG);rw[hm9,hb29]at this;exact this)
 obtain⟨mb,hmb⟩:=hU (W2.heap.size);have HMB:=hJ hmb;have hmd:W2.drew.heap.size=mb:=hmb;rw[hmd,hm9]at FK;rw[hmd,hmb,hm9]at A4;have CC:Hid (∀w4,bT w4 VK {s with k:={s.k with bk:=Mv.eJ (s.k.p n).mem s.k.bk 16}}->Calls prog 145 #[ai (bB ⟨b29,0,bC⟩)] w4 λe w'=>e=bw (ai (bB ⟨w4.heap.size,0,bC⟩))/\CX w' w4.heap.size (Sg.qo (s.k.p n).box)/\Below w4.heap.size w4 w'/\w4.heap.size<w'.heap.size):=hJ (λw4 hk=>by rw[<-hb29];exact JM _ _ _ (hk.bx n hn H.2.1));have FIN:Hid (∀w4 w5,du w4 mb (s.A 4) (s.k.p n).mem->(bT w4 VK {s with k:={s.k with bk:=Mv.eJ (s.k.p n).mem s.k.bk 16}}/\KF s w {s with k:={s.k with bk:=Mv.eJ (s.k.p n).mem s.k.bk 16}} w4/\PB w4 (rb+1) m9 b29 {s.k.p n with par:=(n:Int)}/\PB w4 rb 0 0 Pr.no/\rb+1<mb/\mb<w4.heap.size)->CX w5 w4.heap.size (Sg.qo (s.k.p n).box)->Below w4.heap.size w4 w5->CO VK s w n rb (rb+1) mb w4.heap.size {s.k with bk:=Mv.eJ (s.k.p n).mem s.k.bk 16} ((w5.setCell ⟨rb+1,4,bC⟩ (ai (bB ⟨mb,0,bC⟩))).setCell ⟨rb+1,5,bC⟩ (ai (bB ⟨w4.heap.size,0,bC⟩)))):=hJ (λw4 w5 u1 a cx bl=>by
  obtain⟨a1,a2,a3,a4,a5,a6⟩:=a;have fr:bO (rb+1) w5 ((w5.setCell ⟨rb+1,4,bC⟩ (ai (bB ⟨mb,0,bC⟩))).setCell ⟨rb+1,5,bC⟩ (ai (bB ⟨w4.heap.size,0,bC⟩))):=((bO.refl _ _).setCell _ _).setCell _ _;have p5:=(a3.same (bl.block _ a3.lt));have nk:¬KB ({s with k:={s.k with bk:=Mv.eJ (s.k.p n).mem s.k.bk 16}}:St) (rb+1):=λ⟨i,hi,e⟩=>by have:=LT.v i hi;have e2:rb+1=s.A i:=e;omega
  refine⟨(a1.below bl).fresh fr nk,(a2.trans (KF.below bl)).fresh fr (by rw[HR.v];omega),?_,(a4.same (bl.block _ a4.lt)).same (fr.block rb (aD a4.lt bl.size) bG),(u1.below bl).same (fr.block mb (aD a6 bl.size) bG),cx.same (fr.block w4.heap.size cx.lt bG),⟨by rw[HR.v];omega,by rw[HR.v];omega,by rw[HR.v];omega,by rw[HR.v];omega⟩,bG,bG,bG,bG,bG,bG⟩;exact((p5.TI (by exact H.2.1) mb).TC (by exact H.2.1) w4.heap.size).box _)
 clear hm9 hb29 hmb hmd S2;go_cut [15]from 16 to 24 (λ_ wc=>∃bb,Hid (CO VK s w n rb (rb+1) mb bb {s.k with bk:=Mv.eJ (s.k.p n).mem s.k.bk 16} wc))
 case first=>
  go_region_with (first|(go_at_call 144;refine FK.mono ?_;rintro e w4 ⟨rfl,u1,u2,f4⟩;have S4:=hJ (aK u1 (A4.v w4 u1 u2 f4));clear u1 u2 f4;have z5:w4.cell? ⟨rb+1,5,bC⟩=bB (ai (bB ⟨b29,0,bC⟩)):=(by rw[S4.2.2.2.1.cell 5 bG];show bB (Kn.ptr _ (s.k.p n).has)=_;rw[H.2.1];rfl))|(go_at_call 145;refine(CC.v _ S4.2.1).mono ?_;rintro e w5 ⟨rfl,cx,bl,l5⟩;have S5:=hJ (aK (FIN.v w4 w5 S4.1 S4.2 cx bl) (S4.2.2.2.1.same (bl.block _ S4.2.2.2.1.lt)));clear cx bl l5;have v4:=S5.2.cell 4 bG;have v5:=S5.2.cell 5 bG;have vf:=S5.2.frozen))
  all_goals
   have F5:Hid (CO VK s w n rb (rb+1) mb w4.heap.size {s.k with bk:=Mv.eJ (s.k.p n).mem s.k.bk 16} ((w5.setCell ⟨rb+1,4,bC⟩ (ai (bB ⟨mb,0,bC⟩))).setCell ⟨rb+1,5,bC⟩ (ai (bB ⟨w4.heap.size,0,bC⟩)))):=hJ S5.1;generalize (w5.setCell ⟨rb+1,4,bC⟩ (ai (bB ⟨mb,0,bC⟩))).setCell ⟨rb+1,5,bC⟩ (ai (bB ⟨w4.heap.size,0,bC⟩))=W6 at F5|-
   first|(go_wp2_with fail;go_meet)|go_meet
   case rel=>exact⟨_,F5⟩
 case rest=>
  obtain⟨bb,S3⟩:=hcut;clear FIN CC A4 FK y4 y5 K2;obtain⟨fd,hfd⟩:=hU ((s.k.p n).fd);have HFD:=hJ hfd;have LD:Hid (∀j,j<(mh fd).size->wc.cell? ⟨rb+1,6+j,bC⟩=(mh fd)[j]?):=hJ (λj hj=>by
   have q:=S3.pb.fds j (by show j<(mh (s.k.p n).fd).size;rw[hfd];exact hj);rw[show(Kn.eU s.k n).fd=fd from hfd]at q;exact q)
  have hsz:Hid ((prog.info? 72).map (·.size)=bB (mh fd).size):=hJ (by rw[qt];kernel_rfl);have L8:Hid (s.A 8<w.heap.size):=hJ (H.1.lt cE);clear hfd;go_wp2_with (refine jv rfl 72 _ rfl (rb+1) 6 rfl (mh fd) 6 3 LD.v bH hsz.v ?_)
  go_loopw [7,26] (λ_ i wr=>∃(j:Nat),i=aa bf j/\j<=6/\Hid (CO VK s w n rb (rb+1) mb bb (Kn.jL {s.k with bk:=Mv.eJ (s.k.p n).mem s.k.bk 16} fd j) wr)) (λ_ i _=>6-(intOf i).toNat)
  case atStart=>exact⟨0,rfl,bG,S3⟩
  case round=>
   clear S3 LD;obtain⟨j,rfl,hj6,S⟩:=hrel;by_cases hlt:j<6
   .have hltI:(j:Int)<6:=bG
    have hix:=xl fd j hlt wr;have SU:Hid (Kn.jL {s.k with bk:=Mv.eJ (s.k.p n).mem s.k.bk 16} fd (j+1)=if fd j= -1 then Kn.jL {s.k with bk:=Mv.eJ (s.k.p n).mem s.k.bk 16} fd j else{Kn.jL {s.k with bk:=Mv.eJ (s.k.p n).mem s.k.bk 16} fd j with fi:=Fx.jX (Kn.jL {s.k with bk:=Mv.eJ (s.k.p n).mem s.k.bk 16} fd j).fi (fd j)}):=hJ rfl;have RL:Hid (∀f,f<24->((Kn.jL {s.k with bk:=Mv.eJ (s.k.p n).mem s.k.bk 16} fd j).fi f).refs<2^60):=hJ (λf hf=>by
     have a:=Kn.GQ {s.k with bk:=Mv.eJ (s.k.p n).mem s.k.bk 16} fd f j;have b:=H.2.2.2 f hf;have c:((Kn.jL {s.k with bk:=Mv.eJ (s.k.p n).mem s.k.bk 16} fd j).fi f).refs<=(s.k.fi f).refs+j:=a;have e1:(2:Nat)^50=1125899906842624:=by decide
     have e2:(2:Nat)^60=1152921504606846976:=by decide
     omega)
    generalize Kn.jL {s.k with bk:=Mv.eJ (s.k.p n).mem s.k.bk 16} fd j=kj at*;obtain⟨z,hz⟩:=hU (fd j);rw[hz]at SU hix;clear hz;by_cases hz1:z= -1
    .subst hz1;rw[aJ rfl]at SU;go_wp2
     go_roundw
     case rel=>exact⟨j+1,by go_num,bG,by rw[SU.v];exact S⟩
     case measure=>simp[intOf];omega
    .rw[aI hz1]at SU;have zB:(z== -1)=bF:=by simpa using hz1
     have c8:=S.kk.tT;rw[show({s with k:=kj}:St).A 0=kb from HK.v]at c8;have XS:=hJ (zH (s.A 8) (s.A 6) (s.A 7) z kj.fi wr S.kk.fi RL.v);have c8':wr.cell? ⟨kb,252,bC⟩=bB (ai (bB ⟨s.A 8,0,bC⟩)):=c8;clear c8;obtain⟨a8,ha8⟩:=hU (s.A 8);have HA8:=hJ ha8;rw[ha8]at XS c8';clear ha8;go_wp2_with fail
     refine XS.mono ?_;rintro e w5 ⟨rfl,u5,f5⟩;generalize bS (Fx.dB kj.fi z)=ev;have S5:Hid (CO VK s w n rb (rb+1) mb bb {kj with fi:=Fx.jX kj.fi z} w5):=hJ (by
      rw[<-HA8.v]at u5 f5;have q:=S.kk.I9 u5 f5;exact S.step f5 q.1 q.2 L8.v)
     clear u5 f5 c8';go_wp2
     go_roundw
     case rel=>exact⟨j+1,by go_num,bG,by rw[SU.v];exact S5⟩
     case measure=>simp[intOf];omega
   .obtain rfl:j=6:=bG
    obtain⟨B,hB⟩:=hU (dW mb bb (Kn.eU s.k n));have HB:=hJ hB;have RG:Hid (wr.rangeAt (rb+1) 0 B.toList):=hJ (by rw[<-hB];exact S.pb.range);have SL:Hid ((prog.info? 74).map (·.size)=bB B.toList.length):=hJ (by rw[<-hB,aB,dM];kernel_rfl);have SZ:Hid ((prog.info? 74).map (·.size)=bB B.size):=hJ (by rw[<-hB,dM];kernel_rfl);have TH:Hid (wr.there rb 0 B.size):=hJ (by rw[<-hB,dM];exact S.rs.there);have H1:Hid (B.all (·.oneCell')=bE):=hJ (by rw[<-hB];exact qa _ _ _);have F6:Hid (PB (wr.setCells rb 0 B.toList) rb mb bb (Kn.eU s.k n)/\bT (wr.setCells rb 0 B.toList) VK {s with k:=Kn.dI s.k n}/\KF s w {s with k:=Kn.dI s.k n} (wr.setCells rb 0 B.toList)/\du (wr.setCells rb 0 B.toList) mb (s.A 4) (s.k.p n).mem/\CX (wr.setCells rb 0 B.toList) bb (Sg.qo (s.k.p n).box)):=hJ (by
     have fr:bO rb wr (wr.setCells rb 0 B.toList):=bO.setCells _ _ (bO.refl _ _);have e:Kn.jL {s.k with bk:=Mv.eJ (s.k.p n).mem s.k.bk 16} fd 6=Kn.dI s.k n:=by unfold Kn.dI;rw[HFD.v]
     have q:=S.v;rw[e]at q;refine⟨by rw[<-hB];exact S.rs.put _ _ _,q.kk.fresh fr (λ⟨i,hi,e⟩=>?_),q.kf.fresh fr (by have:=q.ge;omega),q.um.same (fr.block _ q.um.lt (by have:=q.ne;omega)),q.ub.same (fr.block _ q.ub.lt (by have:=q.ne;omega))⟩;have a:=q.kf.sub rb ⟨i,hi,e⟩;have g:=q.ge;rcases a with a|a
     .have:=H.1.UR a;omega
     .have e2:rb=s.A i:=e;have k0:us s i:=by
       have hi2:=hi;obtain⟨T,eT⟩:=Kn.kC {s.k with bk:=Mv.eJ (s.k.p n).mem s.k.bk 16} fd 6;have e3:Kn.dI s.k n={s.k with bk:=Mv.eJ (s.k.p n).mem s.k.bk 16,fi:=T}:=by rw[<-eT];unfold Kn.dI;rw[HFD.v]
       rw[e3]at hi2;exact hi2
      have:=H.1.lt k0;omega)
    have GE:=hJ (aK S.ge S.ne);clear hB S;go_wp2_with (first|(refine wpList_load_mid rfl 74 _ rfl (rb+1) 0 rfl B.toList _ RG.v Tryz.underlying74 rfl SL.v ?_;rw[Array.toArray_toList])|(refine wpList_store_mid rfl 74 _ _ rfl rb 0 B rfl rfl TH.v SZ.v H1.v ?_))
    generalize wr.setCells rb 0 B.toList=WF at F6|-;have g0:=F6.1.cell 0 bG;have g1:=F6.1.cell 1 bG;have g2:=F6.1.cell 2 bG;have g3:=F6.1.cell 3 bG;have g4:=F6.1.cell 4 bG;have g5:=F6.1.cell 5 bG;have g6:=F6.1.cell 6 bG;have g7:=F6.1.cell 7 bG;have g8:=F6.1.cell 8 bG;have g9:=F6.1.cell 9 bG;have g10:=F6.1.cell 10 bG;have g11:=F6.1.cell 11 bG
    (try simp only[Exit.then])
    refine bodyPost_ret (v:=au #[Kn.fB mb bb (Kn.eU s.k n) 0,Kn.fB mb bb (Kn.eU s.k n) 1,Kn.fB mb bb (Kn.eU s.k n) 2,Kn.fB mb bb (Kn.eU s.k n) 3,Kn.fB mb bb (Kn.eU s.k n) 4,Kn.fB mb bb (Kn.eU s.k n) 5,Kn.fB mb bb (Kn.eU s.k n) 6,Kn.fB mb bb (Kn.eU s.k n) 7,Kn.fB mb bb (Kn.eU s.k n) 8,Kn.fB mb bb (Kn.eU s.k n) 9,Kn.fB mb bb (Kn.eU s.k n) 10,Kn.fB mb bb (Kn.eU s.k n) 11]) (by simp[results,Tryz.f69,go_sem,g0,g1,g2,g3,g4,g5,g6,g7,g8,g9,g10,g11]) rfl ?_;exact⟨mb,bb,rfl,F6.2.1,F6.2.2.1,F6.2.2.2.1,F6.2.2.2.2,GE.1.2.2.1,GE.1.2.2.2,GE.2.1⟩
end
namespace Sp
theorem Ol{t:T}(h:mem t z m):m∈gd t z:=by
 obtain⟨p,p21,pw⟩:=h;unfold gd;exact List.mem_map.2 ⟨p,bX.2 ⟨by simpa using p21,by unfold jF;apply aO;omega⟩,bG⟩
theorem K6{t:T}(hz:z<6)(hh:t.here z=bE)(h:mem t z m):m∈eR t (z:Int):=by
 unfold eR;rw[iW hz hh,aJ rfl,hZ];exact Ol h
theorem Bn{t:T}(hI:Inv t d)(hz:z<6)(hh:t.here z=bE)(h:m∈eR t (z:Int)):m<20/\mem t z m:=by
 unfold eR at h;rw[iW hz hh,aJ rfl,hZ]at h;obtain⟨i,hi⟩:=List.getElem?_of_mem h;exact vZ hi (λp hp=>hI.qR z p hz hp)
end Sp
namespace Kn
theorem dJ:lv k n=bE↔(k.p n).st=1:=by unfold lv;simp
structure PI (k:Kp)(m q:Nat):Prop where
 ik:q<20
 qm:q≠m
 pq:(k.p m).par=(q:Int)
 lq:lv k q=bE
 oq:∃y,k.sp.of q=y+1/\Sp.mem k.sp y m/\(hd k m=m->k.sp.of m≠y+1)
structure KH (N:Nat)(d:Nat->Nat)(k:Kp):Prop where
 ki:KI N d k
 pp:∀m,m<20->m≠0->(k.p m).st≠0->∃q,PI k m q
 l0:lv k 0=bE
 p0:(k.p 0).par= -1
 ge:∀m z,m<20->(k.p m).st=2->hd k m=m->k.sp.of m=z+1->∀x,x<20->Sp.mem k.sp z x->x=m
section
variable {N:Nat}{d:Nat->Nat}{k k1 k2 k3 k':Kp}{n z:Nat}
theorem KH.of(h:KH N d k){m:Nat}(hm:m<20)(s:(k.p m).st≠0):∃y,k.sp.of m=y+1:=⟨k.sp.of m-1,by have:=(h.ki.vi.kj.of m hm).2 s;omega⟩
theorem KH.nT(h:KH N d k)(hi:KI N d k')(sp:k'.sp=k.sp)(hp:∀m,(k'.p m).st=(k.p m).st/\(k'.p m).par=(k.p m).par):KH N d k':=by
 have e:∀m,hd k' m=hd k m:=λm=>by unfold hd;rw[sp]
 have l:∀m,lv k' m=lv k m:=λm=>by unfold lv;rw[(hp m).1]
 refine⟨hi,λm hm m0 s=>?_,by rw[l];exact h.l0,by rw[(hp 0).2];exact h.p0,λm z hm s hd1 o x hx xm=>?_⟩
 .rw[(hp m).1]at s;obtain⟨q,a⟩:=h.pp m hm m0 s;refine⟨q,a.ik,a.qm,by rw[(hp m).2];exact a.pq,by rw[l];exact a.lq,?_⟩;rw[sp,e];exact a.oq
 .rw[(hp m).1]at s;rw[e]at hd1;rw[sp]at o xm;exact h.ge m z hm s hd1 o x hx xm
structure MQ (k:Kp)(n z:Nat)(k3:Kp):Prop where
 ot:∀q,q<20->q≠n->(k3.p q=k.p q/\k3.sp.of q=k.sp.of q)\/(k3.p q=Pr.no/\k3.sp.of q=0/\Sp.mem k.sp z q/\hd k n=n)
 wh:∀s p,s<6->p<21->k3.sp.cD s p=k.sp.cD s p\/k3.sp.cD s p=0
 wk:∀s p m,s<6->p<21->m<20->k.sp.cD s p=m+1->k3.sp.of m≠0->k3.sp.cD s p=m+1
 al:hd k n=n->∀x,x<20->Sp.mem k3.sp z x->x=n
 sa:hd k n≠n->k3.sp=k.sp
theorem VI.mq(hv:VI (λ_=>False) N d k)(hn:n<20)(n0:n≠0)(l:lv k n=bE)(ho:k.sp.of n=z+1){c:Int}(s1:gA k n k1)(mt:ym 6 (eP k1 n c) n z k3):MQ k n z k3:=by
 obtain⟨a,sp,tb,hh,s0,fU⟩:=hv.first hn (λx=>x) ho (λ_=>s1) (λx=>by rw[l]at x;cases x);have oth2:∀q,q≠n->(eP k1 n c).p q=k.p q:=λq e=>(cr _ _ _ _ e).trans (fU q e);have hd2:∀q,hd (eP k1 n c) q=hd k q:=λq=>by
  show hd k1 q=hd k q;unfold hd;rw[sp]
 have gs:(eP k1 n c).sp=k.sp:=sp;rcases mt with⟨c1,rfl⟩|⟨ih,j,it⟩
 .rw[hd2 n]at c1;exact⟨λq _ e=> .inl ⟨oth2 q e,by rw[gs]⟩,λ_ _ _ _=> .inl (by rw[gs]),λ_ _ _ _ _ _ e _=>by rw[gs];exact e,λe=>aZ e c1,λ_=>gs⟩
 .rw[hd2 n]at ih;have ei:EI (λm=>False\/m=n) N d n z k1:=hv.ei hn n0 (λx=>x) ho ih (λ_ _ x=>aZ x (λx=>x)) (λ_=>s1) (λx=>by rw[l]at x;cases x);obtain⟨b,g,e,len⟩:=EI.iter (oc 6) j _ (ei.gone s0 hh c) it;refine⟨λq hq e=>?_,λs p hs hp=>by have:=g.wh s p hs hp;rw[gs]at this;exact this,λs p m hs hp hm=>by have:=g.wk s p m hs hp hm;rw[gs]at this;exact this,λ_ x hx xm=>?_,λe=>aZ ih e⟩
  .rcases g.kp q hq with w|w
   .rw[oth2 q e,gs]at w;exact .inl w
   .rw[gs]at w;exact .inr ⟨w.1,w.2.1,w.2.2,ih⟩
  .obtain⟨p,p21,pw⟩:=xm;rw[b.gd]at len;have p1:=Sp.xz b.hw len p p21 bG;subst p1;have:=b.hw;omega
theorem MQ.head(g:MQ k n z k3){d':Nat->Nat}(h:VI (λ_=>False) N d k)(h3:VI X N d' k3)(hm:m<20)(o:k3.sp.of m=k.sp.of m)(o0:k.sp.of m≠0):hd k3 m=m↔hd k m=m:=by
 obtain⟨y,hy⟩:∃y,k.sp.of m=y+1:=⟨k.sp.of m-1,bG⟩;have y6:=(h.iv.dj hm hy).2.1;rw[iV h.iv h.hs hm hy,iV h3.iv h3.hs hm (by rw[o];exact hy)];constructor
 .intro e;rcases g.wh y 1 y6 bG with w|w
  .rw[<-w];exact e
  .rw[w]at e;omega
 .intro e;exact g.wk y 1 m y6 bG hm e (by rw[o];exact o0)
theorem MQ.mem(g:MQ k n z k3){s m:Nat}(hs:s<6)(hm:m<20)(e:Sp.mem k.sp s m)(o:k3.sp.of m≠0):Sp.mem k3.sp s m:=by
 obtain⟨p,p21,pw⟩:=e;exact⟨p,p21,g.wk s p m hs p21 hm pw o⟩
theorem MQ.back(g:MQ k n z k3){s:Nat}(hs:s<6)(e:Sp.mem k3.sp s m):Sp.mem k.sp s m:=by
 obtain⟨p,p21,pw⟩:=e;rcases g.wh s p hs p21 with c|c
 .exact⟨p,p21,by rw[<-c];exact pw⟩
 .rw[c]at pw;omega
theorem KH.end(h:KH N d k)(hn:n<20)(n0:n≠0)(l:lv k n=bE)(ho:k.sp.of n=z+1)(hq:(k.p n).par=(q:Int)){c:Int}(et:lS k n c z q k'):KH N d k':=by
 obtain⟨k1,k3,s1,mt,rfl⟩:=et;have hv:=h.ki.vi;have md:=hv.Aa hn n0 l ho s1 mt;have mq:=hv.mq hn n0 l ho s1 mt;have z6:=(hv.iv.dj hn ho).2;obtain⟨q',pn⟩:=h.pp n hn n0 (by rw[dJ.1 l];omega);obtain rfl:q=q':=by have:=pn.pq;omega
 have ik:=pn.ik;have qn:=pn.qm;have vi3:VI (λ_=>False) N d k3:=⟨⟨md.vi.kj.sp,md.vi.kj.gr,md.vi.kj.me,md.vi.kj.wx,md.vi.kj.rf,md.vi.kj.ok,md.vi.kj.tb,md.vi.kj.st,md.vi.kj.hs,λm hm _ s=>md.vi.kj.lv m hm (λx=>x.elim id (λe=>by subst e;rw[md.pn.1]at s;omega)) s,md.vi.kj.of,md.vi.kj.ht,md.vi.kj.nm⟩,md.vi.iv,md.vi.hs⟩;have left:∀m,m<20->(k3.p m).st≠0->m≠n->k3.p m=k.p m/\k3.sp.of m=k.sp.of m/\k.sp.of m≠0:=λm hm s mn=>by
  rcases mq.ot m hm mn with⟨a,b⟩|⟨a,_⟩
  .exact⟨a,b,(hv.kj.of m hm).2 (by rw[<-a];exact s)⟩
  .rw[a]at s;exact aZ rfl s
 have outs:∀m,m<20->(k3.p m).st≠0->m≠n->hd k n=n->¬Sp.mem k.sp z m:=λm hm s mn e c1=>by
  have:=left m hm s mn;exact mn (mq.al e m hm (mq.mem z6.1 hm c1 (by rw[this.2.1];exact this.2.2)))
 have stay:∀m x,m<20->(k3.p m).st≠0->PI k m x->x≠n->k3.p x=k.p x/\k3.sp.of x=k.sp.of x:=λm x hm s a xn=>by
  rcases mq.ot x a.ik xn with b|⟨_,_,b,e⟩
  .exact b
  .exfalso;obtain⟨y,oy,my,hy⟩:=a.oq;by_cases mn:m=n
   .subst mn;exact hv.iv.Bq hn a.ik ho oy b (λe2=>hy e (by rw[ho,e2])) my
   .exact outs m hm s mn e (hv.iv.DH z6.1 a.ik hm oy b my)
 have hdn:∀m,m<20->(k3.p m).st≠0->(hd k3 m=m↔hd k m=m):=λm hm s=>by
  by_cases mn:m=n
  .subst mn;exact mq.head hv vi3 hm (by rw[md.ho,ho]) bG
  .have:=left m hm s mn;exact mq.head hv vi3 hm this.2.1 this.2.2
 have pi3:∀m x,m<20->(k3.p m).st≠0->PI k m x->x≠n->(k3.p m).par=(x:Int)->PI k3 m x:=λm x hm s a xn pe=>by
  have b:=stay m x hm s a xn;obtain⟨y,oy,my,hy⟩:=a.oq;have om:k3.sp.of m=k.sp.of m/\k.sp.of m≠0:=by
   by_cases mn:m=n
   .subst mn;rw[md.ho,ho];exact⟨rfl,bG⟩
   .exact(left m hm s mn).2
  refine⟨a.ik,a.qm,pe,dJ.2 (by rw[b.1];exact dJ.1 a.lq),y,by rw[b.2];exact oy,mq.mem (hv.iv.dj a.ik oy).2.1 hm my (by rw[om.1];exact om.2),λe=>?_⟩;rw[om.1];exact hy ((hdn m hm s).1 e)
 have ini:Sp.dV k3.sp (n:Int)=z:=Sp.gM hn md.ho;have z63:=(vi3.iv.dj hn md.ho).2;have inC:∀m,m∈je k3 n->m<20/\Sp.mem k3.sp z m/\(k3.p m).par=(n:Int):=λm hm=>by
  have a:=hm;unfold je jo at a;rw[ini]at a;have b:=Sp.Bn vi3.iv z63.1 z63.2 (bX.1 a).1;exact⟨b.1,b.2,vU m hm⟩
 obtain⟨hh,h20,hw,hof⟩:=vi3.hs.hd z z63.1 z63.2;have fh:Sp.eV k3.sp (z:Int) 1=hh:=Sp.Pk z63.1 z63.2 hw;rw[fh];have pp4:∀m,m<20->m≠0->(k3.p m).st≠0->∃x,PI (gK k3 (je k3 n) (hh:Nat)) m x:=λm hm m0 s=>by
  have sk:(k.p m).st≠0:=by
   by_cases mn:m=n
   .subst mn;rw[dJ.1 l];omega
   .rw[<-(left m hm s mn).1];exact s
  obtain⟨x,a⟩:=h.pp m hm m0 sk;have p3:(k3.p m).par=(x:Int):=by
   by_cases mn:m=n
   .subst mn;rw[md.pn.2.2.1];exact a.pq
   .rw[(left m hm s mn).1];exact a.pq
  by_cases xn:x=n
  .subst xn;have mn:m≠x:=λe=>a.qm e.symm;have lm:=left m hm s mn;obtain⟨y,oy,my,hy⟩:=a.oq;obtain rfl:y=z:=bG
   have nh:hd k x≠x:=λe=>outs m hm s mn e my;have mm:Sp.mem k3.sp y m:=mq.mem z6.1 hm my (by rw[lm.2.1];exact lm.2.2);have mC:m∈je k3 x:=by
    unfold je jo;rw[ini];exact bX.2 ⟨Sp.K6 z63.1 z63.2 mm,aO p3⟩
   have hx:hh≠x:=λe=>by
    subst e;exact nh ((hdn hh hn (by rw[md.pn.1];omega)).1 ((iV vi3.iv vi3.hs h20 hof).2 hw))
   have sh:(k3.p hh).st≠0:=(vi3.kj.of hh h20).1 bG;have lh:=left hh h20 sh hx;have hhd:hd k3 hh=hh:=(iV vi3.iv vi3.hs h20 hof).2 hw;have lvh:lv k3 hh=bE:=dJ.2 (by
    have le:=vi3.kj.st hh h20;by_cases e2:(k3.p hh).st=2
    .exfalso;have oh:k.sp.of hh=y+1:=by rw[<-lh.2.1];exact hof
     exact hx (h.ge hh y h20 (by rw[<-lh.1];exact e2) ((hdn hh h20 sh).1 hhd) oh x hn (hv.iv.dj hn ho).1).symm
    .omega)
   refine⟨hh,h20,λe=>?_,?_,lvh,y,hof,mm,λe=>?_⟩
   .subst e;exact hy ((hdn hh hm s).1 hhd) (by rw[<-lm.2.1];exact hof)
   .show(if m∈je k3 x then((hh:Nat):Int)else _)=_;rw[aJ mC]
   .show k3.sp.of m≠y+1;rw[lm.2.1];exact hy ((hdn m hm s).1 e)
  .have b:=pi3 m x hm s a xn p3;refine⟨x,b.ik,b.qm,?_,b.lq,b.oq⟩;show(if m∈je k3 n then _ else(k3.p m).par)=_;rw[aI (λe=>xn (by have:=(inC m e).2.2;omega))];exact p3
 have ki4:KI N d (gK k3 (je k3 n) (hh:Nat)):=by
  refine⟨⟨vi3.kj.ad _ _,vi3.iv,vi3.hs⟩,λm hm lm hd1=>?_,λm hm m0 s=>?_,vi3.h0⟩
  .have t1:(k3.p m).st=1:=dJ.1 lm;have mn:m≠n:=λe=>by subst e;rw[md.pn.1]at t1;omega
   have lm2:=left m hm bG mn;show Sg.fw (k3.p m).box 0 0;rw[lm2.1];refine h.ki.fi m hm (dJ.2 (by rw[<-lm2.1];exact t1)) (λe=>hd1 ((hdn m hm bG).2 e))
  .obtain⟨x,a⟩:=pp4 m hm m0 s;exact⟨x,a.ik,a.qm,a.pq⟩
 have kh4:KH N d (gK k3 (je k3 n) (hh:Nat)):=by
  have e0:k3.p 0=k.p 0:=by
   rcases mq.ot 0 bG (bQ n0)with⟨a,_⟩|⟨_,_,b,e⟩
   .exact a
   .exact aZ b (hv.iv.zero hv.hs z6.1 ((iV hv.iv hv.hs hn ho).1 e) n0)
  refine⟨ki4,pp4,dJ.2 ?_,?_,λm y hm s hd1 o x hx xm=>?_⟩
  .show(k3.p 0).st=1;rw[e0];exact dJ.1 h.l0
  .show(if 0∈je k3 n then _ else(k3.p 0).par)= -1;rw[aI (λc=>by have:=(inC 0 c).2.2;rw[e0,h.p0]at this;omega),e0];exact h.p0
  .have s2:(k3.p m).st=2:=s;have o2:k3.sp.of m=y+1:=o;have y6:=(vi3.iv.dj hm o2).2.1;by_cases mn:m=n
   .subst mn;obtain rfl:y=z:=by have:=md.ho;omega
    exact mq.al ((hdn m hm bG).1 hd1) x hx xm
   .have lm2:=left m hm bG mn;exact h.ge m y hm (by rw[<-lm2.1];exact s2) ((hdn m hm bG).1 hd1) (by rw[<-lm2.2.1];exact o2) x hx (mq.back y6 xm)
 unfold mV;split
 .refine kh4.nT (kh4.ki.box q (λ_ lq hq1=>?_)) rfl (λm=>?_)
  .exact Sg.Dm (kh4.ki.fi q ik lq hq1)
  .unfold ja;by_cases e:m=q
   .subst e;rw[bR];exact⟨rfl,rfl⟩
   .rw[cr _ _ _ _ e];exact⟨rfl,rfl⟩
 .exact kh4
theorem KH.G8(h:KH N d k)(hn:n<20)(n0:n≠0)(g2:(k.p n).st=2)(ho:k.sp.of n=z+1)(v:iY 6 k n k'):KH N d k'/\k'.p n=Pr.no/\k'.sp.of n=0/\(∀x,x<20->x≠n->k'.p x=k.p x/\k'.sp.of x=k.sp.of x)/\(∀s p,s<6->p<21->k'.sp.cD s p=if k.sp.cD s p=n+1 then 0 else k.sp.cD s p):=by
 have hv:=h.ki.vi;have z6:=(hv.iv.dj hn ho).2;obtain⟨v',g,e,ot⟩:=oc 6 (λ_=>False) k n k' z hv hn n0 (λx=>x) ho (λ_ _ _ x=>x.elim) v;have o0:k'.sp.of n=0:=by
  by_cases c:k'.sp.of n=0
  .exact c
  .have:=(v'.kj.of n hn).1 c;rw[e]at this;exact aZ rfl this
 have fU:∀x,x<20->x≠n->k'.p x=k.p x/\k'.sp.of x=k.sp.of x:=λx hx xn=>by
  by_cases c:hd k n=n
  .rcases g.kp x hx with w|w
   .exact w
   .exact aZ (h.ge n z hn g2 c ho x hx w.2.2) xn
  .exact ot c x hx xn
 have whs:∀s p,s<6->p<21->k'.sp.cD s p=if k.sp.cD s p=n+1 then 0 else k.sp.cD s p:=λs p hs hp=>by
  by_cases c:k.sp.cD s p=n+1
  .rw[aJ c];rcases g.wh s p hs hp with w|w
   .have:=(v'.iv.has s n hs hn).1 ⟨p,hp,by rw[w];exact c⟩;exact aZ o0 this.1
   .exact w
  .rw[aI c];by_cases c0:k.sp.cD s p=0
   .rcases g.wh s p hs hp with w|w
    .exact w
    .rw[w,c0]
   .have le:=hv.iv.qR s p hs hp;have x20:k.sp.cD s p-1<20:=bG
    have xn:k.sp.cD s p-1≠n:=bG
    have hx:=(hv.iv.has s (k.sp.cD s p-1) hs x20).1 ⟨p,hp,bG⟩;have:=g.wk s p (k.sp.cD s p-1) hs hp x20 bG (by rw[(fU _ x20 xn).2];exact hx.1);omega
 have hdn:∀m,m<20->m≠n->k.sp.of m≠0->(hd k' m=m↔hd k m=m):=λm hm mn om=>by
  obtain⟨y,hy⟩:∃y,k.sp.of m=y+1:=⟨k.sp.of m-1,bG⟩;have y6:=(hv.iv.dj hm hy).2.1;rw[iV hv.iv hv.hs hm hy,iV v'.iv v'.hs hm (by rw[(fU m hm mn).2];exact hy),whs y 1 y6 bG];by_cases c:k.sp.cD y 1=n+1
  .rw[aJ c];omega
  .rw[aI c]
 have mem':∀s m,s<6->m<20->m≠n->(Sp.mem k'.sp s m↔Sp.mem k.sp s m):=λs m hs hm mn=>by
  constructor
  .rintro⟨p,p21,pw⟩;rw[whs s p hs p21]at pw;by_cases c:k.sp.cD s p=n+1
   .rw[aJ c]at pw;omega
   .rw[aI c]at pw;exact⟨p,p21,pw⟩
  .rintro⟨p,p21,pw⟩;exact⟨p,p21,by rw[whs s p hs p21,nJ];exact pw⟩
 have st0:∀m,m<20->(k'.p m).st≠0->m≠n:=λm _ s c=>by subst c;rw[e]at s;exact s rfl
 have pp:∀m,m<20->m≠0->(k'.p m).st≠0->∃q,PI k' m q:=λm hm m0 s=>by
  have mn:=st0 m hm s;rw[(fU m hm mn).1]at s;obtain⟨q,a⟩:=h.pp m hm m0 s;have qn:q≠n:=λc=>by subst c;have:=dJ.1 a.lq;omega
  have oq:=fU q a.ik qn;obtain⟨y,oy,my,hy⟩:=a.oq;refine⟨q,a.ik,a.qm,by rw[(fU m hm mn).1];exact a.pq,dJ.2 (by rw[oq.1];exact dJ.1 a.lq),y,by rw[oq.2];exact oy,(mem' y m (hv.iv.dj a.ik oy).2.1 hm mn).2 my,λc=>?_⟩;rw[(fU m hm mn).2];exact hy ((hdn m hm mn ((hv.kj.of m hm).2 s)).1 c)
 refine⟨⟨⟨v',λm hm lm hd1=>?_,λm hm m0 s=>?_,v'.h0⟩,pp,?_,?_,λm y hm s hd1 o x hx xm=>?_⟩,e,o0,fU,whs⟩
 .have mn:=st0 m hm (by rw[dJ.1 lm];omega);have om:=fU m hm mn;rw[om.1];have lk:lv k m=bE:=dJ.2 (by rw[<-om.1];exact dJ.1 lm);exact h.ki.fi m hm lk (λc=>hd1 ((hdn m hm mn ((hv.kj.of m hm).2 (by rw[dJ.1 lk];omega))).2 c))
 .obtain⟨q,a⟩:=pp m hm m0 s;exact⟨q,a.ik,a.qm,a.pq⟩
 .exact dJ.2 (by rw[(fU 0 bG (bQ n0)).1];exact dJ.1 h.l0)
 .rw[(fU 0 bG (bQ n0)).1];exact h.p0
 .have mn:=st0 m hm bG;have om:=fU m hm mn;have xn:x≠n:=λc=>by
   subst c;have:=(v'.iv.has y x (v'.iv.dj hm o).2.1 hx).1 xm;exact this.1 o0
  rw[om.1]at s;rw[om.2]at o;exact h.ge m y hm s ((hdn m hm mn bG).1 hd1) o x hx ((mem' y x (hv.iv.dj hm o).2.1 hx xn).1 xm)
end
end Kn
namespace Kn
section
variable {N:Nat}{d:Nat->Nat}{k k2:Kp}{n c z:Nat}
theorem MR(X:Nat->Sg.S1):Sg.fw (Sg.qo X) 0 0:= .inl ⟨rfl,λj _ _=>by unfold Sg.ok Sg.qo;simp⟩
theorem KH.gr(h:KH N d k){t:Nat->Gr.Gp}{M:Nat}(hM:N<=M)(g:∃Wy,Gr.Tree t Wy M):KH M d {k with gr:=t}:=by
 have kj:KJ (λ_=>False) M {k with gr:=t}:=(h.ki.vi.kj.mono (λ_ _ e=>e) hM).j8 g;exact⟨⟨⟨kj,h.ki.vi.iv,h.ki.vi.hs⟩,h.ki.fi,h.ki.pr,h.ki.h0⟩,λm hm m0 s=>by
  obtain⟨q,a⟩:=h.pp m hm m0 s;exact⟨q,a.ik,a.qm,a.pq,a.lq,a.oq⟩,h.l0,h.p0,h.ge⟩
theorem KH.born(h:KH N d k){d2:Nat->Nat}(kj:KJ (λ_=>False) N k2)(iv:Sp.Inv k2.sp d2)(ep:k2.p=k.p)(eo:k2.sp.of=k.sp.of)(ew:k2.sp.cD=k.sp.cD)(hn:n<20)(l:lv k n=bE)(hc:c<20)(c0:(k.p c).st=0)(z6:z<6)(zh:k2.sp.here z=bE)
  {y:Nat} (oy:k.sp.of n=y+1) (hz:(z=y/\∀s,s<6->k2.sp.here s=bE->k.sp.here s=bE)\/(z≠y/\k2.sp.par z=(y:Int)/\k.sp.here z=bF/\∀s,s<6->k2.sp.here s=bE->s=z\/k.sp.here s=bE)) {m':Wf.M} (wk:Wf.jw (Wf.eA k2.sc (c:Int) (k2.p n).cJ) (c:Int) bE m'):KH (N+1) d2 (iQ (dI k2 n) c (eU k2 n) (z:Int) m'):=by
 have hv:=h.ki.vi;have l2:lv k2 n=bE:=by unfold lv;rw[ep];exact l
 have n1:(k.p n).st=1:=dJ.1 l;have nc:n≠c:=λe=>by subst e;omega
 have hh2:(k2.p n).has=bE:=by rw[ep];exact hv.kj.lv n hn (λx=>x) n1
 have kj2:=kj.VD (n:=n) (c:=c) (z:=z) (λx=>x) hn hc l2 hh2 (by rw[ep];exact c0) z6 zh wk;have o0:k2.sp.of c=0:=by
  by_cases e:k2.sp.of c=0
  .exact e
  .exact aZ (by rw[ep];exact c0) ((kj.of c hc).1 e)
 have o0k:k.sp.of c=0:=by rw[<-eo];exact o0
 obtain⟨T,eT⟩:=kC {k2 with bk:=Mv.eJ (k2.p n).mem k2.bk 16} (k2.p n).fd 6;have cop:dI k2 n={k2 with bk:=Mv.eJ (k2.p n).mem k2.bk 16,fi:=T}:=eT;have esp:(iQ (dI k2 n) c (eU k2 n) (z:Int) m').sp=Sp.fO k2.sp (z:Int) (c:Int):=by rw[cop];rfl
 have e1:∀m,m≠c->(iQ (dI k2 n) c (eU k2 n) (z:Int) m').p m=k.p m:=λm q=>by rw[cop];exact(cr _ _ _ _ q).trans (by show k2.p m=k.p m;rw[ep])
 have e2:(iQ (dI k2 n) c (eU k2 n) (z:Int) m').p c=eU k2 n:=bR _ _ _;have iv':Sp.Inv (iQ (dI k2 n) c (eU k2 n) (z:Int) m').sp d2:=by rw[esp];exact iv.enter _ _
 have hs':Sp.qX (iQ (dI k2 n) c (eU k2 n) (z:Int) m').sp:=by
  rw[esp];refine Sp.qX.enter iv z6 zh hc o0 (λs s6 sh=>?_) (by rw[eo,ew];exact hv.hs.r0);rw[eo,ew];rcases hz with⟨_,q⟩|⟨_,_,q,r⟩
  .exact .inl (hv.hs.hd s s6 (q s s6 sh))
  .rcases r s s6 sh with e|e
   .subst e;exact .inr ⟨rfl,λp hp=>hv.iv.dead s6 hp q⟩
   .exact .inl (hv.hs.hd s s6 e)
 have vi':VI (λ_=>False) (N+1) d2 (iQ (dI k2 n) c (eU k2 n) (z:Int) m'):=⟨kj2,iv',hs'⟩;generalize hk':iQ (dI k2 n) c (eU k2 n) (z:Int) m'=k' at*;have of':∀m,k'.sp.of m=if m=c then z+1 else k.sp.of m:=λm=>by rw[esp,Sp.qs z6 zh hc o0,eo]
 have jl:∀s p,s<6->k.sp.cD s p≠0->k'.sp.cD s p=k.sp.cD s p:=λs p hs hw=>by rw[esp,Sp.ti iv z6 zh hc o0 hs (by rw[ew];exact hw),ew]
 have memk:∀s m,s<6->Sp.mem k.sp s m->Sp.mem k'.sp s m:=λs m hs ⟨p,p21,pw⟩=>⟨p,p21,by rw[jl s p hs bG];exact pw⟩;have gd:∀s m,s<6->m≠c->Sp.mem k'.sp s m->Sp.mem k.sp s m:=λs m hs mc ⟨p,p21,pw⟩=>by
  rw[esp,Sp.Ab z6 zh hc o0]at pw;by_cases q:s∈Sp.W k2.sp (z:Int)/\p=Sp.low k2.sp s
  .rw[aJ q]at pw;omega
  .rw[aI q,ew]at pw;exact⟨p,p21,pw⟩
 have hdn:∀m,m<20->m≠c->k.sp.of m≠0->(hd k' m=m↔hd k m=m):=λm hm mc om=>by
  obtain⟨x,hx⟩:∃x,k.sp.of m=x+1:=⟨k.sp.of m-1,bG⟩;have x6:=(hv.iv.dj hm hx).2;obtain⟨hh,h20,hw,hof⟩:=hv.hs.hd x x6.1 x6.2;rw[iV hv.iv hv.hs hm hx,iV vi'.iv vi'.hs hm (by rw[of',aI mc];exact hx),jl x 1 x6.1 bG]
 have y6:=(hv.iv.dj hn oy).2;have piC:PI k' c n:=by
  refine⟨hn,nc,by rw[e2];rfl,dJ.2 (by rw[e1 n nc];exact n1),y,by rw[of',aI nc];exact oy,?_,λe=>?_⟩
  .refine(vi'.iv.has y c y6.1 hc).2 ⟨by rw[of',aJ rfl];omega,?_⟩;rw[of',aJ rfl,show z+1-1=z by omega];have wz:Sp.W k'.sp (z:Int)=z::Sp.W k'.sp (k'.sp.par z):=vi'.iv.tree.step z6 (by rw[esp,(Sp.lG z6 zh hc o0).1];exact zh);rw[wz];rcases hz with⟨e,_⟩|⟨_,e,_,_⟩
   .rw[e];simp
   .have pe:k'.sp.par z=(y:Int):=by rw[esp,(Sp.lG z6 zh hc o0).2];exact e
    rw[pe];have yh:k'.sp.here y=bE:=by
     have:=(vi'.iv.dj hn (z:=y) (by rw[of',aI nc];exact oy)).2.2;exact this
    rw[vi'.iv.tree.step y6.1 yh];simp
  .rw[of',aJ rfl];intro q;obtain rfl:z=y:=bG
   have wc:=(iV vi'.iv vi'.hs hc (z:=z) (by rw[of',aJ rfl])).1 e;obtain⟨hh,h20,hw,hof⟩:=hv.hs.hd z y6.1 y6.2;rw[jl z 1 z6 bG,hw]at wc;have:hh=c:=bG
   subst this;omega
 have ppo:∀m,m<20->m≠0->(k'.p m).st≠0->∃q,PI k' m q:=λm hm m0 s=>by
  by_cases mc:m=c
  .subst mc;exact⟨n,piC⟩
  .rw[e1 m mc]at s;obtain⟨q,a⟩:=h.pp m hm m0 s;have qc:q≠c:=λe=>by subst e;have:=dJ.1 a.lq;omega
   obtain⟨x,ox,mx,hx⟩:=a.oq;refine⟨q,a.ik,a.qm,by rw[e1 m mc];exact a.pq,dJ.2 (by rw[e1 q qc];exact dJ.1 a.lq),x,by rw[of',aI qc];exact ox,memk x m (hv.iv.dj a.ik ox).2.1 mx,λe=>?_⟩;rw[of',aI mc];exact hx ((hdn m hm mc ((hv.kj.of m hm).2 s)).1 e)
 have c0':(0:Nat)≠c:=λe=>by subst e;have:=dJ.1 h.l0;omega
 refine⟨⟨vi',λm hm lm hd1=>?_,λm hm m0 s=>?_,vi'.h0⟩,ppo,dJ.2 (by rw[e1 0 c0'];exact dJ.1 h.l0),by rw[e1 0 c0'];exact h.p0,λm x hm s hd1 o u hu um=>?_⟩
 .by_cases mc:m=c
  .subst mc;rw[e2];exact MR _
  .rw[e1 m mc];have lk:lv k m=bE:=dJ.2 (by rw[<-e1 m mc];exact dJ.1 lm);exact h.ki.fi m hm lk (λe=>hd1 ((hdn m hm mc ((hv.kj.of m hm).2 (by rw[dJ.1 lk];omega))).2 e))
 .obtain⟨q,a⟩:=ppo m hm m0 s;exact⟨q,a.ik,a.qm,a.pq⟩
 .have mc:m≠c:=λe=>by
   subst e;rw[e2]at s;have:(k2.p n).st=2:=s;rw[ep]at this;omega
  rw[e1 m mc]at s;rw[of',aI mc]at o;have x6:=(hv.iv.dj hm o).2;have hdm:=(hdn m hm mc bG).1 hd1;by_cases uc:u=c
  .exfalso;subst uc;have a:=(vi'.iv.mem_of x6.1 hu um).2;rw[of',aJ rfl,show z+1-1=z by omega]at a;have yx:Sp.mem k.sp x n:=by
    refine gd x n x6.1 nc ((vi'.iv.has x n x6.1 hn).2 ⟨by rw[of',aI nc];omega,?_⟩);rw[of',aI nc,oy,show y+1-1=y by omega];rcases hz with⟨e,_⟩|⟨ne,e,hf,_⟩
    .rw[<-e];exact a
    .rw[vi'.iv.tree.step z6 (by rw[esp,(Sp.lG z6 zh hc o0).1];exact zh)]at a;rcases List.mem_cons.1 a with e3|a
     .subst e3;rw[x6.2]at hf;cases hf
     .rw[esp,(Sp.lG z6 zh hc o0).2,e]at a;rw[esp];exact a
   have:=h.ge m x hm s hdm o n hn yx;subst this;omega
  .exact h.ge m x hm s hdm o u hu (gd x u x6.1 uc um)
end
end Kn
namespace Kn
theorem T9(h:us {s with k:=dI s.k n} i):us s i:=by
 obtain⟨T,eT⟩:=kC {s.k with bk:=Mv.eJ (s.k.p n).mem s.k.bk 16} (s.k.p n).fd 6;have e3:dI s.k n={s.k with bk:=Mv.eJ (s.k.p n).mem s.k.bk 16,fi:=T}:=eT;rw[e3]at h;exact h
theorem tf(k:Kp)(n:Nat):(dI k n).sp=k.sp/\(dI k n).sc=k.sc/\(dI k n).p=k.p:=by
 obtain⟨T,eT⟩:=kC {k with bk:=Mv.eJ (k.p n).mem k.bk 16} (k.p n).fd 6;have e3:dI k n={k with bk:=Mv.eJ (k.p n).mem k.bk 16,fi:=T}:=eT;rw[e3];exact⟨rfl,rfl,rfl⟩
theorem Qs(h:Gr.gY k.gr Wy (k.p n).cJ 1 (Mv.cX (k.p n).mem 16:Int)≠0):({k with gr:=Gr.gD k.gr Wy (k.p n).cJ 1 (Mv.cX (k.p n).mem 16:Int)}:Kp)=k:=by
 unfold Gr.gD;rw[aI h]
theorem ql{t:Nat->Gr.Gp}(h:Gr.Tree t Wy N)(g p q:Int)(hp:p<=64)(hq:q<=64):Gr.Tree (Gr.gD t Wy g p q) Wy (N+1):=by
 unfold Gr.gD;by_cases e:Gr.gY t Wy g p q=0
 .rw[aJ e];have hr:Gr.eC t g p q=0:=by
   unfold Gr.gY at e;by_cases r:Gr.eC t g p q=0
   .exact r
   .rw[aI r]at e;exact aZ e r
  obtain⟨n,rfl,hn,hh,_,_⟩:=Gr.lP hr;rw[hZ];have o:=h.own n hn;obtain⟨hp,hq⟩:=Gr.oJ hr;exact h.gx bG ⟨by omega,bG⟩ ⟨by omega,bG⟩
 .rw[aI e];exact h.mono bG
def dh(k:Kp)(Wy:Nat->List (Fin 10))(n:Nat):Kp:={k with gr:=Gr.gD k.gr Wy (k.p n).cJ 1 (Mv.cX (k.p n).mem 16:Int)}
def qk(k:Kp)(Wy:Nat->List (Fin 10))(n:Nat):Int:=Gr.gY k.gr Wy (k.p n).cJ 1 (Mv.cX (k.p n).mem 16:Int)
def qV(k:Kp)(z:Int)(own:Bool)(p:Nat)(E:Int)(k':Kp):Prop:=
 (cH k z≠0/\E=cH k z/\p=0/\k'=k)\/
 (cH k z=0/\∃n c F Wy,z=((n:Nat):Int)/\n<20/\gJ k c F/\Gr.fH k.gr Wy/\
  ((F≠0/\E=F/\p=0/\k'=k)\/(F=0/\qk k Wy n≠0/\E=qk k Wy n/\p=0/\k'=k)\/
   (F=0/\qk k Wy n=0/\jC (dh k Wy n) n own≠0/\E=jC (dh k Wy n) n own/\p=0/\k'={dh k Wy n with gr:=Gr.dG (dh k Wy n).gr (k.p n).cJ 1 (Mv.cX (k.p n).mem 16:Int)})\/
   (F=0/\qk k Wy n=0/\jC (dh k Wy n) n own=0/\E=0/\∃m',Wf.jw (Wf.eA (fP (dh k Wy n) n own).sc (c:Int) (k.p n).cJ) (c:Int) bE m'/\
    k'=iQ (dI (fP (dh k Wy n) n own) n) c (eU (fP (dh k Wy n) n own) n) (mU (dh k Wy n) n own:Int) m'/\p=Sp.mA k'.sp (c:Int) (Sp.dV k'.sp (n:Int):Nat))))
theorem Kb(k:Kp)(n:Nat)(own:Bool):(fP k n own).p=k.p/\(fP k n own).bk=k.bk/\(fP k n own).fi=k.fi/\(fP k n own).sc=k.sc:=by
 unfold fP;split<;>exact⟨rfl,rfl,rfl,rfl⟩
end Kn
section
variable (VK N:Nat)(d:Nat->Nat)(s:St)(w:bD)
theorem Kl(hN:N<=900)(z:Int)(own:Bool)(h:bT w VK s)(hb:VK<=w.heap.size)(hv:VI (λ_=>False) N d s.k):
  Calls prog 18 #[ai (bB ⟨s.A 0,0,bC⟩),aa bf z, .bool own] w λe w'=>∃(p:Nat) (E:Int) (s':St),e=bw (ao #[aa bf (p:Int),bS E])/\Kn.qV s.k z own p E s'.k/\bT w' VK s'/\KF s w s' w':=by
 have AC:=hJ (dX VK s w z h);have H:=hJ (aK h (aK hv (aK hb hN)));obtain⟨kb,hkb⟩:=hU (s.A 0);have HK:=hJ hkb;by_cases a:Kn.cH s.k z=0
 .obtain⟨n,rfl,hn,hl⟩:=Kn.fY a;have HA:=hJ (aK a hl);have st1:(s.k.p n).st=1:=by unfold Kn.lv at hl;simpa using hl
  have hh:=hv.kj.lv n hn (λx=>x) st1;obtain⟨y,hy⟩:∃y,s.k.sp.of n=y+1:=⟨s.k.sp.of n-1,by have:=(hv.kj.of n hn).2 bG;omega⟩;have HH:=hJ (aK hh hy);obtain⟨Wy,hWy⟩:=hv.kj.gr;have HW:=hJ hWy;rw[a,bN,iG]at AC;have FRE:=hJ (Iw VK s w h);have c4:=h.rM n hn hh;have RS:=hJ (pN (s.A (9+n)) (s.A 4) (s.k.p n).mem w (h.me n hn hh));have RL:=hJ (YtpmmdkcfenjiaaaGreatDoor.qb (s.k.p n).mem 16);rw[hkb]at AC FRE c4|-;generalize s.A (9+n)=m9 at c4 RS;go_in
  go_wp2_with fail
  refine sC AC.v ?_;rintro w1 hw;subst w1;go_wp2_with fail
  refine FRE.mono ?_;rintro e w1 ⟨c,F,rfl,hF,hw⟩;subst w1;have HF:=hJ hF;by_cases f0:F=0
  .subst f0;rw[bN];have j4:c<20:=by
    rcases HF.v with q|q
    .exact q.2.1
    .omega
   have c20I:(c:Int)<20:=bG
   go_wp2_with fail
   refine sC RS.v ?_;rintro w1 b1;have S1:Hid (bT w1 VK s/\KF s w s w1/\VK<=w1.heap.size):=hJ ⟨H.1.below b1,KF.below b1,aH H.2.2.1 b1.size⟩;obtain⟨rr,hrr⟩:=hU (Mv.cX (s.k.p n).mem 16);have HRR:=hJ hrr;rw[hrr]at RL|-;have rl:=RL.v;go_upto_region 8 with fail
   have K0:Hid (w1.cell? ⟨kb,247,bC⟩=bB (ai (bB ⟨s.A 2,0,bC⟩))/\w1.cell? ⟨kb,n*12+2,bC⟩=bB (aa bf (s.k.p n).cJ)):=hJ (by rw[<-HK.v];exact⟨S1.1.pP,S1.1.qj n hn⟩);have CG:=hJ (Gr.nO (s.A 2) (s.k.p n).cJ 1 (rr:Int) s.k.gr Wy w1.drew S1.1.drew.gr HW.ways (HW.small (by have:=H.2.2.2;omega)));have A4:Hid (∀w4,Gr.cC w4 (s.A 2) (Gr.gD s.k.gr Wy (s.k.p n).cJ 1 (rr:Int))->Gr.bO (s.A 2) w1.drew w4->bT w4 VK {s with k:=Kn.dh s.k Wy n}/\KF s w {s with k:=Kn.dh s.k Wy n} w4/\VK<=w4.heap.size/\w4.cell? ⟨kb,247,bC⟩=bB (ai (bB ⟨s.A 2,0,bC⟩))/\w4.cell? ⟨kb,n*12+2,bC⟩=bB (aa bf (s.k.p n).cJ)):=hJ (λw4 t4 f4=>by
    have q:=S1.1.drew.j8 t4 f4.sI;have e:({s.k with gr:=Gr.gD s.k.gr Wy (s.k.p n).cJ 1 (rr:Int)}:Kp)=Kn.dh s.k Wy n:=by unfold Kn.dh;rw[HRR.v]
    rw[e]at q;refine⟨q.1,S1.2.1.trans ((KF.drew _ _).trans q.2),aH S1.2.2 q.2.ie.size,?_⟩;rw[<-HK.v];exact⟨q.1.pP,q.1.qj n hn⟩)
   have HE:Hid (Kn.qk s.k Wy n=Gr.gY s.k.gr Wy (s.k.p n).cJ 1 (rr:Int)):=hJ (by unfold Kn.qk;rw[HRR.v]);obtain⟨gz,hgz⟩:=hU ((s.k.p n).cJ);obtain⟨g2,hg2⟩:=hU (s.A 2);have HG:=hJ (aK hgz hg2);rw[hgz,hg2]at CG K0 A4;rw[hgz]at HE;obtain⟨ce,hce⟩:=hU (Gr.gY s.k.gr Wy gz 1 (rr:Int));rw[hce]at CG HE;rw[show Gr.bS ce=bS ce from rfl]at CG;obtain⟨y1,y2⟩:=K0.v;go_region_held3 (λw'=>w'.cell? ⟨kb,247,bC⟩=bB (ai (bB ⟨g2,0,bC⟩))/\w'.cell? ⟨kb,n*12+2,bC⟩=bB (aa bf gz)) (first|exact K0.v|exact S4.2.2.2) (
    (go_at_call 65;refine sC CG.v ?_;rintro w4 ⟨t4,f4⟩;have S4:=hJ (A4.v w4 t4 f4)))
   by_cases e0:ce=0
   .subst e0;rw[bN];have VI1:Hid (VI (λ_=>False) (N+1) d (Kn.dh s.k Wy n)):=hJ ⟨(H.2.1.kj.mono (λ_ _ e=>e) (Nat.le_succ N)).j8 ⟨Wy,Kn.ql HW.v _ _ _ bG (by have:=RL.v;rw[HRR.v];omega)⟩,H.2.1.iv,H.2.1.hs⟩;have HM:=hJ (Km VK (N+1) d {s with k:=Kn.dh s.k Wy n} w4 n y own S4.1 S4.2.2.1 VI1.v hn HH.2);rw[show({s with k:=Kn.dh s.k Wy n}:St).A 0=kb from HK.v]at HM;go_wp2_with fail
    refine HM.mono ?_;rintro e w5 ⟨s2,rfl,e2,k2,f2⟩;have S5:Hid (s2.k=Kn.fP (Kn.dh s.k Wy n) n own/\bT w5 VK s2/\KF s w s2 w5/\VK<=w5.heap.size/\s2.A 0=kb):=hJ ⟨e2,k2,S4.2.1.trans f2,aH S4.2.2.1 f2.ie.size,f2.a0.trans HK.v⟩;have HE2:Hid (Kn.jC ({s with k:=Kn.dh s.k Wy n}:St).k n own=Kn.jC (Kn.dh s.k Wy n) n own):=hJ rfl;obtain⟨he,hhe⟩:=hU (Kn.jC ({s with k:=Kn.dh s.k Wy n}:St).k n own);obtain⟨hz,hhz⟩:=hU (Kn.mU ({s with k:=Kn.dh s.k Wy n}:St).k n own);have HHE:Hid (Kn.jC (Kn.dh s.k Wy n) n own=he/\Kn.mU (Kn.dh s.k Wy n) n own=hz):=hJ ⟨hhe,hhz⟩;rw[hhe,hhz];by_cases h0:he=0
    .subst h0;rw[bN];have P2:Hid (s2.k.p=s.k.p/\s2.k.bk=s.k.bk/\s2.k.fi=s.k.fi/\s2.k.sc=s.k.sc):=hJ (by rw[S5.1];exact Kn.Kb _ n own);have CH:=hJ (Im VK s2 w5 n S5.2.1 hn (by rw[P2.1];exact HH.1) (by rw[P2.1,P2.2.1];exact H.2.1.kj.me) (λf hf=>by
      rw[P2.2.2.1];have:=H.2.1.kj.rf f hf;have:=H.2.2.2;have e1:(2:Nat)^50=1125899906842624:=by decide
      omega))
     rw[S5.2.2.2.2]at CH;have INV:Hid (∃d2,Sp.Inv s2.k.sp d2):=hJ (by
      rw[S5.1];cases own
      .rw[(Kn.Ad _ n).1];exact⟨d,VI1.iv⟩
      .have iz:Sp.dV (Kn.dh s.k Wy n).sp (n:Int)=y:=Sp.gM hn HH.2;have ea:Sp.iN (Kn.dh s.k Wy n).sp (y:Int)=0:=by have:=HHE.1;unfold Kn.jC at this;rw[aJ rfl,iz]at this;exact this
       rw[(Kn.xk iz ea rfl).1];exact(VI1.kj.Lc ea rfl).sp)
     go_wp2_with fail
     refine CH.mono ?_;rintro e w6 ⟨mb,bb,rfl,k6,f6,um,ub,lm,lb,mn⟩;obtain⟨d2,hd2⟩:=INV.v;have LT:Hid (∀i,us {s2 with k:=Kn.dI s2.k n} i->s2.A i<w5.heap.size):=hJ (λi hi=>S5.2.1.lt (Kn.T9 hi));have ST:=hJ (yO VK {s2 with k:=Kn.dI s2.k n} w6 c mb bb (Kn.eU s2.k n) (hz:Int) d2 k6 j4 (by rw[(Kn.tf s2.k n).1];exact hd2) um ub (λi hi=>by have:=LT.v i hi;show s2.A i≠mb;omega) (λi hi=>by have:=LT.v i hi;show s2.A i≠bb;omega) mn (by have:=S5.2.2.2.1;omega) (by have:=S5.2.2.2.1;omega));rw[show({s2 with k:=Kn.dI s2.k n}:St).A 0=kb from S5.2.2.2.2]at ST;have S6:Hid (KF s w {s2 with k:=Kn.dI s2.k n} w6/\w5.heap.size<=mb/\w5.heap.size<=bb/\w.heap.size<=w5.heap.size):=hJ ⟨S5.2.2.1.trans f6,lm,lb,S5.2.2.1.ie.size⟩;obtain⟨PA,hPA⟩:=hU (dW mb bb (Kn.eU s2.k n));rw[hPA]at ST|-;go_wp2_with fail
     refine ST.mono ?_;rintro e w7 ⟨m',rfl,wk,k7,o7⟩;have S7:Hid (Wf.jw (Wf.eA (Kn.fP (Kn.dh s.k Wy n) n own).sc (c:Int) (s.k.p n).cJ) (c:Int) bE m'/\bT w7 VK {Kn.ec {s2 with k:=Kn.dI s2.k n} c mb bb (Kn.eU s2.k n)with k:=Kn.iQ (Kn.dI (Kn.fP (Kn.dh s.k Wy n) n own) n) c (Kn.eU (Kn.fP (Kn.dh s.k Wy n) n own) n) (hz:Int) m'}/\KF s w {Kn.ec {s2 with k:=Kn.dI s2.k n} c mb bb (Kn.eU s2.k n)with k:=Kn.iQ (Kn.dI (Kn.fP (Kn.dh s.k Wy n) n own) n) c (Kn.eU (Kn.fP (Kn.dh s.k Wy n) n own) n) (hz:Int) m'} w7):=hJ (by
      have w2:Wf.jw (Wf.eA (Kn.dI s2.k n).sc (c:Int) (s2.k.p n).cJ) (c:Int) bE m':=wk;rw[(Kn.tf s2.k n).2.1,P2.1,S5.1]at w2;have k8:bT w7 VK {Kn.ec {s2 with k:=Kn.dI s2.k n} c mb bb (Kn.eU s2.k n)with k:=Kn.iQ (Kn.dI s2.k n) c (Kn.eU s2.k n) (hz:Int) m'}:=k7;have f8:KF s w {Kn.ec {s2 with k:=Kn.dI s2.k n} c mb bb (Kn.eU s2.k n)with k:=Kn.iQ (Kn.dI s2.k n) c (Kn.eU s2.k n) (hz:Int) m'} w7:=by
       refine⟨⟨o7.os.trans S6.1.ie.os,o7.tape.trans S6.1.ie.tape,o7.output.trans S6.1.ie.output,aH S6.1.ie.size o7.size,λb hb hc=>(o7.block b (aD hb S6.1.ie.size) (λq=>(S6.1.sub b q).elim hc (λq=>bG))).trans (S6.1.ie.block b hb hc)⟩,λb ⟨i,hi,eb⟩=>?_,(Kn.fa {s2 with k:=Kn.dI s2.k n} c mb bb (Kn.eU s2.k n) (i:=0) bG bG).trans S6.1.a0⟩;have hi2:us (Kn.ec {s2 with k:=Kn.dI s2.k n} c mb bb (Kn.eU s2.k n)) i:=hi;rcases Kn.wB hi2 with rfl|rfl|⟨ui,i1,i2⟩
       .exact .inr (by rw[eb,show({Kn.ec {s2 with k:=Kn.dI s2.k n} c mb bb (Kn.eU s2.k n)with k:=Kn.iQ (Kn.dI s2.k n) c (Kn.eU s2.k n) (hz:Int) m'}:St).A (9+c)=mb from Kn.ng {s2 with k:=Kn.dI s2.k n} c mb bb (Kn.eU s2.k n)];have:=S6.2;omega)
       .exact .inr (by rw[eb,show({Kn.ec {s2 with k:=Kn.dI s2.k n} c mb bb (Kn.eU s2.k n)with k:=Kn.iQ (Kn.dI s2.k n) c (Kn.eU s2.k n) (hz:Int) m'}:St).A (29+c)=bb from Kn.mZ {s2 with k:=Kn.dI s2.k n} c mb bb (Kn.eU s2.k n)];have:=S6.2;omega)
       .exact S6.1.sub b ⟨i,ui,eb.trans (Kn.fa {s2 with k:=Kn.dI s2.k n} c mb bb (Kn.eU s2.k n) i1 i2)⟩
      rw[S5.1]at k8 f8;rw[S5.1];exact⟨w2,k8,f8⟩)
     obtain⟨s3,hs3⟩:=hU (({Kn.ec {s2 with k:=Kn.dI s2.k n} c mb bb (Kn.eU s2.k n)with k:=Kn.iQ (Kn.dI (Kn.fP (Kn.dh s.k Wy n) n own) n) c (Kn.eU (Kn.fP (Kn.dh s.k Wy n) n own) n) (hz:Int) m'}:St));have HS3:Hid (s3.k=Kn.iQ (Kn.dI (Kn.fP (Kn.dh s.k Wy n) n own) n) c (Kn.eU (Kn.fP (Kn.dh s.k Wy n) n own) n) (hz:Int) m'/\s3.A 0=kb):=hJ (by
      rw[<-hs3];exact⟨rfl,(Kn.fa {s2 with k:=Kn.dI s2.k n} c mb bb (Kn.eU s2.k n) (i:=0) bG bG).trans S5.2.2.2.2⟩)
     rw[hs3]at S7;have W0:Hid (∀q,q<6->s3.k.sp.cD q 0=0):=hJ (by
      rw[HS3.1];have q:Sp.Inv (Sp.fO (Kn.dI (Kn.fP (Kn.dh s.k Wy n) n own) n).sp (hz:Int) (c:Int)) d2:=by
       rw[(Kn.tf _ n).1,<-S5.1];exact hd2.enter _ _
      exact q.qQ)
     have SP:=hJ (iK VK s3 w7 (n:Int) S7.2.1);have PI:=hJ (Dq VK s3 w7 (c:Int) ((Sp.dV s3.k.sp (n:Int):Nat):Int) S7.2.1 W0.v);rw[HS3.2]at SP PI;obtain⟨pp,hpp⟩:=hU (Sp.mA s3.k.sp (c:Int) ((Sp.dV s3.k.sp (n:Int):Nat):Int));have HPP:=hJ hpp;rw[hpp]at PI;generalize Sp.dV s3.k.sp (n:Int)=ss at SP PI;go_wp2_with fail
     refine sC SP.v ?_;rintro w8 hw;subst w8;go_wp2_with fail
     refine sC PI.v ?_;rintro w8 hw;subst w8;go_wp2
     go_ret2
     refine⟨pp,0,s3,by rw[bN];rfl, .inr ⟨HA.1,n,c,0,Wy,rfl,hn,HF.v,HW.ways, .inr (.inr (.inr ⟨rfl,HE.v,HHE.1,rfl,m',S7.1,by rw[HHE.2];exact HS3.1,HPP.symm⟩))⟩,S7.2⟩
    .have E2:Hid (s2.k=Kn.dh s.k Wy n):=hJ (by
      rw[S5.1];unfold Kn.fP;rw[aI (λq=>h0 (by rw[<-HHE.1];exact q.2))])
     have HEV:=hJ (aK h0 (bP h0));rw[bP h0];go_upto_region 13 with fail
     have K0:Hid (w5.cell? ⟨kb,247,bC⟩=bB (ai (bB ⟨s2.A 2,0,bC⟩))/\w5.cell? ⟨kb,n*12+2,bC⟩=bB (aa bf gz)):=hJ (by
      have q:=S5.2.1.qj n hn;rw[E2.v]at q;have q2:w5.cell? ⟨s2.A 0,n*12+2,bC⟩=bB (aa bf (s.k.p n).cJ):=q;rw[<-S5.2.2.2.2,<-HG.1];exact⟨S5.2.1.pP,q2⟩)
     have CG:=hJ (Gr.iS (s2.A 2) gz 1 (rr:Int) s2.k.gr w5.drew S5.2.1.drew.gr (by rw[E2.v];obtain⟨Wy2,g⟩:=VI1.kj.gr;exact g.small (by have:=H.2.2.2;omega)));have A4:Hid (∀w6,Gr.cC w6 (s2.A 2) (Gr.dG s2.k.gr gz 1 (rr:Int))->Gr.bO (s2.A 2) w5.drew w6->bT w6 VK {s2 with k:={s2.k with gr:=Gr.dG s2.k.gr gz 1 (rr:Int)}}/\KF s w {s2 with k:={s2.k with gr:=Gr.dG s2.k.gr gz 1 (rr:Int)}} w6/\w6.cell? ⟨kb,247,bC⟩=bB (ai (bB ⟨s2.A 2,0,bC⟩))/\w6.cell? ⟨kb,n*12+2,bC⟩=bB (aa bf gz)):=hJ (λw6 t4 f4=>by
      have q:=S5.2.1.drew.j8 t4 f4.sI;have q3:=q.1.qj n hn;have q2:w6.cell? ⟨s2.A 0,n*12+2,bC⟩=bB (aa bf (s2.k.p n).cJ):=q3;rw[E2.v]at q2;have q4:w6.cell? ⟨s2.A 0,n*12+2,bC⟩=bB (aa bf (s.k.p n).cJ):=q2;refine⟨q.1,S5.2.2.1.trans ((KF.drew _ _).trans q.2),?_⟩;rw[<-S5.2.2.2.2,<-HG.1];exact⟨q.1.pP,q4⟩)
     obtain⟨g3,hg3⟩:=hU (s2.A 2);rw[hg3]at CG K0 A4;generalize Gr.bS (Gr.gj s2.k.gr gz 1 (rr:Int))=uv at CG;obtain⟨y1,y2⟩:=K0.v;go_region_held3 (λw'=>w'.cell? ⟨kb,247,bC⟩=bB (ai (bB ⟨g3,0,bC⟩))/\w'.cell? ⟨kb,n*12+2,bC⟩=bB (aa bf gz)) (first|exact K0.v|exact S6.2.2) (
      (go_at_call 67;refine sC CG.v ?_;rintro w6 ⟨t4,f4⟩;have S6:=hJ (A4.v w6 t4 f4)))
     go_wp2
     go_ret2
     refine⟨0,he,_,by rw[HEV.2];rfl, .inr ⟨HA.1,n,c,0,Wy,rfl,hn,HF.v,HW.ways, .inr (.inr (.inl ⟨rfl,HE.v,by rw[HHE.1];exact HEV.1,HHE.1.symm,rfl,?_⟩))⟩,S6.1,S6.2.1⟩;show({s2.k with gr:=Gr.dG s2.k.gr gz 1 (rr:Int)}:Kp)=_;rw[E2.v,HRR.v,HG.1]
   .have E0:Hid (Kn.dh s.k Wy n=s.k):=hJ (by
     have q:Gr.gY s.k.gr Wy (s.k.p n).cJ 1 (Mv.cX (s.k.p n).mem 16:Int)≠0:=by have:=HE.v;unfold Kn.qk at this;rw[this];exact e0
     exact Kn.Qs q)
    have HEV:=hJ (aK e0 (bP e0));rw[bP e0];go_wp2
    go_ret2
    refine⟨0,ce,s,by rw[HEV.2];rfl, .inr ⟨HA.1,n,c,0,Wy,rfl,hn,HF.v,HW.ways, .inr (.inl ⟨rfl,by rw[HE.v];exact HEV.1,HE.symm,rfl,rfl⟩)⟩,?_⟩;have q:=aK S4.1 S4.2.1;rw[E0.v]at q;exact q
  .have HEV:=hJ (aK f0 (bP f0));rw[bP f0];go_wp2
   go_ret2
   exact⟨0,F,s,by rw[HEV.2];rfl, .inr ⟨HA.1,n,c,F,Wy,rfl,hn,HF.v,HW.ways, .inl ⟨HEV.1,rfl,rfl,rfl⟩⟩,H.1,KF.refl _ _⟩
 .have FIN:Hid (Kn.qV s.k z own 0 (Kn.cH s.k z) s.k):=hJ (.inl ⟨a,rfl,rfl,rfl⟩);have HE:=hJ (bP a);rw[bP a]at AC;generalize gW (s.A 0) z (Kn.cH s.k z)=ap at*;rw[hkb]at AC|-;go_in
  go_wp2_with fail
  refine sC AC.v ?_;rintro w1 hw;subst w1;go_wp2
  go_ret2
  exact⟨0,Kn.cH s.k z,s,by rw[HE.v];rfl,FIN.v,H.1,KF.refl _ _⟩
end
theorem PB.rE(h:PB w c a b x)(hf:f<6)(v:Int):PB (w.setCell ⟨c,6+f,bC⟩ (aa bf v)) c a b {x with fd:=λi=>if i=f then v else x.fd i}:=h.set bG (λj hj=>by
 unfold Kn.fB;by_cases e:j=6+f
 .rw[aJ e,nJ,nJ,nJ,nJ,nJ,nJ];simp[show j-6=f by omega]
 .rw[aI e];by_cases d:j<6
  .have q:j=0\/j=1\/j=2\/j=3\/j=4\/j=5:=bG
   rcases q with rfl|rfl|rfl|rfl|rfl|rfl<;>rfl
  .rw[nJ,nJ,nJ,nJ,nJ,nJ];simp[show j-6≠f by omega,show j≠0 by omega,show j≠1 by omega,show j≠2 by omega,show j≠3 by omega,show j≠4 by omega,show j≠5 by omega])
def Kn.ia(j:Nat):Pr:=⟨1,-1,0,0,λi=>if i<j then -1 else 0,bE,Mv.j5,Sg.gC⟩
theorem Kn.Nk(j:Nat):({Kn.ia j with fd:=λi=>if i=j then -1 else(Kn.ia j).fd i}:Pr)=Kn.ia (j+1):=by
 have key:(λi=>if i=j then(-1:Int)else(Kn.ia j).fd i)=(Kn.ia (j+1)).fd:=funext λi=>by
  show _=if i<j+1 then(-1:Int)else 0;by_cases e:i=j
  .rw[aJ e,nK]
  .rw[aI e];show(if i<j then(-1:Int)else 0)=_;by_cases c:i<j
   .rw[aJ c,nK]
   .rw[aI c,nJ]
 rw[key];rfl
theorem Tu(a b:Nat):dW a b (Kn.ia 0)=#[aa bf 1,aa bf (-1),aa bf 0,aa bf 0,ai (bB ⟨a,0,bC⟩),ai (bB ⟨b,0,bC⟩),aa bf 0,aa bf 0,aa bf 0,aa bf 0,aa bf 0,aa bf 0]:=rfl
structure FO (w:bD)(r rb c mb bb j:Nat)(W:bD):Prop where
 pb:PB W c mb bb (Kn.ia j)
 rs:PB W rb 0 0 Pr.no
 um:du W mb r Mv.j5
 ub:CX W bb Sg.gC
 bl:Below w.heap.size w W
 ge:w.heap.size<=rb/\w.heap.size<=c/\w.heap.size<=mb/\w.heap.size<=bb
 ne:mb≠bb/\rb≠c/\rb≠mb/\rb≠bb/\c≠mb/\c≠bb
theorem FO.next{r:Nat}{W:bD}(h:FO w r rb c mb bb j W)(hj:j<6):FO w r rb c mb bb (j+1) (W.setCell ⟨c,6+j,bC⟩ (aa bf (-1))):=by
 have fr:bO c W (W.setCell ⟨c,6+j,bC⟩ (aa bf (-1))):=(bO.refl _ _).setCell _ _;have n:=h.ne;have g:=h.ge;refine⟨by rw[<-Kn.Nk];exact h.pb.rE hj _,h.rs.same (fr.block _ h.rs.lt bG),h.um.same (fr.block _ h.um.lt bG),h.ub.same (fr.block _ h.ub.lt bG),fr.below h.bl g.2.1 (by have:=h.bl.size;omega),g,n⟩
theorem MH(w:bD):CX (w.alloc (bA (gR Sg.gC) 235)) w.heap.size Sg.gC/\Below w.heap.size w (w.alloc (bA (gR Sg.gC) 235)):=
 ⟨CX.Lb (heap_alloc_new w _),(aQ _ _).alloc (aL _) _⟩
theorem Ip(kb r:Nat)(w:bD)(hc:w.cell? ⟨kb,249,bC⟩=bB (ai (bB ⟨r,0,bC⟩)))(hk:kb<w.heap.size):
  Calls prog 91 #[ai (bB ⟨kb,0,bC⟩)] w λe w'=>∃mb bb,e=bw (au (dW mb bb (Kn.ia 6)))/\du w' mb r Mv.j5/\CX w' bb Sg.gC/\Below w.heap.size w w'/\w.heap.size<=mb/\w.heap.size<=bb/\mb≠bb:=by
 have b0:Below w.heap.size w (w.alloc (bA #[aa bf 0,aa bf 0,aa bf 0,aa bf 0,ai bC,ai bC,aa bf 0,aa bf 0,aa bf 0,aa bf 0,aa bf 0,aa bf 0] 74)):=(aQ _ _).alloc (aL _) _;have c0:(w.alloc (bA #[aa bf 0,aa bf 0,aa bf 0,aa bf 0,ai bC,ai bC,aa bf 0,aa bf 0,aa bf 0,aa bf 0,aa bf 0,aa bf 0] 74)).cell? ⟨kb,249,bC⟩=bB (ai (bB ⟨r,0,bC⟩)):=(aV (b0.block kb hk)).trans hc;have R0:Hid (PB (w.alloc (bA #[aa bf 0,aa bf 0,aa bf 0,aa bf 0,ai bC,ai bC,aa bf 0,aa bf 0,aa bf 0,aa bf 0,aa bf 0,aa bf 0] 74)) w.heap.size 0 0 Pr.no/\Below w.heap.size w (w.alloc (bA #[aa bf 0,aa bf 0,aa bf 0,aa bf 0,ai bC,ai bC,aa bf 0,aa bf 0,aa bf 0,aa bf 0,aa bf 0,aa bf 0] 74))):=hJ ⟨by unfold PB;rw[yS];exact heap_alloc_new w _,b0⟩;go_in
 go_wp2_with fail
 refine(O3 r _).mono ?_;rintro e w1 ⟨rfl,u1,b1⟩;rw[show(w.alloc (bA #[aa bf 0,aa bf 0,aa bf 0,aa bf 0,ai bC,ai bC,aa bf 0,aa bf 0,aa bf 0,aa bf 0,aa bf 0,aa bf 0] 74)).heap.size=w.heap.size+1 by simp]at u1 b1|-;have S1:Hid (PB w1 w.heap.size 0 0 Pr.no/\du w1 (w.heap.size+1) r Mv.j5/\Below w.heap.size w w1):=hJ ⟨R0.1.same (b1.block _ bG),u1,R0.2.trans (b1.mono bG)⟩;obtain⟨rb,hrb⟩:=hU (w.heap.size);have HR:=hJ hrb;rw[hrb]at S1|-;go_upto_region 2 with(refine ES rfl rfl ?_)
 have F0:Hid (FO w r rb (w1.heap.size+1) (rb+1) w1.heap.size 0 ((w1.alloc (bA (gR Sg.gC) 235)).alloc (bA #[aa bf 1,aa bf (-1),aa bf 0,aa bf 0,ai (bB ⟨rb+1,0,bC⟩),ai (bB ⟨w1.heap.size,0,bC⟩),aa bf 0,aa bf 0,aa bf 0,aa bf 0,aa bf 0,aa bf 0] 74))):=hJ (by
  have l1:=S1.2.1.lt;have bx:=MH w1;have bz:(w1.alloc (bA (gR Sg.gC) 235)).heap.size=w1.heap.size+1:=by simp
  have b2:Below (w1.alloc (bA (gR Sg.gC) 235)).heap.size (w1.alloc (bA (gR Sg.gC) 235)) ((w1.alloc (bA (gR Sg.gC) 235)).alloc (bA #[aa bf 1,aa bf (-1),aa bf 0,aa bf 0,ai (bB ⟨rb+1,0,bC⟩),ai (bB ⟨w1.heap.size,0,bC⟩),aa bf 0,aa bf 0,aa bf 0,aa bf 0,aa bf 0,aa bf 0] 74)):=(aQ _ _).alloc (aL _) _;have b3:=bx.2.trans (b2.mono bG);have N:=heap_alloc_new (w1.alloc (bA (gR Sg.gC) 235)) (bA #[aa bf 1,aa bf (-1),aa bf 0,aa bf 0,ai (bB ⟨rb+1,0,bC⟩),ai (bB ⟨w1.heap.size,0,bC⟩),aa bf 0,aa bf 0,aa bf 0,aa bf 0,aa bf 0,aa bf 0] 74);rw[bz]at N;have bb0:Below w.heap.size w w1:=by rw[HR.v];exact S1.2.2
  exact⟨by unfold PB;rw[Tu];exact N,S1.1.same (b3.block _ S1.1.lt),S1.2.1.below b3,bx.1.below b2 bG,bb0.trans (b3.mono bb0.size),by rw[HR.v];omega,bG⟩)
 generalize (w1.alloc (bA (gR Sg.gC) 235)).alloc (bA #[aa bf 1,aa bf (-1),aa bf 0,aa bf 0,ai (bB ⟨rb+1,0,bC⟩),ai (bB ⟨w1.heap.size,0,bC⟩),aa bf 0,aa bf 0,aa bf 0,aa bf 0,aa bf 0,aa bf 0] 74)=W2 at F0|-;obtain⟨mb,hmb⟩:=hU (rb+1);obtain⟨c,hcc⟩:=hU (w1.heap.size+1);obtain⟨bb,hbb⟩:=hU (w1.heap.size);rw[hmb,hcc,hbb]at F0|-;go_wp2_with fail
 go_loopw [4,13] (λ_ i wr=>∃(j:Nat),i=aa bf j/\j<=6/\Hid (FO w r rb c mb bb j wr)) (λ_ i _=>6-(intOf i).toNat)
 case atStart=>exact⟨0,rfl,bG,F0⟩
 case round=>
  obtain⟨j,rfl,hj6,S⟩:=hrel;by_cases hlt:j<6
  .have hltI:(j:Int)<6:=bG
   have y1:=S.pb.cell (6+j) bG;have yf:=S.pb.frozen;generalize Kn.fB mb bb (Kn.ia j) (6+j)=pv at y1;have S1:=hJ (S.next hlt);go_wp2
   go_roundw
   case rel=>exact⟨j+1,by go_num,bG,S1⟩
   case measure=>simp[intOf];omega
  .obtain rfl:j=6:=bG
   obtain⟨B,hB⟩:=hU (dW mb bb (Kn.ia 6));have RG:Hid (wr.rangeAt c 0 B.toList):=hJ (by rw[<-hB];exact S.pb.range);have SL:Hid ((prog.info? 74).map (·.size)=bB B.toList.length):=hJ (by rw[<-hB,aB,dM];kernel_rfl);have SZ:Hid ((prog.info? 74).map (·.size)=bB B.size):=hJ (by rw[<-hB,dM];kernel_rfl);have TH:Hid (wr.there rb 0 B.size):=hJ (by rw[<-hB,dM];exact S.rs.there);have H1:Hid (B.all (·.oneCell')=bE):=hJ (by rw[<-hB];exact qa _ _ _);have F6:Hid (PB (wr.setCells rb 0 B.toList) rb mb bb (Kn.ia 6)/\du (wr.setCells rb 0 B.toList) mb r Mv.j5/\CX (wr.setCells rb 0 B.toList) bb Sg.gC/\Below w.heap.size w (wr.setCells rb 0 B.toList)):=hJ (by
    have fr:bO rb wr (wr.setCells rb 0 B.toList):=bO.setCells _ _ (bO.refl _ _);have q:=S.v;exact⟨by rw[<-hB];exact q.rs.put _ _ _,q.um.same (fr.block _ q.um.lt (by have:=q.ne;omega)),q.ub.same (fr.block _ q.ub.lt (by have:=q.ne;omega)),fr.below q.bl q.ge.1 q.bl.size⟩)
   have GE:=hJ (aK S.ge S.ne);go_wp2_with (first|(refine wpList_load_mid rfl 74 _ rfl c 0 rfl B.toList _ RG.v Tryz.underlying74 rfl SL.v ?_;rw[Array.toArray_toList])|(refine wpList_store_mid rfl 74 _ _ rfl rb 0 B rfl rfl TH.v SZ.v H1.v ?_))
   generalize wr.setCells rb 0 B.toList=WF at F6|-;have g0:=F6.1.cell 0 bG;have g1:=F6.1.cell 1 bG;have g2:=F6.1.cell 2 bG;have g3:=F6.1.cell 3 bG;have g4:=F6.1.cell 4 bG;have g5:=F6.1.cell 5 bG;have g6:=F6.1.cell 6 bG;have g7:=F6.1.cell 7 bG;have g8:=F6.1.cell 8 bG;have g9:=F6.1.cell 9 bG;have g10:=F6.1.cell 10 bG;have g11:=F6.1.cell 11 bG
   (try simp only[Exit.then])
   refine bodyPost_ret (v:=au #[Kn.fB mb bb (Kn.ia 6) 0,Kn.fB mb bb (Kn.ia 6) 1,Kn.fB mb bb (Kn.ia 6) 2,Kn.fB mb bb (Kn.ia 6) 3,Kn.fB mb bb (Kn.ia 6) 4,Kn.fB mb bb (Kn.ia 6) 5,Kn.fB mb bb (Kn.ia 6) 6,Kn.fB mb bb (Kn.ia 6) 7,Kn.fB mb bb (Kn.ia 6) 8,Kn.fB mb bb (Kn.ia 6) 9,Kn.fB mb bb (Kn.ia 6) 10,Kn.fB mb bb (Kn.ia 6) 11]) (by simp[results,Tryz.f91,go_sem,g0,g1,g2,g3,g4,g5,g6,g7,g8,g9,g10,g11]) rfl ?_;exact⟨mb,bb,rfl,F6.2.1,F6.2.2.1,F6.2.2.2,GE.1.2.2.1,GE.1.2.2.2,GE.2.1⟩
namespace Kn
def pE:Mo.Tb:=⟨(0,0),[]⟩
def ov:Kp:=⟨λ_=>Pr.no,λ_=>bF,λ_=>pE,Sp.t0,Gr.t0,Wf.m0,Mv.Cz,Tr.f0,Pp.gC,Fx.gC⟩
def lK:Kp:={ov with fo:=Tr.dO Tr.g1 (0:Nat),ht:=λi=>if i=0 then bE else bF,gr:=Gr.gD Gr.t0 Gr.W0 0 1 0}
theorem P3:Mv.fR Mv.Cz 20 (λ_=>Mv.j5):=by
 have t0:∀f n,Mv.pG (λ_=>Mv.j5) f n=0:=λf n=>by
  induction n with
  |zero=>rfl
  |succ n ih=>show Mv.pG _ f n+Mv.eH Mv.j5.fr f 16=0;rw[ih,Mv.uE (fr:=Mv.j5.fr) f 16 (λ_ _=>rfl)]
 exact⟨Bd.xp.1,Bd.xp.2,bG,λ_ _ _ _=>by show 0<=64;omega,λf _=>by show 0=_;rw[t0],λf _=>⟨λc=>aZ (show bF=bE from c) bM,λc=>aZ (show(0:Nat)>=1 from c) bM⟩,λf _ c=>aZ (show bF=bE from c) bM⟩
theorem CJ(k m:Nat):∀j,Fx.cK Fx.gC k m j=0:=λj=>by
 have:=Fx.sY Fx.gC k m j
 induction j with
 |zero=>rfl
 |succ j ih=>
  have q:=ih (Fx.sY Fx.gC k m j);show Fx.cK Fx.gC k m j+Fx.hit (Fx.gC j) k m=0;rw[q];rfl
theorem Pm:Mo.HI Tr.g1 (λ_=>0):=⟨λn _=>by
 show(if n=0 then _ else Nd.no:Nd).held=0;split<;>rfl,λn _ h=>bG⟩
theorem Ie:Mo.HI (Tr.dO Tr.g1 (0:Nat)) (λn=>0+Mo.gS (0:Nat) n):=Pm.dO (by rfl)
theorem Uu(m:Nat):jM lK m=Mo.gS (0:Nat) m:=by
 show(((((0+Mo.tc pE m)+0)+0)+0)+0)+0=_;unfold Mo.tc;rw[show pE.ms=[]from rfl,Mo.uU,show pE.rt.2=((0:Nat):Int)from rfl];omega
theorem U6:KJ (λ_=>False) 1 lK:=by
 refine⟨⟨_,Sp.xp⟩,⟨Gr.W0,ql Gr.zl 0 1 0 bG bG⟩,P3,?_,λn _=>aC _,(show Tr.Ok (Tr.dO Tr.g1 ((0:Nat):Int))from Tr.Uo.dO _),λs hs h=>?_,λn _=>aC _,λn _ h=>?_,λn _ _ h=>?_,λn _=>?_,λs hs=>?_,λn _ _=>rfl⟩
 .refine⟨λn _ _=>rfl,λn _ h=>aZ rfl h,λn _ h=>aZ rfl h,λn _ h=>aZ rfl h,λn _=>aC _,λm hm=>?_,λm hm kz=>?_,λm _=>(CJ 2 m 24).symm,λm _=>(CJ 3 m 24).symm⟩
  .rw[Uu];show((Tr.dO Tr.g1 (0:Nat)).nd m).held=Fx.cK Fx.gC 1 m 24+_;rw[Ie.hd m hm,CJ]
  .by_cases c:((Tr.dO Tr.g1 (0:Nat)).nd m).held=0
   .exact c
   .exact aZ kz (Ie.lv m hm (by rw[<-Ie.hd m hm];omega))
 .exact⟨⟨⟨0,rfl,bG⟩,λm hm=>by cases hm⟩,by show([]:List Mt).length<=6;exact aC _⟩
 .cases h
 .cases h
 .exact⟨λh=>aZ rfl h,λh=>aZ rfl h⟩
 .show(if s=0 then bE else bF)=decide (s=0);by_cases e:s=0
  .rw[aJ e];simp[e]
  .rw[aI e];simp[e]
def kN(m:Wf.M):Kp:=iQ lK 0 (ia 6) 0 m
theorem Ui:Sp.qX (Sp.fO Sp.t0 ((0:Nat):Int) ((0:Nat):Int)):=by
 refine⟨λs hs h=>?_,by decide⟩;rw[(Sp.lG (t:=Sp.t0) (z:=0) (x:=0) bG rfl bG rfl).1]at h;have e:s=0:=by
  by_cases c:s=0
  .exact c
  .have:decide (s=0)=bE:=h;simp[c]at this
 subst e;exact⟨0,bG,by decide,by decide⟩
theorem Vu(m:Wf.M):KH 1 (λ_=>1) (kN m):=by
 have h:=U6;have e:∀j,j≠0->(kN m).p j=Pr.no:=λj q=>cr lK 0 j (ia 6) q;have e2:(kN m).p 0=ia 6:=bR lK 0 (ia 6);have esp:(kN m).sp=Sp.fO Sp.t0 ((0:Nat):Int) ((0:Nat):Int):=rfl;have kj:KJ (λ_=>False) 1 (kN m):=by
  have iv:Sp.Inv (kN m).sp (λ_=>1):=by rw[esp];exact Sp.xp.enter _ _
  refine⟨⟨_,iv⟩,h.gr,?_,h.wx,h.rf,h.ok,h.tb,λj hj=>?_,λj hj=>?_,λj hj _=>?_,λj hj=>?_,λs hs=>?_,λj hj=>?_⟩
  .have:(λj=>((kN m).p j).mem)=λ_=>Mv.j5:=funext λj=>by
    by_cases q:j=0
    .rw[q,e2];rfl
    .rw[e j q];rfl
   rw[this];exact P3
  .by_cases q:j=0
   .rw[q,e2];show 1<=2;omega
   .rw[e j q];exact aC _
  .by_cases q:j=0
   .rw[q,e2];intro _;rfl
   .rw[e j q];intro c;cases c
  .by_cases q:j=0
   .rw[q,e2];intro _;rfl
   .rw[e j q];intro c;cases c
  .rw[esp,Sp.qs (t:=Sp.t0) (z:=0) (x:=0) bG rfl bG rfl];by_cases q:j=0
   .rw[q,e2,aJ rfl];exact⟨λ_=>by show 1≠0;omega,λ_=>bG⟩
   .rw[e j q,aI q];exact⟨λc=>aZ rfl c,λc=>aZ rfl c⟩
  .rw[esp,(Sp.lG (t:=Sp.t0) (z:=0) (x:=0) bG rfl bG rfl).1];exact h.ht s hs
  .by_cases q:j=0
   .rw[q,e2];intro c;cases c
   .rw[e j q];intro _;rfl
 have vi:VI (λ_=>False) 1 (λ_=>1) (kN m):=⟨kj,by rw[esp];exact Sp.xp.enter _ _,Ui⟩;have st:∀j,j≠0->((kN m).p j).st=0:=λj q=>by rw[e j q];rfl
 refine⟨⟨vi,λj hj l hd1=>?_,λj hj q s=>aZ (st j q) s,vi.h0⟩,λj hj q s=>aZ (st j q) s,by rw[dJ,e2];rfl,by rw[e2];rfl,λj z hj s=>?_⟩
 .by_cases q:j=0
  .subst q;exact aZ vi.h0 hd1
  .have:=dJ.1 l;rw[st j q]at this;omega
 .by_cases q:j=0
  .rw[q,e2]at s;have:(1:Nat)=2:=s;omega
  .rw[st j q]at s;omega
end Kn
def IB(v:Nat->Value)(o:Nat):Value:=if o<240 then(if o%12=4 then ai bC else if o%12=5 then ai bC else aa .i64 0)else if o<246 then ai bC else v (o-246)
def oF(v:Nat->Value):Array Value:=((List.range 253).map (IB v)).toArray
theorem Bg(v:Nat->Value):(oF v).size=253:=by simp[oF]
theorem Gu(v:Nat->Value)(o:Nat)(h:o<253):(oF v)[o]? =bB (IB v o):=by simp[oF,h]
def kX(a:Nat):Value:=ai (bB ⟨a,0,bC⟩)
def rP(a b c d e f:Nat)(i:Nat):Value:=if i=0 then kX a else if i=1 then kX b else if i=2 then kX c else if i=3 then kX d else if i=4 then kX e else if i=5 then kX f else ai bC
theorem Bh(a b c d e f:Nat):prog.built 86 [(2,kX a),(3,kX b),(4,kX c),(5,kX d),(6,kX e),(7,kX f)]=bB (oF (rP a b c d e f)):=by kernel_rfl
section
variable {ops:Array Oper}{rest:List Oper}{x:Oper}{a:Act}{w:bD}{Q:Exit->Act->bD->Prop}
theorem Jl{y2 y3 y4 y5 y6 y7:Operand}(a2 a3 a4 a5 a6 a7:Nat)(hgd:x.guard=bC)(ho:x.op= .build 86 #[(2,y2),(3,y3),(4,y4),(5,y5),(6,y6),(7,y7)])(h2:a.eval y2=kX a2)(h3:a.eval y3=kX a3)(h4:a.eval y4=kX a4)(h5:a.eval y5=kX a5)(h6:a.eval y6=kX a6)(h7:a.eval y7=kX a7)(h:wpList prog ops Q rest (a.put x.dst (au (oF (rP a2 a3 a4 a5 a6 a7)))) w):wpList prog ops Q (x::rest) a w:=
 wpList_build hgd 86 #[(2,y2),(3,y3),(4,y4),(5,y5),(6,y6),(7,y7)] ho (by simp[h2,h3,h4,h5,h6,h7,Bh]) (by simpa[h2,h3,h4,h5,h6,h7,Bh]using h)
end
structure NW (w:bD)(a0 a1 a2 a3 a4 a5 a6 a7:Nat)(W:bD):Prop where
 sp:Tb bE W a1 Sp.t0
 gr:Gr.cC W a2 Gr.t0
 sc:Wf.Fair W a3 Wf.m0
 bk:dN W a4 a5 Mv.Cz
 fo:cv W a6 Tr.f0
 pi:dU W a7 Pp.gC
 ke:W.heap[a0]? =bB (bA (oF (rP a1 a2 a3 a4 a6 a7)) 86 (0,0))
 bl:Below w.heap.size w W
 od:w.heap.size=a1/\a1<a2/\a2<a3/\a3<a5/\a5<a4/\a4<a6/\a6<a7/\a7<a0
theorem NW.lt{W:bD}(h:NW w a0 a1 a2 a3 a4 a5 a6 a7 W):a0<W.heap.size:=(aX.1 h.ke).1
theorem NW.cell{w:bD}{a0 a1 a2 a3 a4 a5 a6 a7:Nat}{W:bD}(h:NW w a0 a1 a2 a3 a4 a5 a6 a7 W)(o:Nat)(ho:o<253):W.cell? ⟨a0,o,bC⟩=bB (IB (rP a1 a2 a3 a4 a6 a7) o):=by rw[cA h.ke,Gu _ o ho]
def mN(a0 a1 a2 a3 a4 a5 a6 a7 a8 i:Nat):Nat:=[a0,a1,a2,a3,a4,a5,a6,a7,a8].getD i 0
theorem NW.Vv{a8:Nat}{W:bD}(h:NW w a0 a1 a2 a3 a4 a5 a6 a7 W)(hb:VK<=w.heap.size)(e8:W.heap.size=a8)(xa:eI W' a8 a6 a7 Fx.gC)(bl:Below W.heap.size W W'):
  bT (W'.setCell ⟨a0,252,bC⟩ (ai (bB ⟨a8,0,bC⟩))) VK ⟨mN a0 a1 a2 a3 a4 a5 a6 a7 a8,λ_=>aj bC 0 0,Kn.ov⟩/\Below w.heap.size w (W'.setCell ⟨a0,252,bC⟩ (ai (bB ⟨a8,0,bC⟩))):=by
 have od:=h.od;have l0:=h.lt;have k1:W'.heap[a0]? =bB (bA (oF (rP a1 a2 a3 a4 a6 a7)) 86 (0,0)):=(bl.block _ l0).trans h.ke;have fr:bO a0 W' (W'.setCell ⟨a0,252,bC⟩ (ai (bB ⟨a8,0,bC⟩))):=(bO.refl _ _).setCell _ _;have ls:=bl.size;have bk:∀b,b<a0->(W'.setCell ⟨a0,252,bC⟩ (ai (bB ⟨a8,0,bC⟩))).heap[b]? =W.heap[b]? :=λb hb=>(fr.block b bG bG).trans (bl.block b bG);have us9':∀i,us ⟨mN a0 a1 a2 a3 a4 a5 a6 a7 a8,λ_=>aj bC 0 0,Kn.ov⟩ i->i<9:=λi hi=>by
  rcases hi with hi|⟨_,_,q⟩|⟨_,_,q⟩|⟨_,_,q⟩|⟨_,_,q,_⟩
  .exact hi
  .cases q
  .cases q
  .cases q
  .cases q
 have nd:∀i,i<9->∀j,j<9->mN a0 a1 a2 a3 a4 a5 a6 a7 a8 i=mN a0 a1 a2 a3 a4 a5 a6 a7 a8 j->i=j:=by
  have n:[a0,a1,a2,a3,a4,a5,a6,a7,a8].Nodup:=by
   simp only[List.nodup_cons,List.mem_cons,List.not_mem_nil,or_false,not_or,List.nodup_nil,not_false_eq_true,and_true];omega
  intro i hi j hj e;unfold mN at e;rw[aF,aF,aW (by simpa using hi),aW (by simpa using hj),Option.getD_some,Option.getD_some]at e;rcases Nat.lt_trichotomy i j with q|q|q
  .exact aZ e (List.pairwise_iff_getElem.1 n i j _ _ q)
  .exact q
  .exact aZ e.symm (List.pairwise_iff_getElem.1 n j i _ _ q)
 refine⟨⟨⟨_,cT k1 252 _,by simp[Bg]⟩,λo ho=>?_,h.sp.same (bk a1 bG),(bk a2 bG).trans h.gr,h.sc.same (bk a3 bG),h.bk.same (bk a4 bG) (bk a5 bG),xa.same (fr.block a8 xa.lt bG),h.fo.same (bk a6 bG),h.pi.same (bk a7 bG),λn _ q=>(by cases q),λn _ q=>(by cases q),λn _ q=>(by cases q),λn _ q=>(by cases q),λi j hi hj e=>nd i (us9' i hi) j (us9' j hj) e,λi hi=>?_⟩,fr.below (h.bl.trans (bl.mono h.bl.size)) bG (by have:=h.bl.size;omega)⟩
 .show(W'.setCell ⟨a0,252,bC⟩ _).cell? ⟨a0,o,bC⟩=_;by_cases q:o=252
  .subst q;rw[dH k1 _ _ (by rw[Bg];omega)];unfold Kn.kc;rw[nJ,nJ,nJ,show 252-244=8 by omega];rfl
  .rw[dw k1 _ _ _ (bQ q),cA k1,Gu _ o ho];congr 1;unfold IB Kn.kc;by_cases c:o<240
   .rw[aJ c,aJ c];unfold Kn.pc;have m:o%12<12:=Nat.mod_lt _ bG;generalize o%12=j at m
    match j,m with
    |0,_=>rfl
    |1,_=>rfl
    |2,_=>rfl
    |3,_=>rfl
    |4,_=>rfl
    |5,_=>rfl
    |j+6,_=>
     rw[nJ,nJ];unfold Kn.fB;rw[nJ,nJ,nJ,nJ,nJ,nJ];rfl
   .rw[aI c,aI c];by_cases c2:o<246
    .rw[aJ c2,aJ c2];rfl
    .rw[aI c2,aI c2];have q2:o=246\/o=247\/o=248\/o=249\/o=250\/o=251:=bG
     rcases q2 with rfl|rfl|rfl|rfl|rfl|rfl<;>rfl
 .have i9:=us9' i hi;have q:i=0\/i=1\/i=2\/i=3\/i=4\/i=5\/i=6\/i=7\/i=8:=bG
  rcases q with rfl|rfl|rfl|rfl|rfl|rfl|rfl|rfl|rfl
  .show VK<=a0;omega
  .show VK<=a1;omega
  .show VK<=a2;omega
  .show VK<=a3;omega
  .show VK<=a4;omega
  .show VK<=a5;omega
  .show VK<=a6;omega
  .show VK<=a7;omega
  .show VK<=a8;omega

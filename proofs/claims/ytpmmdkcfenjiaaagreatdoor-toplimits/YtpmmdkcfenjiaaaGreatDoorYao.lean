import Derived.Test.YtpmmdkcfenjiaaaGreatDoorYan
set_option maxRecDepth 100000
set_option maxHeartbeats 4000000
set_option linter.unusedVariables false
set_option linter.unusedSimpArgs false
namespace Go.Proofs.YtpmmdkcfenjiaaaGreatDoor
open Value renaming int->aa,pointer->ai,slice->aj,tuple->ao,iface->aq,agg->au
open IntKind renaming i64->az
open Ending renaming returned->bf
open Obj renaming cells->bh
open Option renaming some->bj,none->bu
open Bool renaming true->bw,false->bA
open Tryz (prog)
open Go.RowKit
open Tr (Fo Nd)
open Mo (Wh Mt)
open Mv (Me Bk)
open Kn (Pr Kp St us KB KJ VI EI)
variable {F:Fo}{p:Int}{k:Kp}{N Wt a a0 a1 a2 a3 a4 a5 a6 a7 b bb c f i j m mb n q rb y z:Nat}{Wy:Nat->List (Fin 10)}{d:Nat->Nat}{X:Nat->Prop}{x:Pr}{s:St}{v:Value}{W' w w':bD}
structure Kn.LI (N:Nat)(d:Nat->Nat)(k:Kp)(n z q:Nat):Prop where
 vi:VI (λ_=>False) N d k
 fi:∀m,m<20->m≠n->Kn.lv k m=bw->Kn.hd k m≠m->Sg.ft (k.p m).box 0 0
 hn:n<20
 lv:Kn.lv k n=bw
 ho:k.sp.of n=z+1
 pr:n≠0->q<20/\q≠n/\(k.p n).par=(q:Int)
theorem Kn.LI.has{N:Nat}{d:Nat->Nat}{k:Kp}{n z q:Nat}(h:Kn.LI N d k n z q):(k.p n).has=bw:=h.vi.kj.lv n h.hn (λx=>x) (by have:=h.lv;unfold Kn.lv at this;simpa using this)
def Kn.vO(k:Kp)(n z q:Nat)(k':Kp):Prop:=∃m,Sg.ft (k.p n).box 0 m/\((m=0/\k'=k)\/(m≠0/\Kn.lX k n (128+(m:Int)) z q k'))
def Kn.pY(k:Kp)(n z q:Nat)(k':Kp):Prop:=(Kn.hd k n=n/\k'=k)\/(Kn.hd k n≠n/\Kn.vO k n z q k')
section
variable (Wt N:Nat)(d:Nat->Nat)(s:St)(w:bD)
theorem Br(hN:N<=900)(n z q:Nat)(n0:n≠0)(h:bO w Wt s)(hi:Kn.LI N d s.k n z q):
  Calls prog 99 #[ai (bj ⟨s.A 0,0,bu⟩),aa az n] w λe w'=>∃k',e=bf (ao #[])/\Kn.vO s.k n z q k'/\bO w' Wt {s with k:=k'}/\KF s w {s with k:=k'} w':=by
 have hn:=hi.hn;have hnI:(n:Int)<20:=bB
 have c5:=h.sX n hn hi.has;have EN:=hJ (Dj (s.A (29+n)) (s.k.p n).box w (h.bx n hn hi.has));have H:=hJ (aK h (aK hi hN));obtain⟨kb,hkb⟩:=hU (s.A 0);have HK:=hJ hkb;rw[hkb]at c5|-;generalize s.A (29+n)=bb at*;go_in
 go_wp2_with fail
 refine EN.mono ?_;rintro e w1 ⟨m,rfl,hm,hb⟩;have S1:Hid (bO w1 Wt s/\KF s w s w1/\Sg.ft (s.k.p n).box 0 m):=hJ ⟨H.1.below hb,KF.below hb,hm⟩;have m8:=hm.le;by_cases m0:m=0
 .subst m0;rw[show Sg.nZ 0=bA from rfl];go_wp2_with fail
  go_end0
  exact⟨s.k,rfl,⟨0,S1.2.2, .inl ⟨rfl,rfl⟩⟩,S1.1,S1.2.1⟩
 .rw[show Sg.nZ m=bw by unfold Sg.nZ;simp;omega];have PR:=H.2.1.pr n0;have EE:=hJ (xC Wt N d H.2.2 s w1 n z q (128+(m:Int)) S1.1 H.2.1.vi hn n0 H.2.1.lv H.2.1.ho PR.1 PR.2.1 PR.2.2 H.2.1.fi);rw[HK.v]at EE;have hw:IntKind.i64.wrap (128+(m:Int))=128+(m:Int):=aN _ ⟨by omega,bB⟩;have M0:=hJ m0;go_wp2_with fail
  refine EE.mono ?_;rintro e w2 ⟨k',rfl,et,ka,kf⟩;have S2:Hid (Kn.vO s.k n z q k'/\bO w2 Wt {s with k:=k'}/\KF s w {s with k:=k'} w2):=hJ ⟨⟨m,S1.2.2, .inr ⟨M0.v,et⟩⟩,ka,S1.2.1.trans kf⟩;go_wp2_with fail
  go_end0
  exact⟨k',rfl,S2.v⟩
theorem tw(hN:N<=900)(n z q:Nat)(n0:n=0->Kn.hd s.k 0=0)(h:bO w Wt s)(hi:Kn.LI N d s.k n z q):
  Calls prog 101 #[ai (bj ⟨s.A 0,0,bu⟩),aa az n] w λe w'=>∃k',e=bf (ao #[])/\Kn.pY s.k n z q k'/\bO w' Wt {s with k:=k'}/\KF s w {s with k:=k'} w':=by
 obtain⟨th,hth⟩:=hU (decide (Kn.hd s.k n=n));have IH:=hJ (mU Wt s w n h th hth);cases th
 .have hd:=of_decide_eq_false hth;have LK:=hJ (Br Wt N d s w hN n z q (λe=>by subst e;exact hd (n0 rfl)) h hi);have HD:=hJ hd;generalize s.A 0=kb at*;go_in
  go_wp2_with fail
  refine sC IH.v ?_;rintro w1 hw;subst w1;go_wp2_with fail
  refine LK.mono ?_;rintro e w1 ⟨k',rfl,et,ka,kf⟩;have S2:Hid (Kn.pY s.k n z q k'/\bO w1 Wt {s with k:=k'}/\KF s w {s with k:=k'} w1):=hJ ⟨.inr ⟨HD.v,et⟩,ka,kf⟩;go_wp2_with fail
  go_end0
  exact⟨k',rfl,S2.v⟩
 .have HD:=hJ (aK (of_decide_eq_true hth) h);generalize s.A 0=kb at*;go_in
  go_wp2_with fail
  refine sC IH.v ?_;rintro w1 hw;subst w1;go_wp2_with fail
  go_end0
  exact⟨s.k,rfl, .inl ⟨HD.1,rfl⟩,HD.2,KF.refl _ _⟩
def Kn.Cl(k:Kp)(z:Int)(m:Nat)(E:Int)(k':Kp):Prop:=(Kn.cD k z≠0/\E=Kn.cD k z/\m=0/\k'=k)\/(Kn.cD k z=0/\∃n j:Nat,z=n/\n<20/\Sg.ft (k.p n).box 2 j/\k'=k.put n {k.p n with box:=Sg.vm (k.p n).box j}/\m=j/\E=if j=0 then 2 else 0)
theorem I0(z:Int)(h:bO w Wt s)(hl:∀n,n<20->Kn.lv s.k n=bw->(s.k.p n).has=bw):
  Calls prog 44 #[ai (bj ⟨s.A 0,0,bu⟩),aa az z] w λe w'=>∃(m:Nat) (E:Int) (k':Kp),e=bf (ao #[aa az m,bN E])/\Kn.Cl s.k z m E k'/\bO w' Wt {s with k:=k'}/\KF s w {s with k:=k'} w':=by
 have AC:=hJ (dG Wt s w z h);have H:=hJ h;by_cases a:Kn.cD s.k z=0
 .obtain⟨n,rfl,hn,hlv⟩:=Kn.fL a;have hh:=hl n hn hlv;have c5:=h.sX n hn hh;have TK:=hJ (Pq (s.A (29+n)) (s.k.p n).box w (h.bx n hn hh));have HA:=hJ (aK a hh);rw[a,bF,gC]at AC;obtain⟨kb,hkb⟩:=hU (s.A 0);obtain⟨bb,hbb⟩:=hU (s.A (29+n));have HB:=hJ hbb;rw[hkb]at AC c5|-;rw[hbb]at c5 TK;go_in
  go_wp2_with fail
  refine sC AC.v ?_;rintro w1 hw;subst w1;go_wp2_with fail
  refine TK.mono ?_;rintro e w1 ⟨j,rfl,hj,u1,f1⟩;have S1:Hid (Sg.ft (s.k.p n).box 2 j/\bO w1 Wt {s with k:=s.k.put n {s.k.p n with box:=Sg.vm (s.k.p n).box j}}/\KF s w {s with k:=s.k.put n {s.k.p n with box:=Sg.vm (s.k.p n).box j}} w1):=hJ (by
   rw[<-HB.v]at u1 f1;exact⟨hj,H.wm hn HA.2 u1 f1⟩)
  by_cases j0:j=0
  .subst j0;rw[show Sg.nZ 0=bA from rfl];go_wp2
   go_ret2
   exact⟨0,2,_,rfl, .inr ⟨HA.1,n,0,rfl,hn,S1.1,rfl,rfl,rfl⟩,S1.2⟩
  .rw[show Sg.nZ j=bw by unfold Sg.nZ;simp;omega];have J0:=hJ j0;go_wp2
   go_ret2
   exact⟨j,0,_,by rw[bF];rfl, .inr ⟨HA.1,n,j,rfl,hn,S1.1,rfl,rfl,by rw[aI J0.v]⟩,S1.2⟩
 .have FIN:Hid (Kn.Cl s.k z 0 (Kn.cD s.k z) s.k):=hJ (.inl ⟨a,rfl,rfl,rfl⟩);have HE:=hJ (bH a);rw[bH a]at AC;generalize gQ (s.A 0) z (Kn.cD s.k z)=ap at*;generalize s.A 0=kb at*;go_in
  go_wp2_with fail
  refine sC AC.v ?_;rintro w1 hw;subst w1;go_wp2
  go_ret2
  exact⟨0,Kn.cD s.k z,s.k,by rw[HE.v];rfl,FIN.v,H.v,KF.refl _ _⟩
end
namespace Kn
def YQ(k:Kp)(n y q:Nat):Prop:=k.sp.of n=y+1/\(n≠0->(k.p n).par=(q:Int))
def dq(k:Kp)(n:Nat)(X:Nat->Sg.S1):Kp:=k.put n {k.p n with box:=X}
theorem KI.has{N:Nat}{d:Nat->Nat}{k:Kp}(h:KI N d k){n:Nat}(hn:n<20)(l:lv k n=bw):(k.p n).has=bw:=h.vi.kj.lv n hn (λx=>x) (by unfold lv at l;simpa using l)
theorem KI.li(h:KI N d k)(hn:n<20)(l:lv k n=bw)(X:Nat->Sg.S1):∃z q,LI N d (dq k n X) n z q:=by
 have s1:(k.p n).st=1:=by unfold lv at l;simpa using l
 have o:=(h.vi.kj.of n hn).2 bB;have e:(dq k n X).p n={k.p n with box:=X}:=bM _ _ _;have vi:VI (λ_=>False) N d (dq k n X):=⟨h.vi.kj.Ea rfl rfl rfl,h.vi.iv,h.vi.hs⟩;have fi:∀m,m<20->m≠n->lv (dq k n X) m=bw->hd (dq k n X) m≠m->Sg.ft ((dq k n X).p m).box 0 0:=λm hm mn lm hm2=>by
  have e2:(dq k n X).p m=k.p m:=bP _ _ _ _ mn;rw[e2];refine h.fi m hm ?_ hm2;unfold lv at lm|-;rw[e2]at lm;exact lm
 have dL:lv (dq k n X) n=bw:=by unfold lv;rw[e];exact l
 by_cases n0:n=0
 .exact⟨k.sp.of n-1,0,vi,fi,hn,dL,(by show k.sp.of n=_;omega),λc=>aZ n0 c⟩
 .obtain⟨q,ic,qn,hp⟩:=h.pr n hn n0 bB;exact⟨k.sp.of n-1,q,vi,fi,hn,dL,(by show k.sp.of n=_;omega),λ_=>⟨ic,qn,by rw[e];exact hp⟩⟩
theorem LI.yq{X:Nat->Sg.S1}(h:LI N d (dq k n X) n y q):YQ k n y q:=⟨h.ho,λn0=>by have:=(h.pr n0).2.2;unfold dq at this;rw[bM]at this;exact this⟩
end Kn
section
variable (Wt N:Nat)(d:Nat->Nat)(s:St)(w:bD)
def Kn.yp(k:Kp)(z c:Int)(on:Bool)(E:Int)(k':Kp):Prop:=(Kn.cD k z≠0/\E=Kn.cD k z/\k'=k)\/(Kn.cD k z=0/\∃n:Nat,z=n/\n<20/\E=Sg.lf c/\((Sg.lf c≠0/\k'=Kn.dq k n (Sg.oD (k.p n).box c on))\/(Sg.lf c=0/\∃y q,Kn.YQ k n y q/\Kn.pY (Kn.dq k n (Sg.oD (k.p n).box c on)) n y q k')))
theorem IX(hN:N<=900)(z c:Int)(on:Bool)(h:bO w Wt s)(hi:Kn.KI N d s.k):
  Calls prog 42 #[ai (bj ⟨s.A 0,0,bu⟩),aa az z,aa az c, .bool on] w λe w'=>∃(E:Int) (k':Kp),e=bf (bN E)/\Kn.yp s.k z c on E k'/\bO w' Wt {s with k:=k'}/\KF s w {s with k:=k'} w':=by
 have AC:=hJ (dG Wt s w z h);have H:=hJ (aK h (aK hi hN));by_cases a:Kn.cD s.k z=0
 .obtain⟨n,rfl,hn,hlv⟩:=Kn.fL a;have hh:=hi.has hn hlv;have c5:=h.sX n hn hh;have TK:=hJ (Jw (s.A (29+n)) c on (s.k.p n).box w (h.bx n hn hh));have HA:=hJ (aK a (aK hh hlv));rw[a,bF,gC]at AC;obtain⟨kb,hkb⟩:=hU (s.A 0);have HK:=hJ hkb;obtain⟨bb,hbb⟩:=hU (s.A (29+n));have HB:=hJ hbb;rw[hkb]at AC c5|-;rw[hbb]at c5 TK;go_in
  go_wp2_with fail
  refine sC AC.v ?_;rintro w1 hw;subst w1;go_wp2_with fail
  refine sC TK.v ?_;rintro w1 ⟨u1,f1⟩;have S1:Hid (bO w1 Wt {s with k:=Kn.dq s.k n (Sg.oD (s.k.p n).box c on)}/\KF s w {s with k:=Kn.dq s.k n (Sg.oD (s.k.p n).box c on)} w1):=hJ (by
   rw[<-HB.v]at u1 f1;exact H.1.wm hn HA.2.1 u1 f1)
  by_cases j0:Sg.lf c=0
  .have J0:=hJ j0;rw[j0,bF];obtain⟨y,q,li⟩:=H.2.1.li hn HA.2.2 (Sg.oD (s.k.p n).box c on);have LB:=hJ (tw Wt N d {s with k:=Kn.dq s.k n (Sg.oD (s.k.p n).box c on)} w1 H.2.2 n y q (λ_=>H.2.1.h0) S1.1 li);rw[show({s with k:=Kn.dq s.k n (Sg.oD (s.k.p n).box c on)}:St).A 0=kb from HK.v]at LB;have YY:=hJ li.yq;go_wp2_with fail
   refine LB.mono ?_;rintro e w2 ⟨k',rfl,et,ka,kf⟩;have S2:Hid (Kn.yp s.k (n:Int) c on 0 k'/\bO w2 Wt {s with k:=k'}/\KF s w {s with k:=k'} w2):=hJ ⟨.inr ⟨HA.1,n,rfl,hn,J0.symm, .inr ⟨J0.v,y,q,YY.v,et⟩⟩,ka,S1.2.trans kf⟩;go_wp2
   go_ret
   exact⟨0,k',by rw[bF];rfl,S2.v⟩
  .have J0:=hJ j0;have HE:=hJ (bH j0);rw[bH j0];go_wp2
   go_ret
   exact⟨Sg.lf c,_,by rw[HE.v];rfl, .inr ⟨HA.1,n,rfl,hn,rfl, .inl ⟨J0.v,rfl⟩⟩,S1.v⟩
 .have FIN:Hid (Kn.yp s.k z c on (Kn.cD s.k z) s.k):=hJ (.inl ⟨a,rfl,rfl⟩);have HE:=hJ (bH a);rw[bH a]at AC;generalize gQ (s.A 0) z (Kn.cD s.k z)=ap at*;generalize s.A 0=kb at*;go_in
  go_wp2_with fail
  refine sC AC.v ?_;rintro w1 hw;subst w1;go_wp2
  go_ret
  exact⟨Kn.cD s.k z,s.k,by rw[HE.v];rfl,FIN.v,H.1,KF.refl _ _⟩
def Kn.yr(k:Kp)(z c:Int)(nF:Int)(E:Int)(k':Kp):Prop:=(Kn.cD k z≠0/\E=Kn.cD k z/\k'=k)\/(Kn.cD k z=0/\∃n:Nat,z=n/\n<20/\E=Sg.jC c nF/\((Sg.jC c nF≠0/\k'=Kn.dq k n (Sg.mK (k.p n).box c nF))\/(Sg.jC c nF=0/\∃y q,Kn.YQ k n y q/\Kn.pY (Kn.dq k n (Sg.mK (k.p n).box c nF)) n y q k')))
theorem K7(hN:N<=900)(z c:Int)(nF:Int)(h:bO w Wt s)(hi:Kn.KI N d s.k):
  Calls prog 43 #[ai (bj ⟨s.A 0,0,bu⟩),aa az z,aa az c,aa az nF] w λe w'=>∃(E:Int) (k':Kp),e=bf (bN E)/\Kn.yr s.k z c nF E k'/\bO w' Wt {s with k:=k'}/\KF s w {s with k:=k'} w':=by
 have AC:=hJ (dG Wt s w z h);have H:=hJ (aK h (aK hi hN));by_cases a:Kn.cD s.k z=0
 .obtain⟨n,rfl,hn,hlv⟩:=Kn.fL a;have hh:=hi.has hn hlv;have c5:=h.sX n hn hh;have TK:=hJ (Rq (s.A (29+n)) c nF (s.k.p n).box w (h.bx n hn hh));have HA:=hJ (aK a (aK hh hlv));rw[a,bF,gC]at AC;obtain⟨kb,hkb⟩:=hU (s.A 0);have HK:=hJ hkb;obtain⟨bb,hbb⟩:=hU (s.A (29+n));have HB:=hJ hbb;rw[hkb]at AC c5|-;rw[hbb]at c5 TK;go_in
  go_wp2_with fail
  refine sC AC.v ?_;rintro w1 hw;subst w1;go_wp2_with fail
  refine sC TK.v ?_;rintro w1 ⟨u1,f1⟩;have S1:Hid (bO w1 Wt {s with k:=Kn.dq s.k n (Sg.mK (s.k.p n).box c nF)}/\KF s w {s with k:=Kn.dq s.k n (Sg.mK (s.k.p n).box c nF)} w1):=hJ (by
   rw[<-HB.v]at u1 f1;exact H.1.wm hn HA.2.1 u1 f1)
  by_cases j0:Sg.jC c nF=0
  .have J0:=hJ j0;rw[j0,bF];obtain⟨y,q,li⟩:=H.2.1.li hn HA.2.2 (Sg.mK (s.k.p n).box c nF);have LB:=hJ (tw Wt N d {s with k:=Kn.dq s.k n (Sg.mK (s.k.p n).box c nF)} w1 H.2.2 n y q (λ_=>H.2.1.h0) S1.1 li);rw[show({s with k:=Kn.dq s.k n (Sg.mK (s.k.p n).box c nF)}:St).A 0=kb from HK.v]at LB;have YY:=hJ li.yq;go_wp2_with fail
   refine LB.mono ?_;rintro e w2 ⟨k',rfl,et,ka,kf⟩;have S2:Hid (Kn.yr s.k (n:Int) c nF 0 k'/\bO w2 Wt {s with k:=k'}/\KF s w {s with k:=k'} w2):=hJ ⟨.inr ⟨HA.1,n,rfl,hn,J0.symm, .inr ⟨J0.v,y,q,YY.v,et⟩⟩,ka,S1.2.trans kf⟩;go_wp2
   go_ret
   exact⟨0,k',by rw[bF];rfl,S2.v⟩
  .have J0:=hJ j0;have HE:=hJ (bH j0);rw[bH j0];go_wp2
   go_ret
   exact⟨Sg.jC c nF,_,by rw[HE.v];rfl, .inr ⟨HA.1,n,rfl,hn,rfl, .inl ⟨J0.v,rfl⟩⟩,S1.v⟩
 .have FIN:Hid (Kn.yr s.k z c nF (Kn.cD s.k z) s.k):=hJ (.inl ⟨a,rfl,rfl⟩);have HE:=hJ (bH a);rw[bH a]at AC;generalize gQ (s.A 0) z (Kn.cD s.k z)=ap at*;generalize s.A 0=kb at*;go_in
  go_wp2_with fail
  refine sC AC.v ?_;rintro w1 hw;subst w1;go_wp2
  go_ret
  exact⟨Kn.cD s.k z,s.k,by rw[HE.v];rfl,FIN.v,H.1,KF.refl _ _⟩
end
namespace Kn
theorem AI{z:Int}(h:fH k z p=0):lv k (j5 k z p)=bw:=by
 unfold j5;rw[aJ h];unfold fH at h;by_cases a:cD k z=0
 .rw[aJ a]at h;by_cases f:Sp.iw k.sp (Sp.dX k.sp z:Nat) p=0
  .rw[aJ f]at h;cases l:lv k (Sp.fc k.sp (Sp.dX k.sp z:Nat) p)
   .rw[l]at h;revert h;decide
   .rfl
  .rw[aI f]at h;exact aZ h f
 .rw[aI a]at h;exact aZ h a
theorem AJ(hw:∀z p,z<6->p<21->k.sp.b7 z p<=20)(z p:Int):j5 k z p<20:=by
 unfold j5;by_cases c:fH k z p=0
 .rw[aJ c];exact ma hw _ _
 .rw[aI c];omega
def pT(k:Kp)(z p c:Int):Int:=if fH k z p=0 then(if c<1\/8<c then 1 else if p=1 then 8 else 0)else fH k z p
def rh(k:Kp)(z p c:Int)(k':Kp):Prop:=(pT k z p c≠0/\k'=k)\/(pT k z p c=0/\∃y q,YQ k (j5 k z p) y q/\vO (dq k (j5 k z p) (Sg.mO (k.p (j5 k z p)).box c)) (j5 k z p) y q k')
end Kn
section
variable (Wt N:Nat)(d:Nat->Nat)(s:St)(w:bD)
theorem DA(hN:N<=900)(z p c:Int)(h:bO w Wt s)(hi:Kn.KI N d s.k)(h1:Kn.fH s.k z p=0->p≠1->Kn.j5 s.k z p≠0):
  Calls prog 41 #[ai (bj ⟨s.A 0,0,bu⟩),aa az z,aa az p,aa az c] w λe w'=>∃k',e=bf (bN (Kn.pT s.k z p c))/\Kn.rh s.k z p c k'/\bO w' Wt {s with k:=k'}/\KF s w {s with k:=k'} w':=by
 have hw:∀z p,z<6->p<21->s.k.sp.b7 z p<=20:=hi.vi.iv.rM;have SE:=hJ (Ov Wt s w z p h hw);have H:=hJ (aK h (aK hi hN));by_cases a:Kn.fH s.k z p=0
 .have hn:=Kn.AJ hw z p;have hlv:=Kn.AI a;have n0:=h1 a;rw[a,bF]at SE;obtain⟨n,hsn⟩:=hU (Kn.j5 s.k z p);have HSN:=hJ hsn;rw[hsn]at SE hn hlv n0;have hnI:(n:Int)<20:=bB
  by_cases b:c<1\/8<c
  .have E:Kn.pT s.k z p c=1:=by unfold Kn.pT;rw[aJ a,aJ b]
   have FIN:Hid (Kn.rh s.k z p c s.k):=hJ (.inl ⟨by rw[E];decide,rfl⟩);rw[E];generalize s.A 0=kb at*;by_cases b1:c<1
   .clear b;go_in
    go_wp2_with fail
    refine sC SE.v ?_;rintro w1 hb;have S1:Hid (bO w1 Wt s/\KF s w s w1):=hJ ⟨H.1.below hb,KF.below hb⟩;go_wp2
    go_ret
    exact⟨s.k,rfl,FIN.v,S1.v⟩
   .have b2:8<c:=bB
    go_in
    go_wp2_with fail
    refine sC SE.v ?_;rintro w1 hb;have S1:Hid (bO w1 Wt s/\KF s w s w1):=hJ ⟨H.1.below hb,KF.below hb⟩;go_wp2
    go_ret
    exact⟨s.k,rfl,FIN.v,S1.v⟩
  .have b1:¬c<1:=bB
   have b2:¬8<c:=bB
   by_cases p1:p=1
   .subst p1;have E:Kn.pT s.k z 1 c=8:=by unfold Kn.pT;rw[aJ a,aI b,aJ rfl]
    have FIN:Hid (Kn.rh s.k z 1 c s.k):=hJ (.inl ⟨by rw[E];decide,rfl⟩);rw[E];generalize s.A 0=kb at*;go_in
    go_wp2_with fail
    refine sC SE.v ?_;rintro w1 hb;have S1:Hid (bO w1 Wt s/\KF s w s w1):=hJ ⟨H.1.below hb,KF.below hb⟩;go_wp2
    go_ret
    exact⟨s.k,rfl,FIN.v,S1.v⟩
   .have E:Kn.pT s.k z p c=0:=by unfold Kn.pT;rw[aJ a,aI b,aI p1]
    obtain⟨y,q,li⟩:=hi.li hn hlv (Sg.mO (s.k.p n).box c);have FIN:Hid (∀k',Kn.vO (Kn.dq s.k n (Sg.mO (s.k.p n).box c)) n y q k'->Kn.rh s.k z p c k'):=hJ (λk' e=> .inr ⟨E,y,q,by rw[HSN.v];exact⟨li.yq,e⟩⟩);have HH:=hJ (aK (hi.has hn hlv) (aK (n0 p1) li));rw[E,bF];have pI:(p==1)=bA:=by simpa using p1
    obtain⟨kb,hkb⟩:=hU (s.A 0);have HK:=hJ hkb;obtain⟨bb,hbb⟩:=hU (s.A (29+n));have HB:=hJ hbb;rw[hkb]at SE|-;go_in
    go_wp2_with fail
    refine sC SE.v ?_;rintro w1 hb;have S1:Hid (bO w1 Wt s/\KF s w s w1):=hJ ⟨H.1.below hb,KF.below hb⟩;have c5:=S1.1.sX n hn HH.1;have SD:=hJ (xM (s.A (29+n)) c (s.k.p n).box w1 (S1.1.bx n hn HH.1));rw[HK.v,HB.v]at c5;rw[HB.v]at SD;go_wp2_with fail
    refine sC SD.v ?_;rintro w2 ⟨u2,f2⟩;generalize bN (Sg.cN c)=ev;have S2:Hid (bO w2 Wt {s with k:=Kn.dq s.k n (Sg.mO (s.k.p n).box c)}/\KF s w {s with k:=Kn.dq s.k n (Sg.mO (s.k.p n).box c)} w2):=hJ (by
     rw[<-HB.v]at u2 f2;have q:=S1.1.wm hn HH.1 u2 f2;exact⟨q.1,S1.2.trans q.2⟩)
    have LK:=hJ (Br Wt N d {s with k:=Kn.dq s.k n (Sg.mO (s.k.p n).box c)} w2 H.2.2 n y q HH.2.1 S2.1 HH.2.2);rw[show({s with k:=Kn.dq s.k n (Sg.mO (s.k.p n).box c)}:St).A 0=kb from HK.v]at LK;go_wp2_with fail
    refine LK.mono ?_;rintro e w3 ⟨k',rfl,et,ka,kf⟩;have S3:Hid (Kn.rh s.k z p c k'/\bO w3 Wt {s with k:=k'}/\KF s w {s with k:=k'} w3):=hJ ⟨FIN.v k' et,ka,S2.2.trans kf⟩;go_wp2
    go_ret
    exact⟨k',rfl,S3.v⟩
 .have E:Kn.pT s.k z p c=Kn.fH s.k z p:=aI a;have FIN:Hid (Kn.rh s.k z p c s.k):=hJ (.inl ⟨by rw[E];exact a,rfl⟩);rw[bH a]at SE;rw[E,bH a];generalize Kn.j5 s.k z p=sn at*;generalize Kn.fH s.k z p=ae at*;generalize s.A 0=kb at*;go_in
  go_wp2_with fail
  refine sC SE.v ?_;rintro w1 hb;have S1:Hid (bO w1 Wt s/\KF s w s w1):=hJ ⟨H.1.below hb,KF.below hb⟩;go_wp2
  go_ret
  exact⟨s.k,rfl,FIN.v,S1.v⟩
end
namespace Kn
theorem VI.h0(h:VI X N d k):hd k 0=0:=(iG h.iv h.hs bB h.hs.r0.1).2 h.hs.r0.2
theorem VI.Pc(h:VI X N d k){z:Int}(a:fH k z p=0)(p1:p≠1):j5 k z p≠0:=by
 intro e;unfold j5 at e;rw[aJ a]at e;unfold fH at a;by_cases c:cD k z=0
 .rw[aJ c]at a;obtain⟨n,rfl,hn,hl⟩:=fL c;have s1:(k.p n).st=1:=by unfold lv at hl;simpa using hl
  have o:=(h.kj.of n hn).2 bB;obtain⟨y,hy⟩:∃y,k.sp.of n=y+1:=⟨k.sp.of n-1,bB⟩;obtain⟨_,y6,yh⟩:=h.iv.dc hn hy;rw[Sp.iB hn hy]at a e;by_cases f:Sp.iw k.sp (y:Nat) p=0
  .unfold Sp.fc at e;rw[aJ f,hZ]at e;unfold Sp.iw at f;rw[Sp.jP y6 yh,aJ rfl,hZ]at f;by_cases g:p<1\/20<p\/k.sp.b7 y p.toNat=0
   .rw[aJ g]at f;omega
   .have w1:k.sp.b7 y p.toNat=0+1:=bB
    obtain⟨x,x20,xw,xo⟩:=h.hs.hd y y6 yh;by_cases x0:x=0
    .subst x0;have:=h.iv.one y p.toNat 1 y6 bB bB (by rw[w1,xw]) bB;omega
    .exact h.iv.zero h.hs y6 xw x0 ⟨p.toNat,bB,w1⟩
  .rw[aI f]at a;exact f a
 .rw[aI c]at a;exact c a
theorem Pn{X:Nat->Sg.S1}(j:Nat)(h:Sg.ft X 0 0):Sg.ft (Sg.vm X j) 0 0:=by
 rcases h with⟨_,h⟩|⟨h,_⟩
 .refine .inl ⟨rfl,λi h1 h2=>?_⟩;have q:=h i h1 h2;unfold Sg.vm;by_cases j0:j=0
  .first|(rw[aJ j0];exact q)|simp_all
  .unfold Sg.ok at*;by_cases c:i=j
   .subst c;simp[Sg.put,j0]
   .simpa[Sg.put,j0,c]using q
 .omega
theorem KI.box(h:KI N d k)(n:Nat){X:Nat->Sg.S1}(hX:n<20->lv k n=bw->hd k n≠n->Sg.ft X 0 0):KI N d (dq k n X):=by
 have e:∀m,((dq k n X).p m).st=(k.p m).st/\((dq k n X).p m).par=(k.p m).par:=λm=>by
  by_cases c:m=n
  .subst c;unfold dq;rw[bM];exact⟨rfl,rfl⟩
  .unfold dq;rw[bP _ _ _ _ c];exact⟨rfl,rfl⟩
 refine⟨⟨h.vi.kj.Ea rfl rfl rfl,h.vi.iv,h.vi.hs⟩,λm hm l hd1=>?_,λm hm m0 s0=>?_,h.h0⟩
 .have l2:lv k m=bw:=by unfold lv at l|-;rw[(e m).1]at l;exact l
  by_cases c:m=n
  .subst c;unfold dq;rw[bM];exact hX hm l2 hd1
  .unfold dq;rw[bP _ _ _ _ c];exact h.fi m hm l2 hd1
 .rw[(e m).1]at s0;rw[(e m).2];exact h.pr m hm m0 s0
end Kn
namespace Kn
def iA(s:St)(y c:Nat)(v:Value)(T:Mo.Tb):St:=
 ⟨λi=>if i=49+y then c else if i=55+y then v.ownBlock.getD 0 else s.A i,λi=>if i=y then v else s.V i,{s.k with ht:=λi=>if i=y then bw else s.k.ht i,tb:=λi=>if i=y then T else s.k.tb i}⟩
section
variable (s:St)(y c:Nat)(v:Value)(T:Mo.Tb)
theorem nL:(iA s y c v T).A (49+y)=c:=aJ rfl
theorem oI:(iA s y c v T).A (55+y)=v.ownBlock.getD 0:=(nJ).trans (aJ rfl)
theorem fU(h1:i≠49+y)(h2:i≠55+y):(iA s y c v T).A i=s.A i:=(aI h1).trans (aI h2)
theorem qL:(iA s y c v T).V y=v/\(iA s y c v T).k.ht y=bw/\(iA s y c v T).k.tb y=T:=⟨aJ rfl,aJ rfl,aJ rfl⟩
theorem kM(h:i≠y):(iA s y c v T).V i=s.V i/\(iA s y c v T).k.ht i=s.k.ht i/\(iA s y c v T).k.tb i=s.k.tb i:=⟨aI h,aI h,aI h⟩
end
theorem wD{T:Mo.Tb}(hi:us (iA s y c v T) i):i=49+y\/(i=55+y/\v.ownBlock≠bu)\/(us s i/\i≠49+y/\i≠55+y):=by
 by_cases c1:i=49+y
 .exact .inl c1
 .by_cases c2:i=55+y
  .refine .inr (.inl ⟨c2,?_⟩);subst c2;rcases hi with hi|⟨h1,h2,h3⟩|⟨h1,h2,h3⟩|⟨h1,h2,h3⟩|⟨h1,h2,h3,h4⟩
   .omega
   .omega
   .omega
   .omega
   .rw[show 55+y-55=y by omega,(qL s y c v T).1]at h4;exact h4
  .refine .inr (.inr ⟨?_,c1,c2⟩);rcases hi with hi|⟨h1,h2,h3⟩|⟨h1,h2,h3⟩|⟨h1,h2,h3⟩|⟨h1,h2,h3,h4⟩
   .exact .inl hi
   .exact .inr (.inl ⟨h1,h2,h3⟩)
   .exact .inr (.inr (.inl ⟨h1,h2,h3⟩))
   .rw[(kM s y c v T bB).2.1]at h3;exact .inr (.inr (.inr (.inl ⟨h1,h2,h3⟩)))
   .rw[(kM s y c v T bB).2.1]at h3;rw[(kM s y c v T bB).1]at h4;exact .inr (.inr (.inr (.inr ⟨h1,h2,h3,h4⟩)))
theorem Ru(s:St)(y c:Nat)(v:Value)(T:Mo.Tb)(hy:y<6)(o:Nat)(ho:o<253):kc (iA s y c v T) o=if o=240+y then ai (bj ⟨c,0,bu⟩)else kc s o:=by
 unfold kc;by_cases e:o<240
 .rw[aJ e,aJ e,nJ];unfold pc;rw[fU _ _ _ _ _ bB bB,fU _ _ _ _ _ bB bB];rfl
 .rw[aI e,aI e];by_cases c2:o<246
  .rw[aJ c2,aJ c2];by_cases c3:o=240+y
   .rw[aJ c3,show o-240=y by omega,nL,(qL s y c v T).2.1];rfl
   .rw[aI c3,fU _ _ _ _ _ bB bB,(kM s y c v T bB).2.1]
  .have c4:¬o=240+y:=bB
   rw[aI c2,aI c2,aI c4];by_cases c3:o<250
   .rw[aJ c3,aJ c3,fU _ _ _ _ _ bB bB]
   .rw[aI c3,aI c3,fU _ _ _ _ _ bB bB]
end Kn
section
variable {w w':bD}{Wt:Nat}{s:St}
theorem bO.Qh(h:bO w Wt s)(hy:y<6){T:Mo.Tb}(t:bT w Wt c (s.A 6) T v)(ac:∀i,us s i->s.A i≠c)(ag:∀g,v.ownBlock=bj g->∀i,us s i->s.A i≠g)(lc:Wt<=c):
  bO (w.setCell ⟨s.A 0,240+y,bu⟩ (ai (bj ⟨c,0,bu⟩))) Wt (Kn.iA s y c v T)/\bG (s.A 0) w (w.setCell ⟨s.A 0,240+y,bu⟩ (ai (bj ⟨c,0,bu⟩))):=by
 obtain⟨C,e,sz⟩:=h.mT;have f:bG (s.A 0) w (w.setCell ⟨s.A 0,240+y,bu⟩ (ai (bj ⟨c,0,bu⟩))):=(bG.refl _ _).setCell _ _;have o:=h.others cv f;have A9:∀i,i<49->(Kn.iA s y c v T).A i=s.A i:=λi hi=>Kn.fU _ _ _ _ _ bB bB;have t':bT (w.setCell ⟨s.A 0,240+y,bu⟩ (ai (bj ⟨c,0,bu⟩))) Wt c (s.A 6) T v:=t.same (f.block _ t.lt (ac 0 cv).symm) (λg eg=>f.block _ (t.row.lt g eg).2 (ag g eg 0 cv).symm);have rg:v.ownBlock≠bu->∃g,v.ownBlock=bj g/\v.ownBlock.getD 0=g:=λq=>by
  cases e:v.ownBlock with
  |none=>exact aZ e q
  |some g=>exact⟨g,rfl,rfl⟩
 refine⟨⟨⟨_,by rw[A9 0 bB];exact cQ e _ _,by simpa using sz⟩,λi hi=>?_,by rw[A9 1 bB];exact h.sp.same (o 1 cv bB),by rw[A9 2 bB];exact(o 2 cv bB).trans h.gr,by rw[A9 3 bB];exact h.sc.same (o 3 cv bB),by rw[A9 4 bB,A9 5 bB];exact h.bk.same (o 4 cv bB) (o 5 cv bB),by rw[A9 8 bB,A9 6 bB,A9 7 bB];exact h.fi.same (o 8 cv bB),by rw[A9 6 bB];exact h.fo.same (o 6 cv bB),by rw[A9 7 bB];exact h.pi.same (o 7 cv bB),
  λj hj jh=>?_,λj hj jh=>?_,λj hj hh=>?_,λj hj hh g eg=>?_,λi j hi hj eq=>?_,λi hi=>?_⟩,f⟩
 .rw[A9 0 bB,Kn.Ru s y c v T hy i hi];by_cases q:i=240+y
  .subst q;rw[aJ rfl,dF e _ _ bB]
  .rw[aI q,dm e _ _ _ (bQ q),h.eE i hi]
 .rw[A9 _ bB,A9 4 bB];exact(h.me j hj jh).same (o _ (Kn.ja hj jh) bB)
 .rw[A9 _ bB];exact(h.bx j hj jh).same (o _ (Kn.j9 hj jh) bB)
 .by_cases q:j=y
  .subst q;rw[Kn.nL,A9 6 bB,(Kn.qL s j c v T).1,(Kn.qL s j c v T).2.2];exact t'
  .rw[(Kn.kM s y c v T q).2.1]at hh;rw[Kn.fU _ _ _ _ _ bB bB,A9 6 bB,(Kn.kM s y c v T q).1,(Kn.kM s y c v T q).2.2];exact(h.tb j hj hh).same (o _ (Kn.kE hj hh) bB) (λg eg=>by have:=o _ (Kn.km hj hh eg) bB;rwa [h.ro j hj hh g eg]at this)
 .by_cases q:j=y
  .subst q;rw[(Kn.qL s j c v T).1]at eg;rw[Kn.oI,eg];rfl
  .rw[(Kn.kM s y c v T q).2.1]at hh;rw[(Kn.kM s y c v T q).1]at eg;rw[Kn.fU _ _ _ _ _ bB bB];exact h.ro j hj hh g eg
 .rcases Kn.wD hi with rfl|⟨rfl,vi⟩|⟨ui,i1,i2⟩<;>rcases Kn.wD hj with rfl|⟨rfl,vj⟩|⟨uj,j1,j2⟩
  .rfl
  .obtain⟨g,g1,g2⟩:=rg vj;rw[Kn.nL,Kn.oI,g2]at eq;exact aZ eq.symm (t.Qf g g1)
  .rw[Kn.nL,Kn.fU _ _ _ _ _ j1 j2]at eq;exact aZ eq.symm (ac j uj)
  .obtain⟨g,g1,g2⟩:=rg vi;rw[Kn.nL,Kn.oI,g2]at eq;exact aZ eq (t.Qf g g1)
  .rfl
  .obtain⟨g,g1,g2⟩:=rg vi;rw[Kn.oI,g2,Kn.fU _ _ _ _ _ j1 j2]at eq;exact aZ eq.symm (ag g g1 j uj)
  .rw[Kn.nL,Kn.fU _ _ _ _ _ i1 i2]at eq;exact aZ eq (ac i ui)
  .obtain⟨g,g1,g2⟩:=rg vj;rw[Kn.oI,g2,Kn.fU _ _ _ _ _ i1 i2]at eq;exact aZ eq (ag g g1 i ui)
  .rw[Kn.fU _ _ _ _ _ i1 i2,Kn.fU _ _ _ _ _ j1 j2]at eq;exact h.inj i j ui uj eq
 .rcases Kn.wD hi with rfl|⟨rfl,vi⟩|⟨ui,i1,i2⟩
  .rw[Kn.nL];exact lc
  .obtain⟨g,g1,g2⟩:=rg vi;rw[Kn.oI,g2];exact(t.row.lt g g1).1
  .rw[Kn.fU _ _ _ _ _ i1 i2];exact h.low i ui
end
theorem bT.low{B:Nat}{T:Mo.Tb}(h:bT w B b f T v)(hB:Wt<=B):bT w Wt b f T v:=by
 refine⟨h.da,⟨h.row.1,?_⟩,h.sH⟩;rcases h.row.2 with q|⟨g,cap,cur,e,hb,r⟩
 .exact .inl q
 .exact .inr ⟨g,cap,cur,e,aH hB hb,r⟩
def Kn.jL(k:Kp)(n:Nat)(own:Bool):Int:=if own=bw then Sp.iY k.sp ((Sp.dX k.sp (n:Int):Nat):Int)else 0
def Kn.nj(k:Kp)(n:Nat)(own:Bool):Nat:=if own=bw then Sp.nS k.sp ((Sp.dX k.sp (n:Int):Nat):Int)else Sp.dX k.sp (n:Int)
def Kn.fN(k:Kp)(n:Nat)(own:Bool):Kp:=if own=bw/\Kn.jL k n own=0 then{k with sp:=Sp.ga k.sp ((Sp.dX k.sp (n:Int):Nat):Int),fo:=Mo.nX k.fo (k.tb (Sp.dX k.sp (n:Int))),ht:=λi=>if i=Kn.nj k n own then bw else k.ht i,tb:=λi=>if i=Kn.nj k n own then k.tb (Sp.dX k.sp (n:Int))else k.tb i}else k
section
variable (Wt N:Nat)(d:Nat->Nat)(s:St)(w:bD)
theorem KX(n z:Nat)(own:Bool)(h:bO w Wt s)(hb:Wt<=w.heap.size)(hv:VI (λ_=>False) N d s.k)(hn:n<20)(ho:s.k.sp.of n=z+1):
  Calls prog 66 #[ai (bj ⟨s.A 0,0,bu⟩),aa az n, .bool own] w λe w'=>∃s',e=bf (ao #[aa az (Kn.nj s.k n own:Int),bN (Kn.jL s.k n own)])/\s'.k=Kn.fN s.k n own/\bO w' Wt s'/\KF s w s' w':=by
 obtain⟨_,z6,zh⟩:=hv.iv.dc hn ho;have z6I:(z:Int)<6:=bB
 have SP:=hJ (iJ Wt s w (n:Int) h);have iz:Sp.dX s.k.sp (n:Int)=z:=Sp.iB hn ho;have hz:s.k.ht z=bw:=by rw[hv.kj.ht z z6];exact zh
 have H:=hJ (aK h (aK hv (aK hz hb)));rw[iz]at SP;cases own
 .have E:Hid (Kn.jL s.k n bA=0/\Kn.nj s.k n bA=z/\Kn.fN s.k n bA=s.k):=hJ ⟨rfl,iz,by unfold Kn.fN;rw[aI (λq=>by cases q.1)]⟩;rw[E.1,E.2.1,bF];generalize s.A 0=kb at*;go_in
  go_wp2_with fail
  refine sC SP.v ?_;rintro w1 hw;subst w1;go_wp2
  go_ret2
  exact⟨s,rfl,E.2.2.symm,H.1,KF.refl _ _⟩
 .have E0:Kn.jL s.k n bw=Sp.iY s.k.sp (z:Int):=by unfold Kn.jL;rw[aJ rfl,iz]
  have N0:Kn.nj s.k n bw=Sp.nS s.k.sp (z:Int):=by unfold Kn.nj;rw[aJ rfl,iz]
  have AD:=hJ (vU (s.A 1) (z:Int) s.k.sp d w h.sp hv.iv);have c6:=h.yL;obtain⟨kb,hkb⟩:=hU (s.A 0);have HK:=hJ hkb;obtain⟨p1,hp1⟩:=hU (s.A 1);have HP:=hJ hp1;rw[hkb]at SP c6|-;rw[hp1]at AD c6;by_cases c:Sp.iY s.k.sp (z:Int)=0
  .obtain⟨f6,fh⟩:Sp.fK s.k.sp<6/\s.k.sp.here (Sp.fK s.k.sp)=bA:=by obtain⟨n1,e1,a1,a2,a3,a4,a5,a6⟩:=Sp.po c;exact⟨a4,a5⟩
   have an:Sp.nS s.k.sp (z:Int)=Sp.fK s.k.sp:=aJ c;obtain⟨y,hy⟩:=hU (Sp.fK s.k.sp);rw[hy]at f6 fh an;have EK:Hid (Kn.fN s.k n bw={s.k with sp:=Sp.ga s.k.sp (z:Int),fo:=Mo.nX s.k.fo (s.k.tb z),ht:=λi=>if i=y then bw else s.k.ht i,tb:=λi=>if i=y then s.k.tb z else s.k.tb i}):=hJ (by
    unfold Kn.fN;rw[aJ ⟨rfl,by rw[E0];exact c⟩,N0,an,iz])
   rw[E0,N0,an,c,bF];rw[an,c,bF]at AD;have y6I:(y:Int)<6:=bB
   have YZ:y≠z:=λe=>by rw[e,zh]at fh;cases fh
   go_in
   go_wp2_with fail
   refine sC SP.v ?_;rintro w1 hw;subst w1;go_wp2_with fail
   refine sC AD.v ?_;rintro w1 ⟨t1,f1⟩;have S1:Hid (bO w1 Wt {s with k:={s.k with sp:=Sp.ga s.k.sp (z:Int)}}/\KF s w {s with k:={s.k with sp:=Sp.ga s.k.sp (z:Int)}} w1/\Wt<=w1.heap.size):=hJ (by
    rw[<-HP.v]at t1 f1;have q:=H.1.ze t1 f1;exact⟨q.1,q.2,aH H.2.2.2 f1.size⟩)
   go_upto_region 7 with fail
   have KC:Hid (∀W k,bO W Wt {s with k:=k}->k.ht z=bw->W.cell? ⟨kb,240+z,bu⟩=bj (ai (bj ⟨s.A (49+z),0,bu⟩))):=hJ (λW k hW e=>by
    have q:=hW.Ns z z6 e;rw[show({s with k:=k}:St).A 0=kb from HK.v]at q;exact q)
   have K0:=hJ (KC.v w1 _ S1.1 H.2.2.1);have CP:=hJ (NG Wt (s.A (49+z)) (s.A 6) 102 (s.k.tb z) (s.V z) s.k.fo w1.drew (S1.1.drew.tb z z6 H.2.2.1) S1.1.drew.fo H.2.1.kj.hb bE);obtain⟨tz,htz⟩:=hU (s.A (49+z));rw[htz]at CP K0;have y1:=K0.v;go_region_held3 (λw'=>w'.cell? ⟨kb,240+z,bu⟩=bj (ai (bj ⟨tz,0,bu⟩))) (first|exact K0.v|exact K4.v|exact K5.v) (
    (go_at_call 141;refine CP.mono ?_;rintro e w4 ⟨c,v',rfl,lc,t4,u4,f4⟩;have S4:Hid (bO w4 Wt {s with k:={s.k with sp:=Sp.ga s.k.sp (z:Int),fo:=Mo.nX s.k.fo (s.k.tb z)}}/\KF s w {s with k:={s.k with sp:=Sp.ga s.k.sp (z:Int),fo:=Mo.nX s.k.fo (s.k.tb z)}} w4/\bT w4 w1.heap.size c (s.A 6) (s.k.tb z) v'/\w1.heap.size<=c):=hJ (by
      have q:=S1.1.drew.Cv u4 f4;exact⟨q.1,S1.2.1.trans ((KF.drew _ _).trans q.2),t4,lc⟩);have K4:Hid (w4.cell? ⟨kb,240+z,bu⟩=bj (ai (bj ⟨tz,0,bu⟩))):=hJ (by
      rw[<-K0.v];exact aV (f4.block kb (by rw[<-HK.v];exact S1.1.lt cv) (by rw[<-HK.v];exact S1.1.ne cv cv bB)));have K5:Hid ((w4.setCell ⟨kb,240+y,bu⟩ (ai (bj ⟨c,0,bu⟩))).cell? ⟨kb,240+z,bu⟩=bj (ai (bj ⟨tz,0,bu⟩))):=hJ (by
      obtain⟨C,e,_⟩:=S4.1.mT;rw[show({s with k:={s.k with sp:=Sp.ga s.k.sp (z:Int),fo:=Mo.nX s.k.fo (s.k.tb z)}}:St).A 0=kb from HK.v]at e;rw[dm e _ _ _ bB];exact K4.v);have cy:∃vy,w4.cell? ⟨kb,240+y,bu⟩=bj vy:=(by rw[<-HK.v];exact⟨_,S4.1.eE (240+y) bB⟩);obtain⟨vy,cy⟩:=cy;have fz:∀o,w4.frozen? ⟨kb,o,bu⟩=bA:=(λo=>by rw[<-HK.v];exact S4.1.frozen o)))
   have FIN:Hid (bO (w4.setCell ⟨kb,240+y,bu⟩ (ai (bj ⟨c,0,bu⟩))) Wt (Kn.iA {s with k:={s.k with sp:=Sp.ga s.k.sp (z:Int),fo:=Mo.nX s.k.fo (s.k.tb z)}} y c v' (s.k.tb z))/\KF s w (Kn.iA {s with k:={s.k with sp:=Sp.ga s.k.sp (z:Int),fo:=Mo.nX s.k.fo (s.k.tb z)}} y c v' (s.k.tb z)) (w4.setCell ⟨kb,240+y,bu⟩ (ai (bj ⟨c,0,bu⟩)))):=hJ (by
    have lt1:∀i,us s i->s.A i<w1.heap.size:=λi hi=>aD (H.1.lt hi) S1.2.1.ia.size;have q:=S4.1.Qh f6 (S4.2.2.1.low S1.2.2) (λi hi=>by have:=lt1 i hi;have:=S4.2.2.2;show s.A i≠c;omega) (λg eg i hi=>by have:=lt1 i hi;have:=(S4.2.2.1.row.lt g eg).1;show s.A i≠g;omega) (aH S1.2.2 S4.2.2.2);rw[show({s with k:={s.k with sp:=Sp.ga s.k.sp (z:Int),fo:=Mo.nX s.k.fo (s.k.tb z)}}:St).A 0=kb from HK.v]at q;refine⟨q.1,S4.2.1.ia.trans (dS.kS q.2 (by rw[<-HK.v];exact⟨0,cv,rfl⟩)),λb ⟨i,hi,eb⟩=>?_,Kn.fU _ _ _ _ _ bB bB⟩;rcases Kn.wD hi with rfl|⟨rfl,vi⟩|⟨ui,i1,i2⟩
    .rw[Kn.nL]at eb;exact .inr (by rw[eb];exact aH S1.2.1.ia.size S4.2.2.2)
    .rw[Kn.oI]at eb;cases e:v'.ownBlock with
     |none=>exact aZ e vi
     |some g=>
      rw[e]at eb;have:=(S4.2.2.1.row.lt g e).1;exact .inr (by rw[eb];exact aH S1.2.1.ia.size this)
    .rw[Kn.fU _ _ _ _ _ i1 i2]at eb;exact .inl ⟨i,ui,eb⟩)
   go_wp2
   go_ret2
   exact⟨rfl,_,EK.symm,FIN.v⟩
  .have E:Hid (Kn.fN s.k n bw=s.k/\Sp.ga s.k.sp (z:Int)=s.k.sp):=hJ ⟨by unfold Kn.fN;rw[aI (λq=>c (by rw[<-E0];exact q.2))],aI c⟩;have an:Sp.nS s.k.sp (z:Int)=0:=aI c;rw[E0,N0,an,bH c];rw[an,bH c]at AD;generalize Sp.iY s.k.sp (z:Int)=ae at*;go_in
   go_wp2_with fail
   refine sC SP.v ?_;rintro w1 hw;subst w1;go_wp2_with fail
   refine sC AD.v ?_;rintro w1 ⟨t1,f1⟩;have S1:Hid (bO w1 Wt s/\KF s w s w1):=hJ (by
    rw[<-HP.v]at t1 f1;rw[E.2]at t1;exact H.1.ze t1 f1)
   go_wp2
   go_ret2
   exact⟨s,rfl,E.1.symm,S1.v⟩
end
namespace Mv
theorem uD{fr:Nat->Nat}(f:Nat):∀n,(∀x,x<n->fr x=0)->eV fr f n=0
 |0,_=>rfl
 |n+1,h=>by
  show eV fr f n+(if fr n=f+1 then 1 else 0)=0;rw[uD f n (λx hx=>h x bB),h n bB,nJ]
theorem gw.Tv{k:Bk}{me:Nat->Me}(h:gw k N me)(hi:i<N)(hj:j<N)(h0:∀x,x<16->(me j).fr x=0):gw (eI (me i) k 16) N (j6 me j (me i)):=by
 refine⟨h.inv,h.nb,h.n8,λa ha n hn=>?_,λf hf=>?_,λf hf=>?_,h.one⟩
 .by_cases c:a=j
  .subst c;rw[fZ];exact h.le i hi n hn
  .rw[iW _ _ _ _ c];exact h.le a ha n hn
 .show k.refs f+eV (me i).fr f 16=lW (j6 me j (me i)) f N;have:=Hm me f j (me i) N;rw[aJ hj,aJ hj,uD f 16 h0]at this;rw[h.ref f hf];omega
 .show k.dg.tk f=bw↔1<=k.refs f+eV (me i).fr f 16;rw[h.tk f hf];have:=(h.cW hi).cW f hf;omega
end Mv
namespace Sp
section
variable {t:T}{d:Nat->Nat}{z x:Nat}
theorem Dk(hz:z<6)(hh:t.here z=bw)(hx:x<20)(h0:t.of x=0):mJ t (z:Int) (x:Int)=0/\fM t (z:Int) (x:Int)={Eb t (W t (z:Int)) x with of:=tX t.of x (z+1)}:=by
 have e:mJ t (z:Int) (x:Int)=0:=by
  unfold mJ jk;rw[jP hz hh,aJ rfl,vd hx,aJ rfl,hZ,aJ h0]
 refine⟨e,?_⟩;unfold fM;rw[aJ e,hZ,hZ]
theorem qA(hz:z<6)(hh:t.here z=bw)(hx:x<20)(h0:t.of x=0)(m:Nat):(fM t (z:Int) (x:Int)).of m=if m=x then z+1 else t.of m:=by rw[(Dk hz hh hx h0).2];rfl
theorem lM(hz:z<6)(hh:t.here z=bw)(hx:x<20)(h0:t.of x=0):(fM t (z:Int) (x:Int)).here=t.here/\(fM t (z:Int) (x:Int)).par=t.par:=by rw[(Dk hz hh hx h0).2];exact⟨rfl,rfl⟩
theorem Ah(hz:z<6)(hh:t.here z=bw)(hx:x<20)(h0:t.of x=0)(s p:Nat):(fM t (z:Int) (x:Int)).b7 s p=if s∈W t (z:Int)/\p=low t s then x+1 else t.b7 s p:=by rw[(Dk hz hh hx h0).2];rfl
theorem tn(hI:Inv t d)(hz:z<6)(hh:t.here z=bw)(hx:x<20)(h0:t.of x=0){s p:Nat}(hs:s<6)(hw:t.b7 s p≠0):(fM t (z:Int) (x:Int)).b7 s p=t.b7 s p:=by
 rw[Ah hz hh hx h0,aI];rintro⟨_,rfl⟩;exact hw (hI.low hx h0 hs).2.2.1
theorem qZ.enter(hI:Inv t d)(hz:z<6)(hh:t.here z=bw)(hx:x<20)(h0:t.of x=0)(hH:∀s,s<6->t.here s=bw->(∃h,h<20/\t.b7 s 1=h+1/\t.of h=s+1)\/(s=z/\∀p,p<21->t.b7 s p=0))(r0:t.of 0=1/\t.b7 0 1=1):qZ (fM t (z:Int) (x:Int)):=by
 refine⟨λs hs hs2=>?_,?_⟩
 .rw[(lM hz hh hx h0).1]at hs2;rcases hH s hs hs2 with⟨h,a,b,c⟩|⟨rfl,e⟩
  .exact⟨h,a,by rw[tn hI hz hh hx h0 hs bB];exact b,by rw[qA hz hh hx h0,aI (λq=>by subst q;omega)];exact c⟩
  .have l:=hI.low hx h0 hs;have l1:low t s=1:=by
    by_cases c:low t s=1
    .exact c
    .exact aZ (e 1 bB) (l.2.2.2 1 bB bB)
   refine⟨x,hx,?_,by rw[qA hz hh hx h0,aJ rfl]⟩;have mz:s∈W t (s:Int):=by rw[hI.tree.step hz hh];simp
   rw[Ah hz hh hx h0,aJ ⟨mz,l1.symm⟩]
 .have x0:(0:Nat)≠x:=λq=>by subst q;rw[r0.1]at h0;omega
  rw[qA hz hh hx h0,aI x0,tn hI hz hh hx h0 bB (by rw[r0.2];omega)];exact r0
theorem add_eq{y:Int}(h:iY t y=0):ga t y={t with here:=nN t.here (fK t) bw,par:=gD t.par (fK t) y}:=by unfold ga;rw[aJ h]
end
end Sp
namespace Mo
theorem oE(F:Fo)(z:Int)(n:Nat):((Tr.dP F z).nd n).kind=(F.nd n).kind:=by
 unfold Tr.dP;split
 .by_cases c:n=z.toNat
  .subst c;rw[Tr.bM]
  .rw[Tr.bP _ _ _ _ c]
 .rfl
theorem Og(F:Fo)(T:Mo.Tb)(n:Nat):((nX F T).nd n).kind=(F.nd n).kind:=by
 have:∀(L:List Mt) (G:Fo),((L.foldl nD G).nd n).kind=(G.nd n).kind:=λL=>by
  induction L with
  |nil=>exact λ_=>rfl
  |cons m L ih=>exact λG=>(ih _).trans ((oE _ _ _).trans (oE _ _ _))
 exact(this _ _).trans (oE _ _ _)
theorem TJ{T:Mo.Tb}(h:Tr.Ok F):Tr.Ok (nX F T):=by
 have:∀(L:List Mt) (G:Fo),Tr.Ok G->Tr.Ok (L.foldl nD G):=λL=>by
  induction L with
  |nil=>exact λ_ h=>h
  |cons m L ih=>exact λG h=>ih _ ((h.dP _).dP _)
 exact this _ _ (h.dP _)
theorem Ls{L:List Mt}{m:Mt}(h:m∈L)(n:Nat):gT m.1.2 n+gT m.2.2 n<=mc L n:=by
 induction L with
 |nil=>cases h
 |cons x L ih=>
  rw[nH];rcases List.mem_cons.1 h with rfl|h
  .omega
  .have:=ih h;omega
theorem HI.tab{f:Nat->Nat}{T:Mo.Tb}(h:HI F f)(hr:Rg T)(hf:∀n,n<40->tc T n<=f n):Tr.cH F T.rt.2=0/\∀m∈T.ms,Tr.cH F m.1.2=0/\Tr.cH F m.2.2=0:=by
 have key:∀z,wR z->(∀n,n<40->gT z n<=f n)->Tr.cH F z=0:=λz hz hl=>by
  obtain⟨n,rfl,n40⟩:=hz;unfold Tr.cH;have:=hl n n40;rw[rD]at this;rw[nJ,hZ,aI (h.lv n n40 bB)]
 refine⟨key _ hr.1 (λn hn=>?_),λm hm=>⟨key _ (hr.2 m hm).1 (λn hn=>?_),key _ (hr.2 m hm).2 (λn hn=>?_)⟩⟩
 .have:=hf n hn;unfold tc at this;omega
 .have a:=hf n hn;have b:=Ls hm n;unfold tc at a;omega
 .have a:=hf n hn;have b:=Ls hm n;unfold tc at a;omega
end Mo
namespace Kn
section
variable {X:Nat->Prop}{N:Nat}{d:Nat->Nat}{k:Kp}
theorem BP(k:Kp)(k':Kp)(y:Nat)(T:Mo.Tb)(h1:k'.ht=λi=>if i=y then bw else k.ht i)(h2:k'.tb=λi=>if i=y then T else k.tb i)(h0:k.ht y=bA)(m:Nat):∀s,ly k' m s=ly k m s+(if y<s then Mo.tc T m else 0)
 |0=>by rw[aI (Nat.not_lt_zero _)];rfl
 |s+1=>by
  have ih:=BP k k' y T h1 h2 h0 m s;show ly k' m s+(if k'.ht s=bw then Mo.tc (k'.tb s) m else 0)=ly k m s+(if k.ht s=bw then Mo.tc (k.tb s) m else 0)+_;rw[ih];by_cases c:s=y
  .have a:k'.ht s=bw:=by rw[h1];exact aJ c
   have b:k'.tb s=T:=by rw[h2];exact aJ c
   subst c;rw[aJ a,b,h0,aI (show¬s<s by omega),aI (show¬bA=bw by decide),aJ (show s<s+1 by omega)]
  .have a:k'.ht s=k.ht s:=by rw[h1];exact aI c
   have b:k'.tb s=k.tb s:=by rw[h2];exact aI c
   rw[a,b];by_cases e:y<s
   .rw[aJ e,aJ (show y<s+1 by omega)];omega
   .rw[aI e,aI (show¬y<s+1 by omega)];omega
theorem sM{k:Kp}{z:Nat}(m:Nat)(hz:k.ht z=bw):∀s,z<s->Mo.tc (k.tb z) m<=ly k m s
 |0,h=>aZ h (Nat.not_lt_zero _)
 |s+1,h=>by
  show _<=ly k m s+(if k.ht s=bw then Mo.tc (k.tb s) m else 0);by_cases c:z=s
  .subst c;rw[aJ hz];omega
  .have:=sM m hz s bB;omega
def Ay(k:Kp)(z y:Nat):Kp:={k with sp:=Sp.ga k.sp (z:Int),fo:=Mo.nX k.fo (k.tb z),ht:=λi=>if i=y then bw else k.ht i,tb:=λi=>if i=y then k.tb z else k.tb i}
theorem KJ.LH(h:KJ X N k)(ea:Sp.iY k.sp (z:Int)=0)(hy:Sp.fK k.sp=y):KJ X N (Ay k z y):=by
 obtain⟨z',ez,z6,zh,wl,f6,fh,fl⟩:=Sp.po ea;obtain rfl:z=z':=bB
 rw[hy]at f6 fh;have htz:k.ht z=bw:=by rw[h.ht z z6];exact zh
 have hty:k.ht y=bA:=by rw[h.ht y f6];exact fh
 have tx:∀m,jO (Ay k z y) m=jO k m+Mo.tc (k.tb z) m:=λm=>by
  have:=BP k (Ay k z y) y (k.tb z) rfl rfl hty m 6;rw[aJ f6]at this;exact this
 have rg:=h.tb z z6 htz;have hi:Mo.HI k.fo (λn=>Fx.cK k.fi 1 n 24+jO k n):=⟨λn hn=>h.wx.hl n hn,λn hn c kz=>by
  have:=h.wx.z0 n hn kz;rw[h.wx.hl n hn]at this;omega⟩
 have nn:=hi.tab rg.1 (λn _=>by have:Mo.tc (k.tb z) n<=jO k n:=sM n htz 6 z6;omega);have ho:=Mo.TI hi nn.1 nn.2;have es:=Sp.add_eq ea;rw[hy]at es;refine⟨?_,h.gr,h.me,?_,h.rf,Mo.TJ h.ok,λs hs q=>?_,h.st,h.hs,h.lv,λn hn=>?_,λs hs=>?_,h.nm⟩
 .obtain⟨d,hd⟩:=h.sp;exact hd.add _
 .refine⟨h.wx.no,h.wx.kd,λn hn r k1=>?_,h.wx.pn,h.wx.ps,λm hm=>?_,λm hm kz=>?_,h.wx.rd,h.wx.wt⟩
  .have a:=h.wx.nd n hn r k1;exact⟨a.1,by show((Mo.nX k.fo (k.tb z)).nd _).kind=1;rw[Mo.Og];exact a.2⟩
  .show((Mo.nX k.fo (k.tb z)).nd m).held=_;rw[ho.hd m hm,tx m];show _=Fx.cK k.fi 1 m 24+_;omega
  .by_cases c:((Mo.nX k.fo (k.tb z)).nd m).held=0
   .exact c
   .exact aZ kz (ho.lv m hm (by rw[<-ho.hd m hm];omega))
 .have q2:(if s=y then bw else k.ht s)=bw:=q;show Mo.Rg (if s=y then k.tb z else k.tb s)/\(if s=y then k.tb z else k.tb s).ms.length<=6;by_cases c:s=y
  .rw[aJ c];exact rg
  .rw[aI c]at q2|-;exact h.tb s hs q2
 .show(Sp.ga k.sp (z:Int)).of n≠0↔_;rw[es];exact h.of n hn
 .show(if s=y then bw else k.ht s)=(Sp.ga k.sp (z:Int)).here s;rw[es];show _=if s=y then bw else k.sp.here s;by_cases c:s=y
  .rw[aJ c,aJ c]
  .rw[aI c,aI c];exact h.ht s hs
theorem xv(hz:Sp.dX k.sp (n:Int)=z)(ea:Sp.iY k.sp (z:Int)=0)(hy:Sp.fK k.sp=y):fN k n bw=Ay k z y/\nj k n bw=y/\jL k n bw=0:=by
 have e0:jL k n bw=0:=by unfold jL;rw[aJ rfl,hz];exact ea
 have n0:nj k n bw=y:=by
  unfold nj Sp.nS;rw[aJ rfl,hz,aJ ea,hy]
 refine⟨?_,n0,e0⟩;unfold fN;rw[aJ ⟨rfl,e0⟩,n0,hz];rfl
theorem Ak(k:Kp)(n:Nat):fN k n bA=k/\jL k n bA=0:=⟨by unfold fN;rw[aI (λq=>by cases q.1)],rfl⟩
def jN(k:Kp)(fd:Nat->Int):Nat->Kp
 |0=>k
 |j+1=>if fd j= -1 then jN k fd j else{jN k fd j with fi:=Fx.j7 (jN k fd j).fi (fd j)}
theorem kG(k:Kp)(fd:Nat->Int):∀j,∃T,jN k fd j={k with fi:=T}
 |0=>⟨k.fi,rfl⟩
 |j+1=>by
  obtain⟨T,e⟩:=kG k fd j;by_cases c:fd j= -1
  .exact⟨T,by show(if fd j= -1 then _ else _)=_;rw[aJ c];exact e⟩
  .exact⟨Fx.j7 T (fd j),by show(if fd j= -1 then _ else _)=_;rw[aI c,e]⟩
theorem Mf{xx:Nat->Nat}{T:Nat->Fx.Fi}{S:Nat->Pp.Pi}(h:WX xx T F S)(z:Int):WX xx (Fx.j7 T z) F S/\∀n,(Fx.j7 T z n).refs<=(T n).refs+1:=by
 unfold Fx.j7;by_cases c:Fx.dy T z=0
 .rw[aJ c];obtain⟨n,rfl,hn,r⟩:=Fx.kX c;rw[hZ];refine⟨h.kP hn r _ (Nat.succ_ne_zero _) rfl rfl (h.ps n hn),λm=>?_⟩;by_cases e:m=n
  .subst e;rw[Fx.bM];exact aL _
  .rw[Fx.bP _ _ _ _ e];omega
 .rw[aI c];exact⟨h,λ_=>bB⟩
theorem Hh{xx:Nat->Nat}{k:Kp}(h:WX xx k.fi k.fo k.pi)(fd:Nat->Int):∀j,WX xx (jN k fd j).fi k.fo k.pi/\∀n,((jN k fd j).fi n).refs<=(k.fi n).refs+j
 |0=>⟨h,λ_=>aL _⟩
 |j+1=>by
  have ih:=Hh h fd j;show WX xx (if fd j= -1 then jN k fd j else _:Kp).fi k.fo k.pi/\∀n,((if fd j= -1 then jN k fd j else _:Kp).fi n).refs<=_;by_cases c:fd j= -1
  .rw[aJ c];exact⟨ih.1,λn=>by have:=ih.2 n;omega⟩
  .rw[aI c];have a:=Mf ih.1 (fd j);exact⟨a.1,λn=>by have:=a.2 n;have:=ih.2 n;show(Fx.j7 (jN k fd j).fi (fd j) n).refs<=_;omega⟩
def eU(k:Kp)(n:Nat):Pr:={k.p n with par:=(n:Int),box:=Sg.qy (k.p n).box}
def dI(k:Kp)(n:Nat):Kp:=jN {k with bk:=Mv.eI (k.p n).mem k.bk 16} (k.p n).fd 6
theorem KJ.Wm(h:KJ X N k){m':Wf.M}(hX:¬X c)(hn:n<20)(hc:c<20)(l:Kn.lv k n=bw)(hh:(k.p n).has=bw)(c0:(k.p c).st=0)(z6:z<6)(zh:k.sp.here z=bw)(wk:Wf.jb (Wf.dH k.sc (c:Int) (k.p n).cA) (c:Int) bw m'):KJ X (N+1) (iP (dI k n) c (eU k n) (z:Int) m'):=by
 obtain⟨T,eT⟩:=kG {k with bk:=Mv.eI (k.p n).mem k.bk 16} (k.p n).fd 6;have st1:(k.p n).st=1:=by unfold Kn.lv at l;simpa using l
 have nc:n≠c:=λe=>by subst e;omega
 have fh:(k.p c).has=bA:=by
  cases e:(k.p c).has
  .rfl
  .have:=h.hs c hc e;omega
 have o0:k.sp.of c=0:=by
  by_cases e:k.sp.of c=0
  .exact e
  .exact aZ c0 ((h.of c hc).1 e)
 have cop:dI k n={k with bk:=Mv.eI (k.p n).mem k.bk 16,fi:=T}:=eT;have wx:=Hh (k:={k with bk:=Mv.eI (k.p n).mem k.bk 16}) h.wx (k.p n).fd 6;rw[eT]at wx;rw[cop];have e:∀m,m≠c->(iP {k with bk:=Mv.eI (k.p n).mem k.bk 16,fi:=T} c (eU k n) (z:Int) m').p m=k.p m:=λm q=>bP _ _ _ _ q;have e2:(iP {k with bk:=Mv.eI (k.p n).mem k.bk 16,fi:=T} c (eU k n) (z:Int) m').p c=eU k n:=bM _ _ _;refine⟨?_,?_,?_,wx.1,λm hm=>?_,h.ok,h.tb,λm hm=>?_,λm hm=>?_,λm hm=>?_,λm hm=>?_,λs hs=>?_,λm hm=>?_⟩
 .obtain⟨d,hd⟩:=h.sp;exact⟨d,hd.enter _ _⟩
 .obtain⟨Wy,g⟩:=h.gr;exact⟨Wy,g.mono (Nat.le_succ N)⟩
 .rw[show(λm=>((iP {k with bk:=Mv.eI (k.p n).mem k.bk 16,fi:=T} c (eU k n) (z:Int) m').p m).mem)=Mv.j6 (λm=>(k.p m).mem) c (k.p n).mem from funext λm=>by
   by_cases q:m=c
   .subst q;rw[e2,Mv.fZ];rfl
   .rw[e m q,Mv.iW _ _ _ _ q]]
  exact h.me.Tv (i:=n) hn hc (λx _=>by show(k.p c).mem.fr x=0;rw[h.nm c hc fh];rfl)
 .have:=wx.2 m;have:=h.rf m hm;show(T m).refs<=_;have t:(T m).refs<=(k.fi m).refs+6:=wx.2 m;omega
 .by_cases q:m=c
  .subst q;rw[e2];show(k.p n).st<=2;omega
  .rw[e m q];exact h.st m hm
 .by_cases q:m=c
  .subst q;rw[e2];intro _;exact st1
  .rw[e m q];exact h.hs m hm
 .intro hx;by_cases q:m=c
  .subst q;rw[e2];intro _;exact hh
  .rw[e m q];exact h.lv m hm hx
 .show(Sp.fM k.sp (z:Int) (c:Int)).of m≠0↔_;rw[Sp.qA z6 zh hc o0];by_cases q:m=c
  .subst q;rw[e2,aJ rfl];exact⟨λ_=>by show(k.p n).st≠0;omega,λ_=>bB⟩
  .rw[e m q,aI q];exact h.of m hm
 .show k.ht s=(Sp.fM k.sp (z:Int) (c:Int)).here s;rw[(Sp.lM z6 zh hc o0).1];exact h.ht s hs
 .by_cases q:m=c
  .subst q;rw[e2];intro f;have f2:(k.p n).has=bA:=f;rw[hh]at f2;cases f2
  .rw[e m q];exact h.nm m hm
end
end Kn
section
variable {s s1:St}{w W W':bD}{rb Wt:Nat}
theorem KF.fresh(h:KF s w s1 W)(f:bG rb W W')(hr:w.heap.size<=rb):KF s w s1 W':=⟨⟨f.os.trans h.ia.os,f.tape.trans h.ia.tape,f.output.trans h.ia.output,aH h.ia.size f.size,λb hb hn=>(f.block b (aD hb h.ia.size) bB).trans (h.ia.block b hb hn)⟩,h.sub,h.a0⟩
theorem bO.fresh(h:bO W Wt s)(f:bG rb W W')(hn:¬KB s rb):bO W' Wt s:=h.same (λi hi=>f.block _ (h.lt hi) (λe=>hn ⟨i,hi,e.symm⟩))
theorem bO.ie(h:bO w Wt s)(hr:w.heap.size<=rb):¬KB s rb:=λc=>by have:=h.Vt c;omega
end
def CB(w:bD)(b:Nat)(p c:Int):Prop:=w.heap[b]? =bj (bh #[aa az p,aa az c] 54 (0,0))
theorem CB.lt{c:Int}(h:CB w b p c):b<w.heap.size:=(aX.1 h).1
theorem CB.c0{c:Int}(h:CB w b p c):w.cell? ⟨b,0,bu⟩=bj (aa az p):=by rw[bR h];rfl
theorem CB.c1{c:Int}(h:CB w b p c):w.cell? ⟨b,1,bu⟩=bj (aa az c):=by rw[bR h];rfl
theorem CB.frozen{w:bD}{b:Nat}{p c:Int}(h:CB w b p c)(o:Nat):w.frozen? ⟨b,o,bu⟩=bA:=cE h o
theorem CB.same{c:Int}(h:CB w b p c)(e:w'.heap[b]? =w.heap[b]?):CB w' b p c:=e.trans h
theorem CB.set{c:Int}(h:CB w b p c)(p' c':Int):CB ((w.setCell ⟨b,0,bu⟩ (aa az p')).setCell ⟨b,1,bu⟩ (aa az c')) b p' c':=cQ (cQ h 0 _) 1 _
theorem CB.mS(w:bD)(b:Nat)(p' c':Int):bG b w ((w.setCell ⟨b,0,bu⟩ (aa az p')).setCell ⟨b,1,bu⟩ (aa az c')):=((bG.refl _ _).setCell _ _).setCell _ _
def Kn.yC(k:Kp)(z:Int)(p:Nat)(c E:Int)(k':Kp):Prop:=
 (Kn.cD k z≠0/\E=Kn.cD k z/\p=0/\c=0/\k'=k)\/
 (Kn.cD k z=0/\∃n:Nat,z=n/\n<20/\((Kn.iU k n=[]/\E=2/\p=0/\c=0/\k'=k)\/
  (Kn.iU k n≠[]/\(∀m∈Kn.iU k n,Kn.lv k m=bw)/\E=8/\p=0/\c=0/\k'=k)\/
  (E=0/\∃(i m:Nat),(Kn.iU k n)[i]? =bj m/\Kn.lv k m=bA/\(∀(j x:Nat),j<i->(Kn.iU k n)[j]? =bj x->Kn.lv k x=bw)/\p=Sp.pS k.sp (m:Int) (Sp.dX k.sp (n:Int):Nat)/\c=(k.p m).code/\Kn.iK 6 k m k')))
section
variable (Wt N:Nat)(d:Nat->Nat)(s:St)(w:bD)
theorem Le(hN:N<=900)(z:Int)(h:bO w Wt s)(hv:VI (λ_=>False) N d s.k)(h0:(s.k.p 0).par= -1):
  Calls prog 22 #[ai (bj ⟨s.A 0,0,bu⟩),aa az z] w λe w'=>∃(p:Nat) (c E:Int) (k':Kp),e=bf (ao #[au #[aa az (p:Int),aa az c],bN E])/\Kn.yC s.k z p c E k'/\bO w' Wt {s with k:=k'}/\KF s w {s with k:=k'} w':=by
 have b0:Below w.heap.size w (w.alloc (bh #[aa az 0,aa az 0] 54)):=(aQ _ _).alloc (aL _) _;have AC:=hJ (dG Wt s _ z (h.below b0));have R0:Hid (CB (w.alloc (bh #[aa az 0,aa az 0] 54)) w.heap.size 0 0/\Below w.heap.size w (w.alloc (bh #[aa az 0,aa az 0] 54))):=hJ ⟨heap_alloc_new w _,b0⟩;have H:=hJ (aK h (aK hv (aK h0 hN)));obtain⟨kb,hkb⟩:=hU (s.A 0);have HK:=hJ hkb;rw[hkb]at AC|-;by_cases a:Kn.cD s.k z=0
 .obtain⟨n,rfl,hn,hl⟩:=Kn.fL a;have HA:=hJ a;rw[a,bF]at AC;generalize gQ kb (n:Int) 0=ap at*;have st1:(s.k.p n).st≠0:=by
   have:decide ((s.k.p n).st=1)=bw:=hl;have:(s.k.p n).st=1:=by simpa using this
   omega
  obtain⟨y,hy⟩:∃y,s.k.sp.of n=y+1:=⟨s.k.sp.of n-1,by have:=(hv.kj.of n hn).2 st1;omega⟩;have HY:=hJ hy;clear h hv h0 a b0 hl st1 hy;go_in
  go_wp2_with fail
  refine sC AC.v ?_;rintro w1 hw;rw[<-hw]at R0;clear hw AC;have CH:=hJ (tU Wt s w1 n (H.1.below R0.2) (H.2.1.OV hn HY.v));rw[HK.v]at CH;go_wp2_with fail
  refine CH.mono ?_;rintro e w4 ⟨v4,u4,rfl,hb4,hL⟩;clear CH;obtain⟨LC,hLC⟩:=hU (Kn.iU s.k n);rw[hLC]at hL;have HLC:=hJ hLC;have LP:Hid ((∀x∈LC,x<20)/\∀x∈LC,x≠0):=hJ (by
   rw[<-HLC.v];exact⟨Kn.J7 H.2.1 hn HY.v,λx hx e=>by have:=Kn.vW x hx;rw[e,H.2.2.1]at this;omega⟩)
  obtain⟨a1,cp1,hv1⟩:=ib hL.own;obtain⟨NN,hNN⟩:=hU (LC.length);have HNN:=hJ hNN;have NL:NN<=21:=by
   rw[<-hNN,<-HLC.v];exact aH (Kn.Aa _ _ _) (Kn.xF _ _)
  have BB:Hid (Below w.heap.size w w4/\CB w4 w.heap.size 0 0/\bO w4 Wt s):=hJ (by
   have q:Below w1.heap.size w1 w4:=hb4.trans (hL.cU.mono hb4.size);exact⟨R0.2.trans (q.mono (by have:=R0.1.lt;omega)),R0.1.same (q.block _ R0.1.lt),(H.1.below R0.2).below q⟩)
  have LL:Hid (∀i,i<LC.length->∃gg cap,v4=aj (bj ⟨gg,0,bu⟩) LC.length cap/\w4.cell? ⟨gg,i,bu⟩=bj (aa az ((LC.getD i 0:Nat):Int))):=hJ (λi hi=>by
   obtain⟨gg,cap,hv,hg,hc⟩:=hL.cells bB;refine⟨gg,cap,hv,?_⟩;have q:=hc i hi;rw[show 0+i=i by omega]at q;exact q)
  rw[hNN]at hv1;have HV1:=hJ hv1;rw[hv1];obtain⟨rb,hrb⟩:=hU (w.heap.size);have HR:=hJ hrb;rw[hrb]at BB|-;clear hL hv1 hNN hb4 hLC R0 hrb;by_cases n0:NN=0
  .subst n0;have EL:Hid (LC=[]):=hJ (List.length_eq_zero_iff.1 HNN.v);have x0:=BB.2.1.c0;have x1:=BB.2.1.c1;have xf:=BB.2.1.frozen;go_wp2_with fail
   have S2:Hid (CB ((w4.setCell ⟨rb,0,bu⟩ (aa .i64 0)).setCell ⟨rb,1,bu⟩ (aa .i64 0)) rb 0 0/\bO ((w4.setCell ⟨rb,0,bu⟩ (aa .i64 0)).setCell ⟨rb,1,bu⟩ (aa .i64 0)) Wt s/\KF s w s ((w4.setCell ⟨rb,0,bu⟩ (aa .i64 0)).setCell ⟨rb,1,bu⟩ (aa .i64 0))):=hJ ⟨BB.2.1.set 0 0,BB.2.2.fresh (CB.mS _ _ _ _) (H.1.ie (by rw[HR.v];exact aL _)),(KF.below (by rw[HR.v];exact BB.1)).fresh (CB.mS _ _ _ _) (by rw[HR.v];exact aL _)⟩;generalize (w4.setCell ⟨rb,0,bu⟩ (aa .i64 0)).setCell ⟨rb,1,bu⟩ (aa .i64 0)=WF at S2|-;have y0:=S2.1.c0;have y1:=S2.1.c1;refine bodyPost_ret (v:=ao #[au #[aa az 0,aa az 0],aq 100 (aa .i64 2)]) (by simp[results,Tryz.f22,go_sem,y0,y1]) rfl ?_;exact⟨0,0,2,s.k,by rw[bH bE];rfl, .inr ⟨HA.v,n,rfl,hn, .inl ⟨by rw[HLC.v];exact EL.v,rfl,rfl,rfl,rfl⟩⟩,S2.2⟩
  .have nB:((NN:Int)==0)=bA:=by simp;omega
   have nI:¬(NN:Int)=0:=bB
   have EL:Hid (LC≠[]):=hJ (λe=>n0 (by rw[<-HNN.v,e];rfl));go_wp2_with fail
   go_loopw [10,32] (λ_ i wr=>∃(k:Nat),i=aa az k/\k<=NN/\wr=w4/\Hid (∀j x,j<k->LC[j]? =bj x->Kn.lv s.k x=bw)) (λ_ i _=>NN-(intOf i).toNat)
   case atStart=>exact⟨0,rfl,bB,rfl,hJ (λj _ hj=>aZ hj (Nat.not_lt_zero j))⟩
   case round=>
    obtain⟨k,rfl,hk,hwr,R⟩:=hrel;subst wr;by_cases hlt:k<NN
    .have hltI:(k:Int)<NN:=bB
     have hkL:k<LC.length:=by rw[HNN.v];exact hlt
     obtain⟨m,hm⟩:∃m,LC[k]? =bj m:=⟨_,aW hkL⟩;have m20:m<20:=LP.1 m (bK hm);have m20I:(m:Int)<20:=bB
     obtain⟨gg,cap,hv,hc⟩:=LL.v k hkL;rw[HV1.v]at hv;cases hv;have cm:w4.cell? ⟨gg,k,bu⟩=bj (aa az (m:Int)):=by
      rw[hc];simp[aF,hm]
     obtain⟨tl,htl⟩:=hU (Kn.lv s.k m);have LV:=hJ (jq Wt s w4 m BB.2.2 m20 tl htl);rw[HK.v]at LV;have HM:=hJ (aK hm (aK htl (LP.2 m (bK hm))));clear hc hm hkL htl;cases tl
     .have cc:=BB.2.2.PS m m20;rw[HK.v]at cc;obtain⟨cd,hcd⟩:=hU ((s.k.p m).code);have HCD:=hJ hcd;rw[hcd]at cc;clear hcd;have SP:Hid (∀W,Below w4.heap.size w4 W->Calls prog 62 #[ai (bj ⟨kb,0,bu⟩),aa az n] W λe w'=>e=bf (aa az (Sp.dX s.k.sp (n:Int):Int))/\w'=W):=hJ (λW b=>by rw[<-HK.v];exact iJ Wt s W (n:Int) (BB.2.2.below b));have PI:Hid (∀W,Below w4.heap.size w4 W->Calls prog 70 #[ai (bj ⟨kb,0,bu⟩),aa az m,aa az (Sp.dX s.k.sp (n:Int):Int)] W λe w'=>e=bf (aa az (Sp.pS s.k.sp (m:Int) (Sp.dX s.k.sp (n:Int):Nat):Int))/\w'=W):=hJ (λW b=>by rw[<-HK.v];exact DB Wt s W (m:Int) _ (BB.2.2.below b) H.2.1.iv.r9);obtain⟨pp,hpp⟩:=hU (Sp.pS s.k.sp (m:Int) (Sp.dX s.k.sp (n:Int):Nat));have HPP:=hJ hpp;rw[hpp]at PI;obtain⟨ss,hss⟩:=hU (Sp.dX s.k.sp (n:Int));rw[hss]at SP PI;clear hpp hss;go_upto_region 11 with(refine sC LV.v ?_;rintro w5 hw;subst w5)
      have nk:=World.new_ne w4 ⟨kb,m*12+3,bu⟩ cc;go_region_held3 (λw'=>w'.cell? ⟨kb,m*12+3,bu⟩=bj (aa az cd)) (go_keep) (first|(go_at_call 62;refine sC (SP.v _ (by first|exact(aQ _ _).drew|exact(aQ _ _).drew.alloc (aL _) _)) ?_;rintro w5 hw;subst w5)|(go_at_call 70;refine sC (PI.v _ (by first|exact(aQ _ _).drew|exact(aQ _ _).drew.alloc (aL _) _)) ?_;rintro w5 hw;subst w5))
      all_goals
       have S5:Hid (CB (w4.alloc (bh #[aa az pp,aa az cd] 54)).drew w4.heap.size pp cd/\CB (w4.alloc (bh #[aa az pp,aa az cd] 54)).drew rb 0 0/\bO (w4.alloc (bh #[aa az pp,aa az cd] 54)).drew Wt s/\KF s w s (w4.alloc (bh #[aa az pp,aa az cd] 54)).drew/\rb<w4.heap.size):=hJ (by
        have b5:Below w4.heap.size w4 (w4.alloc (bh #[aa az pp,aa az cd] 54)).drew:=((aQ _ _).alloc (aL _) _).drew;exact⟨heap_alloc_new w4 _,BB.2.1.same (b5.block _ BB.2.1.lt),BB.2.2.below b5,(KF.below (by rw[HR.v];exact BB.1)).trans (KF.below b5),BB.2.1.lt⟩)
       generalize (w4.alloc (bh #[aa az pp,aa az cd] 54)).drew=W5 at*;generalize w4.heap.size=cb at*;have VN:Hid (Calls prog 73 #[ai (bj ⟨kb,0,bu⟩),aa az m] W5 λe w'=>∃k',e=bf (ao #[])/\Kn.iK 6 s.k m k'/\bO w' Wt {s with k:=k'}/\KF s w {s with k:=k'} w'/\CB w' cb pp cd/\CB w' rb 0 0/\KF s W5 {s with k:=k'} w'):=hJ (by
        obtain⟨x,hx⟩:∃x,s.k.sp.of m=x+1:=by
         have q:m∈Kn.iU s.k n:=by rw[HLC.v];exact bK HM.1
         unfold Kn.iU Kn.jo at q;have y6:=(H.2.1.iv.dc hn HY.v).2;rw[Sp.iB hn HY.v]at q;have q2:=(bX.1 q).1;unfold eQ at q2;rw[Sp.jP y6.1 y6.2,aJ rfl,hZ]at q2;obtain⟨i,hi⟩:=List.getElem?_of_mem q2;have q3:=(H.2.1.iv.mem_of y6.1 m20 (Sp.vZ hi (λp hp=>H.2.1.iv.rM y p y6.1 hp)).2).1;exact⟨s.k.sp.of m-1,bB⟩
        have q:=FN Wt N d hN (λ_=>False) s W5 m x S5.2.2.1 H.2.1 m20 HM.2.2 (λx=>x) hx (λ_ _ _ x=>x.elim);rw[HK.v]at q;refine q.mono ?_;rintro e w6 ⟨k',rfl,vn,ka,kf⟩;have nk1:¬KB s cb:=H.1.ie (by have:=S5.2.2.2.2;rw[HR.v];omega);have nk2:¬KB s rb:=H.1.ie (by rw[HR.v];exact aL _);exact⟨k',rfl,vn,ka,S5.2.2.2.1.trans kf,S5.1.same (kf.jj S5.1.lt nk1),S5.2.1.same (kf.jj S5.2.1.lt nk2),kf⟩)
       clear cc cm nk;go_wp2_with fail
       refine VN.mono ?_;rintro e w6 ⟨k',rfl,vn,ka,kf,cb1,rb1,kf1⟩;have S6:Hid (Kn.yC s.k (n:Int) pp cd 0 k'/\bO w6 Wt {s with k:=k'}/\KF s w {s with k:=k'} w6/\CB w6 rb 0 0/\¬KB {s with k:=k'} rb):=hJ ⟨.inr ⟨HA.v,n,rfl,hn, .inr (.inr ⟨rfl,k,m,by rw[HLC.v];exact HM.1,HM.2.1,by rw[HLC.v];exact R.v,HPP.symm,HCD.symm,vn⟩)⟩,ka,kf,rb1,kf1.apart S5.2.1.lt (H.1.ie (by rw[HR.v];exact aL _))⟩;have x0:=rb1.c0;have x1:=rb1.c1;have xf:=rb1.frozen;have u0:=cb1.c0;have u1:=cb1.c1;clear vn ka kf cb1 rb1 kf1 S5 VN;go_wp2_with fail
       have S2:Hid (CB ((w6.setCell ⟨rb,0,bu⟩ (aa az pp)).setCell ⟨rb,1,bu⟩ (aa az cd)) rb pp cd/\bO ((w6.setCell ⟨rb,0,bu⟩ (aa az pp)).setCell ⟨rb,1,bu⟩ (aa az cd)) Wt {s with k:=k'}/\KF s w {s with k:=k'} ((w6.setCell ⟨rb,0,bu⟩ (aa az pp)).setCell ⟨rb,1,bu⟩ (aa az cd))):=hJ ⟨S6.2.2.2.1.set pp cd,S6.2.1.fresh (CB.mS _ _ _ _) S6.2.2.2.2,S6.2.2.1.fresh (CB.mS _ _ _ _) (by rw[HR.v];exact aL _)⟩;generalize (w6.setCell ⟨rb,0,bu⟩ (aa az pp)).setCell ⟨rb,1,bu⟩ (aa az cd)=WF at S2|-;have y0:=S2.1.c0;have y1:=S2.1.c1
       (try simp only[Exit.then])
       refine bodyPost_ret (v:=ao #[au #[aa az pp,aa az cd], .nilIface]) (by simp[results,Tryz.f22,go_sem,y0,y1]) rfl ?_;exact⟨pp,cd,0,k',by rw[bF],S6.1,S2.2⟩
     .have R1:Hid (∀j x,j<k+1->LC[j]? =bj x->Kn.lv s.k x=bw):=hJ (λj x hj hx=>by
       by_cases e:j=k
       .subst e;rw[HM.1]at hx;cases hx;exact HM.2.1
       .exact R.v j x bB hx)
      go_wp2_with fail
      refine sC LV.v ?_;rintro w5 hw;subst w5;go_wp2
      go_roundw
      case rel=>exact⟨k+1,by go_num,bB,by first|rfl|trivial,R1⟩
      case measure=>simp[intOf];omega
    .obtain rfl:k=NN:=bB
     have AL:Hid (∀x∈LC,Kn.lv s.k x=bw):=hJ (λx hx=>by
      obtain⟨j,hj⟩:=List.getElem?_of_mem hx;exact R.v j x (by rw[<-HNN.v];exact(aY.1 hj).1) hj)
     have x0:=BB.2.1.c0;have x1:=BB.2.1.c1;have xf:=BB.2.1.frozen;go_wp2_with fail
     have S2:Hid (CB ((w4.setCell ⟨rb,0,bu⟩ (aa .i64 0)).setCell ⟨rb,1,bu⟩ (aa .i64 0)) rb 0 0/\bO ((w4.setCell ⟨rb,0,bu⟩ (aa .i64 0)).setCell ⟨rb,1,bu⟩ (aa .i64 0)) Wt s/\KF s w s ((w4.setCell ⟨rb,0,bu⟩ (aa .i64 0)).setCell ⟨rb,1,bu⟩ (aa .i64 0))):=hJ ⟨BB.2.1.set 0 0,BB.2.2.fresh (CB.mS _ _ _ _) (H.1.ie (by rw[HR.v];exact aL _)),(KF.below (by rw[HR.v];exact BB.1)).fresh (CB.mS _ _ _ _) (by rw[HR.v];exact aL _)⟩;generalize (w4.setCell ⟨rb,0,bu⟩ (aa .i64 0)).setCell ⟨rb,1,bu⟩ (aa .i64 0)=WF at S2|-;have y0:=S2.1.c0;have y1:=S2.1.c1;refine bodyPost_ret (v:=ao #[au #[aa az 0,aa az 0],aq 100 (aa .i64 8)]) (by simp[results,Tryz.f22,go_sem,y0,y1]) rfl ?_;exact⟨0,0,8,s.k,by rw[bH bE];rfl, .inr ⟨HA.v,n,rfl,hn, .inr (.inl ⟨by rw[HLC.v];exact EL.v,by rw[HLC.v];exact AL.v,rfl,rfl,rfl,rfl⟩)⟩,S2.2⟩
 .have FIN:Hid (Kn.yC s.k z 0 0 (Kn.cD s.k z) s.k):=hJ (.inl ⟨a,rfl,rfl,rfl,rfl⟩);have HE:=hJ (bH a);rw[bH a]at AC;clear h hv h0 a b0;generalize gQ kb z (Kn.cD s.k z)=ap at*;go_in
  go_wp2_with fail
  refine sC AC.v ?_;rintro w4 hw;rw[<-hw]at R0;clear hw AC;obtain⟨rb,hrb⟩:=hU (w.heap.size);have HR:=hJ hrb;rw[hrb]at R0|-;have x0:=R0.1.c0;have x1:=R0.1.c1;have xf:=R0.1.frozen;clear hrb;go_wp2_with fail
  have S2:Hid (CB ((w4.setCell ⟨rb,0,bu⟩ (aa .i64 0)).setCell ⟨rb,1,bu⟩ (aa .i64 0)) rb 0 0/\bO ((w4.setCell ⟨rb,0,bu⟩ (aa .i64 0)).setCell ⟨rb,1,bu⟩ (aa .i64 0)) Wt s/\KF s w s ((w4.setCell ⟨rb,0,bu⟩ (aa .i64 0)).setCell ⟨rb,1,bu⟩ (aa .i64 0))):=hJ ⟨R0.1.set 0 0,(H.1.below (by rw[HR.v];exact R0.2)).fresh (CB.mS _ _ _ _) (H.1.ie (by rw[HR.v];exact aL _)),(KF.below (by rw[HR.v];exact R0.2)).fresh (CB.mS _ _ _ _) (by rw[HR.v];exact aL _)⟩;generalize (w4.setCell ⟨rb,0,bu⟩ (aa .i64 0)).setCell ⟨rb,1,bu⟩ (aa .i64 0)=WF at S2|-;have y0:=S2.1.c0;have y1:=S2.1.c1;refine bodyPost_ret (v:=ao #[au #[aa az 0,aa az 0],aq 100 (aa az (Kn.cD s.k z))]) (by simp[results,Tryz.f22,go_sem,y0,y1]) rfl ?_;exact⟨0,0,Kn.cD s.k z,s.k,by rw[HE.v];rfl,FIN.v,S2.2⟩
end
def PB(w:bD)(c a b:Nat)(x:Pr):Prop:=w.heap[c]? =bj (bh (dZ a b x) 74 (0,0))
section
variable {w w':bD}{c a b:Nat}{x:Pr}
theorem PB.lt(h:PB w c a b x):c<w.heap.size:=(aX.1 h).1
theorem PB.same(h:PB w c a b x)(e:w'.heap[c]? =w.heap[c]?):PB w' c a b x:=e.trans h
theorem PB.cell(h:PB w c a b x)(j:Nat)(hj:j<12):w.cell? ⟨c,j,bu⟩=bj (Kn.fw a b x j):=by rw[bR h,lT a b x j hj]
theorem PB.frozen(h:PB w c a b x)(o:Nat):w.frozen? ⟨c,o,bu⟩=bA:=cE h o
theorem PB.range(h:PB w c a b x):w.rangeAt c 0 (dZ a b x).toList:=λj hj=>by
 rw[Nat.zero_add,bR h];simp
theorem PB.there(h:PB w c a b x):w.there c 0 12:=λj hj=>⟨by rw[Nat.zero_add,h.cell j hj];rfl,h.frozen _⟩
theorem wa{A:Array Value}{a b:Nat}{x:Pr}(hs:A.size=12)(h:∀j,j<12->A[j]? =bj (Kn.fw a b x j)):A=dZ a b x:=by grind [dZ,lT,dM]
theorem PB.set(h:PB w c a b x){a' b':Nat}{y:Pr}(hi:i<12)(hv:∀j,j<12->Kn.fw a' b' y j=if j=i then v else Kn.fw a b x j):PB (w.setCell ⟨c,i,bu⟩ v) c a' b' y:=by
 unfold PB;rw[cQ h i v,wa (A:=(dZ a b x).setIfInBounds i v) (a:=a') (b:=b') (x:=y) (by simp[dM]) (λj hj=>?_)];grind [PB,cQ,wa,dZ,dM,lT]
theorem PB.Eo(h:PB w c a b x)(n:Int):PB (w.setCell ⟨c,1,bu⟩ (aa az n)) c a b {x with par:=n}:=h.set bB (λj hj=>by
 match j,hj with
 |0,_=>rfl
 |1,_=>rfl
 |j+2,_=>rw[nJ];rfl)
theorem PB.Uq(h:PB w c a b x)(hh:x.has=bw)(m:Nat):PB (w.setCell ⟨c,4,bu⟩ (ai (bj ⟨m,0,bu⟩))) c m b x:=h.set bB (λj hj=>by
 match j,hj with
 |0,_=>rfl
 |1,_=>rfl
 |2,_=>rfl
 |3,_=>rfl
 |4,_=>show Kn.ptr m x.has=_;rw[hh];rfl
 |j+5,_=>rw[nJ];rfl)
theorem PB.Un(h:PB w c a b x)(hh:x.has=bw)(m:Nat):PB (w.setCell ⟨c,5,bu⟩ (ai (bj ⟨m,0,bu⟩))) c a m x:=h.set bB (λj hj=>by
 match j,hj with
 |0,_=>rfl
 |1,_=>rfl
 |2,_=>rfl
 |3,_=>rfl
 |4,_=>rfl
 |5,_=>show Kn.ptr m x.has=_;rw[hh];rfl
 |j+6,_=>rw[nJ];rfl)
theorem PB.box(h:PB w c a b x)(X:Nat->Sg.S1):PB w c a b {x with box:=X}:=h
theorem PB.fds(h:PB w c a b x)(j:Nat)(hj:j<(mD x.fd).size):w.cell? ⟨c,6+j,bu⟩=(mD x.fd)[j]? :=by
 rw[qB]at hj;rw[Dl _ j hj,h.cell (6+j) bB];unfold Kn.fw;grind
end
theorem PB.put(h:PB w c a b x)(a' b':Nat)(y:Pr):PB (w.setCells c 0 (dZ a' b' y).toList) c a' b' y:=by
 obtain⟨C',e',sz'⟩:=eP c (dZ a' b' y).toList 0 w _ h;unfold PB;rw[e'];have hl:(dZ a' b' y).toList.length=12:=by rw[aB,dM]
 have:C'=dZ a' b' y:=by
  refine wa (by rw[sz',dM]) (λj hj=>?_);have q:=aS c (dZ a' b' y).toList 0 w (λi hi=>by rw[hl]at hi;rw[Nat.zero_add,h.cell i hi];rfl) j bB;rw[Nat.zero_add,bR e']at q;rw[q,<-aW bB,aM,lT _ _ _ j hj]
 rw[this]
namespace Kn
theorem Us(T:Nat->Fx.Fi)(z:Int)(n:Nat):(Fx.j7 T z n).refs<=(T n).refs+1:=by
 unfold Fx.j7;by_cases c:Fx.dy T z=0
 .rw[aJ c];by_cases e:n=z.toNat
  .subst e;rw[Fx.bM];exact aL _
  .rw[Fx.bP _ _ _ _ e];omega
 .rw[aI c];omega
theorem Hg(k:Kp)(fd:Nat->Int)(n:Nat):∀j,((jN k fd j).fi n).refs<=(k.fi n).refs+j
 |0=>aL _
 |j+1=>by
  have ih:=Hg k fd n j;show((if fd j= -1 then jN k fd j else _:Kp).fi n).refs<=_;split
  .omega
  grind [jN,Us,Fx.j7]
end Kn
theorem bO.Jt(h:bO w Wt s){T:Nat->Fx.Fi}(u:eG w' (s.A 8) (s.A 6) (s.A 7) T)(f:bG (s.A 8) w w'):bO w' Wt {s with k:={s.k with fi:=T}}/\KF s w {s with k:={s.k with fi:=T}} w':=by
 have o:=h.others cv f;refine⟨⟨by rw[o 0 cv bB];exact h.mT,λx hx=>(aV (o 0 cv bB)).trans (h.eE x hx),h.sp.same (o 1 cv bB),(o 2 cv bB).trans h.gr,h.sc.same (o 3 cv bB),h.bk.same (o 4 cv bB) (o 5 cv bB),u,h.fo.same (o 6 cv bB),h.pi.same (o 7 cv bB),
  λn hn hh=>(h.me n hn hh).same (o _ (Kn.ja hn hh) bB),λn hn hh=>(h.bx n hn hh).same (o _ (Kn.j9 hn hh) bB),
  λn hn hh=>(h.tb n hn hh).same (o _ (Kn.kE hn hh) bB) (λg eg=>by have:=o _ (Kn.km hn hh eg) bB;rwa [h.ro n hn hh g eg]at this),h.ro,h.inj,h.low⟩,KF.one _ cv f rfl (λ_ hi=>hi)⟩
theorem bO.Uj(h:bO w Wt s)(hn:n<20):w.rangeAt (s.A 0) (n*12) (dZ (s.A (9+n)) (s.A (29+n)) (s.k.p n)).toList:=λj v hv=>by
 rw[aM]at hv;have hj:j<12:=by grind [dM,lT]
 rw[lT _ _ _ j hj]at hv;rw[h.cP n j hn hj];exact hv
structure CO (Wt:Nat)(s:St)(w:bD)(n rb c mb bb:Nat)(k:Kp)(W:bD):Prop where
 kk:bO W Wt {s with k:=k}
 kf:KF s w {s with k:=k} W
 pb:PB W c mb bb (Kn.eU s.k n)
 rs:PB W rb 0 0 Pr.no
 um:dj W mb (s.A 4) (s.k.p n).mem
 ub:CX W bb (Sg.qy (s.k.p n).box)
 ge:w.heap.size<=rb/\w.heap.size<=c/\w.heap.size<=mb/\w.heap.size<=bb
 ne:mb≠bb/\rb≠c/\rb≠mb/\rb≠bb/\c≠mb/\c≠bb
theorem CO.step{k':Kp}{W:bD}(h:CO Wt s w n rb c mb bb k W)(f:bG (s.A 8) W W')(kk:bO W' Wt {s with k:=k'})(kf:KF {s with k:=k} W {s with k:=k'} W')(l8:s.A 8<w.heap.size):CO Wt s w n rb c mb bb k' W':=
 ⟨kk,h.kf.trans kf,h.pb.same (f.block _ h.pb.lt (by have:=h.ge;omega)),h.rs.same (f.block _ h.rs.lt (by have:=h.ge;omega)),h.um.same (f.block _ h.um.lt (by have:=h.ge;omega)),h.ub.same (f.block _ h.ub.lt (by have:=h.ge;omega)),h.ge,h.ne⟩
section
variable (Wt:Nat)(s:St)(w:bD)
theorem IK(n:Nat)(h:bO w Wt s)(hn:n<20)(hh:(s.k.p n).has=bw)(hW:Mv.gw s.k.bk 20 (λm=>(s.k.p m).mem))(hr:∀f,f<24->(s.k.fi f).refs<2^50):
  Calls prog 69 #[ai (bj ⟨s.A 0,0,bu⟩),aa az n] w λe w'=>∃mb bb,e=bf (au (dZ mb bb (Kn.eU s.k n)))/\bO w' Wt {s with k:=Kn.dI s.k n}/\KF s w {s with k:=Kn.dI s.k n} w'/\dj w' mb (s.A 4) (s.k.p n).mem/\CX w' bb (Sg.qy (s.k.p n).box)/\w.heap.size<=mb/\w.heap.size<=bb/\mb≠bb:=by
 have hnI:(n:Int)<20:=bB
 obtain⟨kb,hkb⟩:=hU (s.A 0);have HK:=hJ hkb;obtain⟨A,hA⟩:=hU (dZ (s.A (9+n)) (s.A (29+n)) (s.k.p n));have HA:=hJ hA;have b0:Below w.heap.size w (w.alloc (bh #[aa az 0,aa az 0,aa az 0,aa az 0,ai bu,ai bu,aa az 0,aa az 0,aa az 0,aa az 0,aa az 0,aa az 0] 74)):=(aQ _ _).alloc (aL _) _;have N1:((w.alloc (bh #[aa az 0,aa az 0,aa az 0,aa az 0,ai bu,ai bu,aa az 0,aa az 0,aa az 0,aa az 0,aa az 0,aa az 0] 74)).alloc (bh #[aa az 0,aa az 0,aa az 0,aa az 0,ai bu,ai bu,aa az 0,aa az 0,aa az 0,aa az 0,aa az 0,aa az 0] 74)).heap[w.heap.size+1]? =bj (bh #[aa az 0,aa az 0,aa az 0,aa az 0,ai bu,ai bu,aa az 0,aa az 0,aa az 0,aa az 0,aa az 0,aa az 0] 74 (0,0)):=by
  have:=heap_alloc_new (w.alloc (bh #[aa az 0,aa az 0,aa az 0,aa az 0,ai bu,ai bu,aa az 0,aa az 0,aa az 0,aa az 0,aa az 0,aa az 0] 74)) (bh #[aa az 0,aa az 0,aa az 0,aa az 0,ai bu,ai bu,aa az 0,aa az 0,aa az 0,aa az 0,aa az 0,aa az 0] 74);rw[show(w.alloc (bh #[aa az 0,aa az 0,aa az 0,aa az 0,ai bu,ai bu,aa az 0,aa az 0,aa az 0,aa az 0,aa az 0,aa az 0] 74)).heap.size=w.heap.size+1 by simp]at this;exact this
 have b1:Below w.heap.size w ((w.alloc (bh #[aa az 0,aa az 0,aa az 0,aa az 0,ai bu,ai bu,aa az 0,aa az 0,aa az 0,aa az 0,aa az 0,aa az 0] 74)).alloc (bh #[aa az 0,aa az 0,aa az 0,aa az 0,ai bu,ai bu,aa az 0,aa az 0,aa az 0,aa az 0,aa az 0,aa az 0] 74)):=b0.alloc b0.size _;have R0:Hid ((w.alloc (bh #[aa az 0,aa az 0,aa az 0,aa az 0,ai bu,ai bu,aa az 0,aa az 0,aa az 0,aa az 0,aa az 0,aa az 0] 74)).rangeAt kb (n*12) A.toList):=hJ (by rw[<-hkb,<-hA];exact(h.below b0).Uj hn);have SL:Hid ((prog.info? 74).map (·.size)=bj A.toList.length):=hJ (by rw[<-hA,aB,dM];kernel_rfl);have SZ:Hid ((prog.info? 74).map (·.size)=bj A.size):=hJ (by rw[<-hA,dM];kernel_rfl);have TH:Hid (((w.alloc (bh #[aa az 0,aa az 0,aa az 0,aa az 0,ai bu,ai bu,aa az 0,aa az 0,aa az 0,aa az 0,aa az 0,aa az 0] 74)).alloc (bh #[aa az 0,aa az 0,aa az 0,aa az 0,ai bu,ai bu,aa az 0,aa az 0,aa az 0,aa az 0,aa az 0,aa az 0] 74)).there (w.heap.size+1) 0 A.size):=hJ (by rw[<-hA,dM];exact PB.there (a:=0) (b:=0) (x:=Pr.no) (by unfold PB;rw[y9];exact N1));have H1:Hid (A.all (·.oneCell')=bw):=hJ (by rw[<-hA];exact qj _ _ _);have F0:Hid (PB (((w.alloc (bh #[aa az 0,aa az 0,aa az 0,aa az 0,ai bu,ai bu,aa az 0,aa az 0,aa az 0,aa az 0,aa az 0,aa az 0] 74)).alloc (bh #[aa az 0,aa az 0,aa az 0,aa az 0,ai bu,ai bu,aa az 0,aa az 0,aa az 0,aa az 0,aa az 0,aa az 0] 74)).setCells (w.heap.size+1) 0 A.toList) (w.heap.size+1) (s.A (9+n)) (s.A (29+n)) (s.k.p n)/\PB (((w.alloc (bh #[aa az 0,aa az 0,aa az 0,aa az 0,ai bu,ai bu,aa az 0,aa az 0,aa az 0,aa az 0,aa az 0,aa az 0] 74)).alloc (bh #[aa az 0,aa az 0,aa az 0,aa az 0,ai bu,ai bu,aa az 0,aa az 0,aa az 0,aa az 0,aa az 0,aa az 0] 74)).setCells (w.heap.size+1) 0 A.toList) w.heap.size 0 0 Pr.no/\Below w.heap.size w (((w.alloc (bh #[aa az 0,aa az 0,aa az 0,aa az 0,ai bu,ai bu,aa az 0,aa az 0,aa az 0,aa az 0,aa az 0,aa az 0] 74)).alloc (bh #[aa az 0,aa az 0,aa az 0,aa az 0,ai bu,ai bu,aa az 0,aa az 0,aa az 0,aa az 0,aa az 0,aa az 0] 74)).setCells (w.heap.size+1) 0 A.toList)):=hJ (by
  have fr:bG (w.heap.size+1) ((w.alloc (bh #[aa az 0,aa az 0,aa az 0,aa az 0,ai bu,ai bu,aa az 0,aa az 0,aa az 0,aa az 0,aa az 0,aa az 0] 74)).alloc (bh #[aa az 0,aa az 0,aa az 0,aa az 0,ai bu,ai bu,aa az 0,aa az 0,aa az 0,aa az 0,aa az 0,aa az 0] 74)) (((w.alloc (bh #[aa az 0,aa az 0,aa az 0,aa az 0,ai bu,ai bu,aa az 0,aa az 0,aa az 0,aa az 0,aa az 0,aa az 0] 74)).alloc (bh #[aa az 0,aa az 0,aa az 0,aa az 0,ai bu,ai bu,aa az 0,aa az 0,aa az 0,aa az 0,aa az 0,aa az 0] 74)).setCells (w.heap.size+1) 0 A.toList):=bG.setCells _ _ (bG.refl _ _);refine⟨?_,?_,fr.below b1 bB b1.size⟩
  .obtain⟨C',e',sz'⟩:=eP (w.heap.size+1) A.toList 0 _ _ N1;unfold PB;rw[e',hA];have sz:C'.size=12:=by rw[sz'];rfl
   have:C'=A:=by
    rw[<-hA];refine wa sz (λj hj=>?_);have q:=aS (w.heap.size+1) A.toList 0 ((w.alloc (bh #[aa az 0,aa az 0,aa az 0,aa az 0,ai bu,ai bu,aa az 0,aa az 0,aa az 0,aa az 0,aa az 0,aa az 0] 74)).alloc (bh #[aa az 0,aa az 0,aa az 0,aa az 0,ai bu,ai bu,aa az 0,aa az 0,aa az 0,aa az 0,aa az 0,aa az 0] 74)) (λi hi=>by rw[bR N1];rw[aB,<-hA,dM]at hi;simp;omega) j (by rw[aB,<-hA,dM];exact hj);rw[Nat.zero_add,bR e']at q;rw[q,<-aW (by rw[aB,<-hA,dM];exact hj),aM,<-hA,lT _ _ _ j hj]
   rw[this]
  .unfold PB;rw[y9,fr.block w.heap.size (by simp;omega) bB];have:=heap_alloc_new w (bh #[aa az 0,aa az 0,aa az 0,aa az 0,ai bu,ai bu,aa az 0,aa az 0,aa az 0,aa az 0,aa az 0,aa az 0] 74);rw[show((w.alloc (bh #[aa az 0,aa az 0,aa az 0,aa az 0,ai bu,ai bu,aa az 0,aa az 0,aa az 0,aa az 0,aa az 0,aa az 0] 74)).alloc (bh #[aa az 0,aa az 0,aa az 0,aa az 0,ai bu,ai bu,aa az 0,aa az 0,aa az 0,aa az 0,aa az 0,aa az 0] 74)).heap[w.heap.size]? =(w.alloc (bh #[aa az 0,aa az 0,aa az 0,aa az 0,ai bu,ai bu,aa az 0,aa az 0,aa az 0,aa az 0,aa az 0,aa az 0] 74)).heap[w.heap.size]? from((aQ _ _).alloc (aL _) (bh #[aa az 0,aa az 0,aa az 0,aa az 0,ai bu,ai bu,aa az 0,aa az 0,aa az 0,aa az 0,aa az 0,aa az 0] 74):Below (w.alloc (bh #[aa az 0,aa az 0,aa az 0,aa az 0,ai bu,ai bu,aa az 0,aa az 0,aa az 0,aa az 0,aa az 0,aa az 0] 74)).heap.size (w.alloc (bh #[aa az 0,aa az 0,aa az 0,aa az 0,ai bu,ai bu,aa az 0,aa az 0,aa az 0,aa az 0,aa az 0,aa az 0] 74)) ((w.alloc (bh #[aa az 0,aa az 0,aa az 0,aa az 0,ai bu,ai bu,aa az 0,aa az 0,aa az 0,aa az 0,aa az 0,aa az 0] 74)).alloc (bh #[aa az 0,aa az 0,aa az 0,aa az 0,ai bu,ai bu,aa az 0,aa az 0,aa az 0,aa az 0,aa az 0,aa az 0] 74))).block w.heap.size (by simp)]
   exact this)
 have H:=hJ (aK h (aK hh (aK hW hr)));rw[hkb];clear h hh hW hr hA hkb b0 N1 b1;go_in
 go_upto_region 2 with(first|(refine wpList_load_mid rfl 74 _ rfl kb (n*12) rfl A.toList _ R0.v Tryz.underlying74 rfl SL.v ?_;rw[Array.toArray_toList])|(refine wpList_store_mid rfl 74 _ _ rfl (w.heap.size+1) 0 A rfl rfl TH.v SZ.v H1.v ?_))
 obtain⟨rb,hrb⟩:=hU (w.heap.size);have HR:=hJ hrb;refine cJ (λW=>PB W (w.heap.size+1) (s.A (9+n)) (s.A (29+n)) (s.k.p n)/\PB W w.heap.size 0 0 Pr.no/\Below w.heap.size w W) F0.v ?_;intro W1 hW1;have S1:=hJ hW1;clear hW1 F0 R0 SL SZ TH H1;rw[hrb]at S1|-;clear hrb;have y1:=S1.1.cell 1 bB;have yf:=S1.1.frozen;have y1':W1.cell? ⟨rb+1,1,bu⟩=bj (aa az (s.k.p n).par):=y1;generalize (s.k.p n).par=pv at y1';clear y1;go_upto_region 3 with fail
 have F1:Hid (PB (W1.setCell ⟨rb+1,1,bu⟩ (aa az n)) (rb+1) (s.A (9+n)) (s.A (29+n)) {s.k.p n with par:=(n:Int)}/\PB (W1.setCell ⟨rb+1,1,bu⟩ (aa az n)) rb 0 0 Pr.no/\Below rb w (W1.setCell ⟨rb+1,1,bu⟩ (aa az n))):=hJ (by
  have fr:bG (rb+1) W1 (W1.setCell ⟨rb+1,1,bu⟩ (aa az n)):=(bG.refl _ _).setCell _ _;refine⟨S1.1.Eo _,S1.2.1.same (fr.block rb S1.2.1.lt bB),fr.below S1.2.2 bB (bI S1.2.1.lt)⟩)
 refine cJ (λW=>PB W (rb+1) (s.A (9+n)) (s.A (29+n)) {s.k.p n with par:=(n:Int)}/\PB W rb 0 0 Pr.no/\Below rb w W) F1.v ?_;intro W2 hW2;have S2:=hJ hW2;clear hW2 F1 S1 y1' yf;have K2:Hid (bO W2 Wt s):=hJ (H.1.below (by rw[HR.v];exact S2.2.2));obtain⟨m9,hm9⟩:=hU (s.A (9+n));obtain⟨b29,hb29⟩:=hU (s.A (29+n));have HM:=hJ (aK hm9 hb29);have LT:Hid (∀i,us s i->s.A i<rb):=hJ (λi hi=>by rw[<-HR.v];exact H.1.lt hi);have y4:W2.cell? ⟨rb+1,4,bu⟩=bj (ai (bj ⟨m9,0,bu⟩)):=by
  rw[S2.1.cell 4 bB,<-hm9];show bj (Kn.ptr _ (s.k.p n).has)=_;rw[H.2.1];rfl
 have y5:W2.cell? ⟨rb+1,5,bu⟩=bj (ai (bj ⟨b29,0,bu⟩)):=by
  rw[S2.1.cell 5 bB,<-hb29];show bj (Kn.ptr _ (s.k.p n).has)=_;rw[H.2.1];rfl
 have FK:=hJ (MI (s.A (9+n)) (s.A 4) (s.A 5) (s.k.p n).mem s.k.bk W2.drew ⟨K2.drew.me n hn H.2.1,K2.drew.bk,K2.ne (Kn.ja hn H.2.1) cv bB,K2.ne (Kn.ja hn H.2.1) cv bB⟩ (λi hi=>H.2.2.1.le n hn i hi) (λf hf=>by have:=H.2.2.1.refl f hf;omega));have A4:Hid (∀w4,dj w4 W2.drew.heap.size (s.A 4) (s.k.p n).mem->UB w4 (s.A (9+n)) (s.A 4) (s.A 5) (s.k.p n).mem (Mv.eI (s.k.p n).mem s.k.bk 16)->bG (s.A 4) W2.drew w4->bO w4 Wt {s with k:={s.k with bk:=Mv.eI (s.k.p n).mem s.k.bk 16}}/\KF s w {s with k:={s.k with bk:=Mv.eI (s.k.p n).mem s.k.bk 16}} w4/\PB w4 (rb+1) m9 b29 {s.k.p n with par:=(n:Int)}/\PB w4 rb 0 0 Pr.no/\rb+1<W2.heap.size/\W2.heap.size<w4.heap.size):=hJ (λw4 u1 u2 f=>by
  have q:=K2.drew.U3 u2.bk (jm.left (jm.refl _ _ _) f);have l4:=LT.v 4 cv;refine⟨q.1,(KF.below (by rw[HR.v];exact S2.2.2)).trans ((KF.drew _ _).trans q.2),?_,S2.2.1.same (f.block rb S2.2.1.lt bB),S2.1.lt,u1.lt⟩;have:=S2.1.same (f.block (rb+1) S2.1.lt bB);rw[hm9,hb29]at this;exact this)
 obtain⟨mb,hmb⟩:=hU (W2.heap.size);have HMB:=hJ hmb;have hmd:W2.drew.heap.size=mb:=hmb;rw[hmd,hm9]at FK;rw[hmd,hmb,hm9]at A4;have CC:Hid (∀w4,bO w4 Wt {s with k:={s.k with bk:=Mv.eI (s.k.p n).mem s.k.bk 16}}->Calls prog 145 #[ai (bj ⟨b29,0,bu⟩)] w4 λe w'=>e=bf (ai (bj ⟨w4.heap.size,0,bu⟩))/\CX w' w4.heap.size (Sg.qy (s.k.p n).box)/\Below w4.heap.size w4 w'/\w4.heap.size<w'.heap.size):=hJ (λw4 hk=>by rw[<-hb29];exact J9 _ _ _ (hk.bx n hn H.2.1));have FIN:Hid (∀w4 w5,dj w4 mb (s.A 4) (s.k.p n).mem->(bO w4 Wt {s with k:={s.k with bk:=Mv.eI (s.k.p n).mem s.k.bk 16}}/\KF s w {s with k:={s.k with bk:=Mv.eI (s.k.p n).mem s.k.bk 16}} w4/\PB w4 (rb+1) m9 b29 {s.k.p n with par:=(n:Int)}/\PB w4 rb 0 0 Pr.no/\rb+1<mb/\mb<w4.heap.size)->CX w5 w4.heap.size (Sg.qy (s.k.p n).box)->Below w4.heap.size w4 w5->CO Wt s w n rb (rb+1) mb w4.heap.size {s.k with bk:=Mv.eI (s.k.p n).mem s.k.bk 16} ((w5.setCell ⟨rb+1,4,bu⟩ (ai (bj ⟨mb,0,bu⟩))).setCell ⟨rb+1,5,bu⟩ (ai (bj ⟨w4.heap.size,0,bu⟩)))):=hJ (λw4 w5 u1 a cx bl=>by
  obtain⟨a1,a2,a3,a4,a5,a6⟩:=a;have fr:bG (rb+1) w5 ((w5.setCell ⟨rb+1,4,bu⟩ (ai (bj ⟨mb,0,bu⟩))).setCell ⟨rb+1,5,bu⟩ (ai (bj ⟨w4.heap.size,0,bu⟩))):=((bG.refl _ _).setCell _ _).setCell _ _;have p5:=(a3.same (bl.block _ a3.lt));have nk:¬KB ({s with k:={s.k with bk:=Mv.eI (s.k.p n).mem s.k.bk 16}}:St) (rb+1):=λ⟨i,hi,e⟩=>by have:=LT.v i hi;have e2:rb+1=s.A i:=e;omega
  refine⟨(a1.below bl).fresh fr nk,(a2.trans (KF.below bl)).fresh fr (by rw[HR.v];omega),?_,(a4.same (bl.block _ a4.lt)).same (fr.block rb (aD a4.lt bl.size) bB),(u1.below bl).same (fr.block mb (aD a6 bl.size) bB),cx.same (fr.block w4.heap.size cx.lt bB),⟨by rw[HR.v];omega,by rw[HR.v];omega,by rw[HR.v];omega,by rw[HR.v];omega⟩,bB,bB,bB,bB,bB,bB⟩;exact((p5.Uq (by exact H.2.1) mb).Un (by exact H.2.1) w4.heap.size).box _)
 clear hm9 hb29 hmb hmd S2;go_cut [15]from 16 to 24 (λ_ wc=>∃bb,Hid (CO Wt s w n rb (rb+1) mb bb {s.k with bk:=Mv.eI (s.k.p n).mem s.k.bk 16} wc))
 case first=>
  go_region_with (first|(go_at_call 144;refine FK.mono ?_;rintro e w4 ⟨rfl,u1,u2,f4⟩;have S4:=hJ (aK u1 (A4.v w4 u1 u2 f4));clear u1 u2 f4;have z5:w4.cell? ⟨rb+1,5,bu⟩=bj (ai (bj ⟨b29,0,bu⟩)):=(by rw[S4.2.2.2.1.cell 5 bB];show bj (Kn.ptr _ (s.k.p n).has)=_;rw[H.2.1];rfl))|(go_at_call 145;refine(CC.v _ S4.2.1).mono ?_;rintro e w5 ⟨rfl,cx,bl,l5⟩;have S5:=hJ (aK (FIN.v w4 w5 S4.1 S4.2 cx bl) (S4.2.2.2.1.same (bl.block _ S4.2.2.2.1.lt)));clear cx bl l5;have v4:=S5.2.cell 4 bB;have v5:=S5.2.cell 5 bB;have vf:=S5.2.frozen))
  all_goals
   have F5:Hid (CO Wt s w n rb (rb+1) mb w4.heap.size {s.k with bk:=Mv.eI (s.k.p n).mem s.k.bk 16} ((w5.setCell ⟨rb+1,4,bu⟩ (ai (bj ⟨mb,0,bu⟩))).setCell ⟨rb+1,5,bu⟩ (ai (bj ⟨w4.heap.size,0,bu⟩)))):=hJ S5.1;generalize (w5.setCell ⟨rb+1,4,bu⟩ (ai (bj ⟨mb,0,bu⟩))).setCell ⟨rb+1,5,bu⟩ (ai (bj ⟨w4.heap.size,0,bu⟩))=W6 at F5|-
   first|(go_wp2_with fail;go_meet)|go_meet
   case rel=>exact⟨_,F5⟩
 case rest=>
  obtain⟨bb,S3⟩:=hcut;clear FIN CC A4 FK y4 y5 K2;obtain⟨fd,hfd⟩:=hU ((s.k.p n).fd);have HFD:=hJ hfd;have LD:Hid (∀j,j<(mD fd).size->wc.cell? ⟨rb+1,6+j,bu⟩=(mD fd)[j]?):=hJ (λj hj=>by
   have q:=S3.pb.fds j (by show j<(mD (s.k.p n).fd).size;rw[hfd];exact hj);rw[show(Kn.eU s.k n).fd=fd from hfd]at q;exact q)
  have hsz:Hid ((prog.info? 72).map (·.size)=bj (mD fd).size):=hJ (by rw[qB];kernel_rfl);have L8:Hid (s.A 8<w.heap.size):=hJ (H.1.lt cv);clear hfd;go_wp2_with (refine jw rfl 72 _ rfl (rb+1) 6 rfl (mD fd) 6 3 LD.v bC hsz.v ?_)
  go_loopw [7,26] (λ_ i wr=>∃(j:Nat),i=aa az j/\j<=6/\Hid (CO Wt s w n rb (rb+1) mb bb (Kn.jN {s.k with bk:=Mv.eI (s.k.p n).mem s.k.bk 16} fd j) wr)) (λ_ i _=>6-(intOf i).toNat)
  case atStart=>exact⟨0,rfl,bB,S3⟩
  case round=>
   clear S3 LD;obtain⟨j,rfl,hj6,S⟩:=hrel;by_cases hlt:j<6
   .have hltI:(j:Int)<6:=bB
    have hix:=xy fd j hlt wr;have SU:Hid (Kn.jN {s.k with bk:=Mv.eI (s.k.p n).mem s.k.bk 16} fd (j+1)=if fd j= -1 then Kn.jN {s.k with bk:=Mv.eI (s.k.p n).mem s.k.bk 16} fd j else{Kn.jN {s.k with bk:=Mv.eI (s.k.p n).mem s.k.bk 16} fd j with fi:=Fx.j7 (Kn.jN {s.k with bk:=Mv.eI (s.k.p n).mem s.k.bk 16} fd j).fi (fd j)}):=hJ rfl;have RL:Hid (∀f,f<24->((Kn.jN {s.k with bk:=Mv.eI (s.k.p n).mem s.k.bk 16} fd j).fi f).refs<2^60):=hJ (λf hf=>by
     have a:=Kn.Hg {s.k with bk:=Mv.eI (s.k.p n).mem s.k.bk 16} fd f j;have b:=H.2.2.2 f hf;have c:((Kn.jN {s.k with bk:=Mv.eI (s.k.p n).mem s.k.bk 16} fd j).fi f).refs<=(s.k.fi f).refs+j:=a;have e1:(2:Nat)^50=1125899906842624:=by decide
     have e2:(2:Nat)^60=1152921504606846976:=by decide
     omega)
    generalize Kn.jN {s.k with bk:=Mv.eI (s.k.p n).mem s.k.bk 16} fd j=kj at*;obtain⟨z,hz⟩:=hU (fd j);rw[hz]at SU hix;clear hz;by_cases hz1:z= -1
    .subst hz1;rw[aJ rfl]at SU;go_wp2
     go_roundw
     case rel=>exact⟨j+1,by go_num,bB,by rw[SU.v];exact S⟩
     case measure=>simp[intOf];omega
    .rw[aI hz1]at SU;have zB:(z== -1)=bA:=by simpa using hz1
     have c8:=S.kk.tS;rw[show({s with k:=kj}:St).A 0=kb from HK.v]at c8;have XS:=hJ (zO (s.A 8) (s.A 6) (s.A 7) z kj.fi wr S.kk.fi RL.v);have c8':wr.cell? ⟨kb,252,bu⟩=bj (ai (bj ⟨s.A 8,0,bu⟩)):=c8;clear c8;obtain⟨a8,ha8⟩:=hU (s.A 8);have HA8:=hJ ha8;rw[ha8]at XS c8';clear ha8;go_wp2_with fail
     refine XS.mono ?_;rintro e w5 ⟨rfl,u5,f5⟩;generalize bN (Fx.dy kj.fi z)=ev;have S5:Hid (CO Wt s w n rb (rb+1) mb bb {kj with fi:=Fx.j7 kj.fi z} w5):=hJ (by
      rw[<-HA8.v]at u5 f5;have q:=S.kk.Jt u5 f5;exact S.step f5 q.1 q.2 L8.v)
     clear u5 f5 c8';go_wp2
     go_roundw
     case rel=>exact⟨j+1,by go_num,bB,by rw[SU.v];exact S5⟩
     case measure=>simp[intOf];omega
   .obtain rfl:j=6:=bB
    obtain⟨B,hB⟩:=hU (dZ mb bb (Kn.eU s.k n));have HB:=hJ hB;have RG:Hid (wr.rangeAt (rb+1) 0 B.toList):=hJ (by rw[<-hB];exact S.pb.range);have SL:Hid ((prog.info? 74).map (·.size)=bj B.toList.length):=hJ (by rw[<-hB,aB,dM];kernel_rfl);have SZ:Hid ((prog.info? 74).map (·.size)=bj B.size):=hJ (by rw[<-hB,dM];kernel_rfl);have TH:Hid (wr.there rb 0 B.size):=hJ (by rw[<-hB,dM];exact S.rs.there);have H1:Hid (B.all (·.oneCell')=bw):=hJ (by rw[<-hB];exact qj _ _ _);have F6:Hid (PB (wr.setCells rb 0 B.toList) rb mb bb (Kn.eU s.k n)/\bO (wr.setCells rb 0 B.toList) Wt {s with k:=Kn.dI s.k n}/\KF s w {s with k:=Kn.dI s.k n} (wr.setCells rb 0 B.toList)/\dj (wr.setCells rb 0 B.toList) mb (s.A 4) (s.k.p n).mem/\CX (wr.setCells rb 0 B.toList) bb (Sg.qy (s.k.p n).box)):=hJ (by
     have fr:bG rb wr (wr.setCells rb 0 B.toList):=bG.setCells _ _ (bG.refl _ _);have e:Kn.jN {s.k with bk:=Mv.eI (s.k.p n).mem s.k.bk 16} fd 6=Kn.dI s.k n:=by unfold Kn.dI;rw[HFD.v]
     have q:=S.v;rw[e]at q;refine⟨by rw[<-hB];exact S.rs.put _ _ _,q.kk.fresh fr (λ⟨i,hi,e⟩=>?_),q.kf.fresh fr (by have:=q.ge;omega),q.um.same (fr.block _ q.um.lt (by have:=q.ne;omega)),q.ub.same (fr.block _ q.ub.lt (by have:=q.ne;omega))⟩;have a:=q.kf.sub rb ⟨i,hi,e⟩;have g:=q.ge;rcases a with a|a
     .have:=H.1.Vt a;omega
     .have e2:rb=s.A i:=e;have k0:us s i:=by
       have hi2:=hi;obtain⟨T,eT⟩:=Kn.kG {s.k with bk:=Mv.eI (s.k.p n).mem s.k.bk 16} fd 6;have e3:Kn.dI s.k n={s.k with bk:=Mv.eI (s.k.p n).mem s.k.bk 16,fi:=T}:=by rw[<-eT];unfold Kn.dI;rw[HFD.v]
       rw[e3]at hi2;exact hi2
      have:=H.1.lt k0;omega)
    have GE:=hJ (aK S.ge S.ne);clear hB S;go_wp2_with (first|(refine wpList_load_mid rfl 74 _ rfl (rb+1) 0 rfl B.toList _ RG.v Tryz.underlying74 rfl SL.v ?_;rw[Array.toArray_toList])|(refine wpList_store_mid rfl 74 _ _ rfl rb 0 B rfl rfl TH.v SZ.v H1.v ?_))
    generalize wr.setCells rb 0 B.toList=WF at F6|-;have g0:=F6.1.cell 0 bB;have g1:=F6.1.cell 1 bB;have g2:=F6.1.cell 2 bB;have g3:=F6.1.cell 3 bB;have g4:=F6.1.cell 4 bB;have g5:=F6.1.cell 5 bB;have g6:=F6.1.cell 6 bB;have g7:=F6.1.cell 7 bB;have g8:=F6.1.cell 8 bB;have g9:=F6.1.cell 9 bB;have g10:=F6.1.cell 10 bB;have g11:=F6.1.cell 11 bB
    (try simp only[Exit.then])
    refine bodyPost_ret (v:=au #[Kn.fw mb bb (Kn.eU s.k n) 0,Kn.fw mb bb (Kn.eU s.k n) 1,Kn.fw mb bb (Kn.eU s.k n) 2,Kn.fw mb bb (Kn.eU s.k n) 3,Kn.fw mb bb (Kn.eU s.k n) 4,Kn.fw mb bb (Kn.eU s.k n) 5,Kn.fw mb bb (Kn.eU s.k n) 6,Kn.fw mb bb (Kn.eU s.k n) 7,Kn.fw mb bb (Kn.eU s.k n) 8,Kn.fw mb bb (Kn.eU s.k n) 9,Kn.fw mb bb (Kn.eU s.k n) 10,Kn.fw mb bb (Kn.eU s.k n) 11]) (by simp[results,Tryz.f69,go_sem,g0,g1,g2,g3,g4,g5,g6,g7,g8,g9,g10,g11]) rfl ?_;exact⟨mb,bb,rfl,F6.2.1,F6.2.2.1,F6.2.2.2.1,F6.2.2.2.2,GE.1.2.2.1,GE.1.2.2.2,GE.2.1⟩
end
namespace Sp
theorem OU{t:T}(h:mem t z m):m∈fY t z:=by
 obtain⟨p,p21,pw⟩:=h;unfold fY;exact List.mem_map.2 ⟨p,bX.2 ⟨by simpa using p21,by unfold jG;apply aO;omega⟩,bB⟩
theorem Lu{t:T}(hz:z<6)(hh:t.here z=bw)(h:mem t z m):m∈eQ t (z:Int):=by
 unfold eQ;rw[jP hz hh,aJ rfl,hZ];exact OU h
theorem Bz{t:T}(hI:Inv t d)(hz:z<6)(hh:t.here z=bw)(h:m∈eQ t (z:Int)):m<20/\mem t z m:=by
 unfold eQ at h;rw[jP hz hh,aJ rfl,hZ]at h;obtain⟨i,hi⟩:=List.getElem?_of_mem h;exact vZ hi (λp hp=>hI.rM z p hz hp)
end Sp
namespace Kn
theorem dL:lv k n=bw↔(k.p n).st=1:=by unfold lv;simp
structure PI (k:Kp)(m q:Nat):Prop where
 ic:q<20
 qm:q≠m
 pq:(k.p m).par=(q:Int)
 lq:lv k q=bw
 oq:∃y,k.sp.of q=y+1/\Sp.mem k.sp y m/\(hd k m=m->k.sp.of m≠y+1)
structure KH (N:Nat)(d:Nat->Nat)(k:Kp):Prop where
 ki:KI N d k
 pp:∀m,m<20->m≠0->(k.p m).st≠0->∃q,PI k m q
 l0:lv k 0=bw
 p0:(k.p 0).par= -1
 ge:∀m z,m<20->(k.p m).st=2->hd k m=m->k.sp.of m=z+1->∀x,x<20->Sp.mem k.sp z x->x=m
section
variable {N:Nat}{d:Nat->Nat}{k k1 k2 k3 k':Kp}{n z:Nat}
theorem KH.of(h:KH N d k){m:Nat}(hm:m<20)(s:(k.p m).st≠0):∃y,k.sp.of m=y+1:=⟨k.sp.of m-1,by have:=(h.ki.vi.kj.of m hm).2 s;omega⟩
theorem KH.iZ(h:KH N d k)(hi:KI N d k')(sp:k'.sp=k.sp)(hp:∀m,(k'.p m).st=(k.p m).st/\(k'.p m).par=(k.p m).par):KH N d k':=by
 have e:∀m,hd k' m=hd k m:=λm=>by unfold hd;rw[sp]
 have l:∀m,lv k' m=lv k m:=λm=>by unfold lv;rw[(hp m).1]
 refine⟨hi,λm hm m0 s=>?_,by rw[l];exact h.l0,by rw[(hp 0).2];exact h.p0,λm z hm s hd1 o x hx xm=>?_⟩
 .rw[(hp m).1]at s;obtain⟨q,a⟩:=h.pp m hm m0 s;refine⟨q,a.ic,a.qm,by rw[(hp m).2];exact a.pq,by rw[l];exact a.lq,?_⟩;rw[sp,e];exact a.oq
 .rw[(hp m).1]at s;rw[e]at hd1;rw[sp]at o xm;exact h.ge m z hm s hd1 o x hx xm
structure MQ (k:Kp)(n z:Nat)(k3:Kp):Prop where
 ot:∀q,q<20->q≠n->(k3.p q=k.p q/\k3.sp.of q=k.sp.of q)\/(k3.p q=Pr.no/\k3.sp.of q=0/\Sp.mem k.sp z q/\hd k n=n)
 wh:∀s p,s<6->p<21->k3.sp.b7 s p=k.sp.b7 s p\/k3.sp.b7 s p=0
 wk:∀s p m,s<6->p<21->m<20->k.sp.b7 s p=m+1->k3.sp.of m≠0->k3.sp.b7 s p=m+1
 al:hd k n=n->∀x,x<20->Sp.mem k3.sp z x->x=n
 sa:hd k n≠n->k3.sp=k.sp
theorem VI.mq(hv:VI (λ_=>False) N d k)(hn:n<20)(n0:n≠0)(l:lv k n=bw)(ho:k.sp.of n=z+1){c:Int}(s1:fP k n k1)(mt:yu 6 (eA k1 n c) n z k3):MQ k n z k3:=by
 obtain⟨a,sp,tb,hh,s0,fW⟩:=hv.first hn (λx=>x) ho (λ_=>s1) (λx=>by rw[l]at x;cases x);have oth2:∀q,q≠n->(eA k1 n c).p q=k.p q:=λq e=>(bP _ _ _ _ e).trans (fW q e);have hd2:∀q,hd (eA k1 n c) q=hd k q:=λq=>by
  show hd k1 q=hd k q;unfold hd;rw[sp]
 have gs:(eA k1 n c).sp=k.sp:=sp;rcases mt with⟨c1,rfl⟩|⟨ih,j,it⟩
 .rw[hd2 n]at c1;exact⟨λq _ e=> .inl ⟨oth2 q e,by rw[gs]⟩,λ_ _ _ _=> .inl (by rw[gs]),λ_ _ _ _ _ _ e _=>by rw[gs];exact e,λe=>aZ e c1,λ_=>gs⟩
 .rw[hd2 n]at ih;have ei:EI (λm=>False\/m=n) N d n z k1:=hv.ei hn n0 (λx=>x) ho ih (λ_ _ x=>aZ x (λx=>x)) (λ_=>s1) (λx=>by rw[l]at x;cases x);obtain⟨b,g,e,len⟩:=EI.iter (kU 6) j _ (ei.gone s0 hh c) it;refine⟨λq hq e=>?_,λs p hs hp=>by have:=g.wh s p hs hp;rw[gs]at this;exact this,λs p m hs hp hm=>by have:=g.wk s p m hs hp hm;rw[gs]at this;exact this,λ_ x hx xm=>?_,λe=>aZ ih e⟩
  .rcases g.kp q hq with w|w
   .rw[oth2 q e,gs]at w;exact .inl w
   .rw[gs]at w;exact .inr ⟨w.1,w.2.1,w.2.2,ih⟩
  .obtain⟨p,p21,pw⟩:=xm;rw[b.fY]at len;have p1:=Sp.xG b.hw len p p21 bB;subst p1;have:=b.hw;omega
theorem MQ.head(g:MQ k n z k3){d':Nat->Nat}(h:VI (λ_=>False) N d k)(h3:VI X N d' k3)(hm:m<20)(o:k3.sp.of m=k.sp.of m)(o0:k.sp.of m≠0):hd k3 m=m↔hd k m=m:=by
 obtain⟨y,hy⟩:∃y,k.sp.of m=y+1:=⟨k.sp.of m-1,bB⟩;have y6:=(h.iv.dc hm hy).2.1;rw[iG h.iv h.hs hm hy,iG h3.iv h3.hs hm (by rw[o];exact hy)];constructor
 .intro e;rcases g.wh y 1 y6 bB with w|w
  .rw[<-w];exact e
  .rw[w]at e;omega
 .intro e;exact g.wk y 1 m y6 bB hm e (by rw[o];exact o0)
theorem MQ.mem(g:MQ k n z k3){s m:Nat}(hs:s<6)(hm:m<20)(e:Sp.mem k.sp s m)(o:k3.sp.of m≠0):Sp.mem k3.sp s m:=by
 obtain⟨p,p21,pw⟩:=e;exact⟨p,p21,g.wk s p m hs p21 hm pw o⟩
theorem MQ.back(g:MQ k n z k3){s:Nat}(hs:s<6)(e:Sp.mem k3.sp s m):Sp.mem k.sp s m:=by
 obtain⟨p,p21,pw⟩:=e;rcases g.wh s p hs p21 with c|c
 .exact⟨p,p21,by rw[<-c];exact pw⟩
 .rw[c]at pw;omega
theorem KH.end(h:KH N d k)(hn:n<20)(n0:n≠0)(l:lv k n=bw)(ho:k.sp.of n=z+1)(hq:(k.p n).par=(q:Int)){c:Int}(et:lX k n c z q k'):KH N d k':=by
 obtain⟨k1,k3,s1,mt,rfl⟩:=et;have hv:=h.ki.vi;have md:=hv.Ag hn n0 l ho s1 mt;have mq:=hv.mq hn n0 l ho s1 mt;have z6:=(hv.iv.dc hn ho).2;obtain⟨q',pn⟩:=h.pp n hn n0 (by rw[dL.1 l];omega);obtain rfl:q=q':=by have:=pn.pq;omega
 have ic:=pn.ic;have qn:=pn.qm;have vi3:VI (λ_=>False) N d k3:=⟨⟨md.vi.kj.sp,md.vi.kj.gr,md.vi.kj.me,md.vi.kj.wx,md.vi.kj.rf,md.vi.kj.ok,md.vi.kj.tb,md.vi.kj.st,md.vi.kj.hs,λm hm _ s=>md.vi.kj.lv m hm (λx=>x.elim id (λe=>by subst e;rw[md.pn.1]at s;omega)) s,md.vi.kj.of,md.vi.kj.ht,md.vi.kj.nm⟩,md.vi.iv,md.vi.hs⟩;have left:∀m,m<20->(k3.p m).st≠0->m≠n->k3.p m=k.p m/\k3.sp.of m=k.sp.of m/\k.sp.of m≠0:=λm hm s mn=>by
  rcases mq.ot m hm mn with⟨a,b⟩|⟨a,_⟩
  .exact⟨a,b,(hv.kj.of m hm).2 (by rw[<-a];exact s)⟩
  .rw[a]at s;exact aZ rfl s
 have outs:∀m,m<20->(k3.p m).st≠0->m≠n->hd k n=n->¬Sp.mem k.sp z m:=λm hm s mn e c1=>by
  have:=left m hm s mn;exact mn (mq.al e m hm (mq.mem z6.1 hm c1 (by rw[this.2.1];exact this.2.2)))
 have stay:∀m x,m<20->(k3.p m).st≠0->PI k m x->x≠n->k3.p x=k.p x/\k3.sp.of x=k.sp.of x:=λm x hm s a xn=>by
  rcases mq.ot x a.ic xn with b|⟨_,_,b,e⟩
  .exact b
  .exfalso;obtain⟨y,oy,my,hy⟩:=a.oq;by_cases mn:m=n
   .subst mn;exact hv.iv.BG hn a.ic ho oy b (λe2=>hy e (by rw[ho,e2])) my
   .exact outs m hm s mn e (hv.iv.DW z6.1 a.ic hm oy b my)
 have hdn:∀m,m<20->(k3.p m).st≠0->(hd k3 m=m↔hd k m=m):=λm hm s=>by
  by_cases mn:m=n
  .subst mn;exact mq.head hv vi3 hm (by rw[md.ho,ho]) bB
  .have:=left m hm s mn;exact mq.head hv vi3 hm this.2.1 this.2.2
 have pi3:∀m x,m<20->(k3.p m).st≠0->PI k m x->x≠n->(k3.p m).par=(x:Int)->PI k3 m x:=λm x hm s a xn pe=>by
  have b:=stay m x hm s a xn;obtain⟨y,oy,my,hy⟩:=a.oq;have om:k3.sp.of m=k.sp.of m/\k.sp.of m≠0:=by
   by_cases mn:m=n
   .subst mn;rw[md.ho,ho];exact⟨rfl,bB⟩
   .exact(left m hm s mn).2
  refine⟨a.ic,a.qm,pe,dL.2 (by rw[b.1];exact dL.1 a.lq),y,by rw[b.2];exact oy,mq.mem (hv.iv.dc a.ic oy).2.1 hm my (by rw[om.1];exact om.2),λe=>?_⟩;rw[om.1];exact hy ((hdn m hm s).1 e)
 have ini:Sp.dX k3.sp (n:Int)=z:=Sp.iB hn md.ho;have z63:=(vi3.iv.dc hn md.ho).2;have inC:∀m,m∈iU k3 n->m<20/\Sp.mem k3.sp z m/\(k3.p m).par=(n:Int):=λm hm=>by
  have a:=hm;unfold iU jo at a;rw[ini]at a;have b:=Sp.Bz vi3.iv z63.1 z63.2 (bX.1 a).1;exact⟨b.1,b.2,vW m hm⟩
 obtain⟨hh,h20,hw,hof⟩:=vi3.hs.hd z z63.1 z63.2;have fh:Sp.fc k3.sp (z:Int) 1=hh:=Sp.P8 z63.1 z63.2 hw;rw[fh];have pp4:∀m,m<20->m≠0->(k3.p m).st≠0->∃x,PI (gG k3 (iU k3 n) (hh:Nat)) m x:=λm hm m0 s=>by
  have sk:(k.p m).st≠0:=by
   by_cases mn:m=n
   .subst mn;rw[dL.1 l];omega
   .rw[<-(left m hm s mn).1];exact s
  obtain⟨x,a⟩:=h.pp m hm m0 sk;have p3:(k3.p m).par=(x:Int):=by
   by_cases mn:m=n
   .subst mn;rw[md.pn.2.2.1];exact a.pq
   .rw[(left m hm s mn).1];exact a.pq
  by_cases xn:x=n
  .subst xn;have mn:m≠x:=λe=>a.qm e.symm;have lm:=left m hm s mn;obtain⟨y,oy,my,hy⟩:=a.oq;obtain rfl:y=z:=bB
   have nh:hd k x≠x:=λe=>outs m hm s mn e my;have mm:Sp.mem k3.sp y m:=mq.mem z6.1 hm my (by rw[lm.2.1];exact lm.2.2);have mC:m∈iU k3 x:=by
    unfold iU jo;rw[ini];exact bX.2 ⟨Sp.Lu z63.1 z63.2 mm,aO p3⟩
   have hx:hh≠x:=λe=>by
    subst e;exact nh ((hdn hh hn (by rw[md.pn.1];omega)).1 ((iG vi3.iv vi3.hs h20 hof).2 hw))
   have sh:(k3.p hh).st≠0:=(vi3.kj.of hh h20).1 bB;have lh:=left hh h20 sh hx;have hhd:hd k3 hh=hh:=(iG vi3.iv vi3.hs h20 hof).2 hw;have lvh:lv k3 hh=bw:=dL.2 (by
    have le:=vi3.kj.st hh h20;by_cases e2:(k3.p hh).st=2
    .exfalso;have oh:k.sp.of hh=y+1:=by rw[<-lh.2.1];exact hof
     exact hx (h.ge hh y h20 (by rw[<-lh.1];exact e2) ((hdn hh h20 sh).1 hhd) oh x hn (hv.iv.dc hn ho).1).symm
    .omega)
   refine⟨hh,h20,λe=>?_,?_,lvh,y,hof,mm,λe=>?_⟩
   .subst e;exact hy ((hdn hh hm s).1 hhd) (by rw[<-lm.2.1];exact hof)
   .show(if m∈iU k3 x then((hh:Nat):Int)else _)=_;rw[aJ mC]
   .show k3.sp.of m≠y+1;rw[lm.2.1];exact hy ((hdn m hm s).1 e)
  .have b:=pi3 m x hm s a xn p3;refine⟨x,b.ic,b.qm,?_,b.lq,b.oq⟩;show(if m∈iU k3 n then _ else(k3.p m).par)=_;rw[aI (λe=>xn (by have:=(inC m e).2.2;omega))];exact p3
 have ki4:KI N d (gG k3 (iU k3 n) (hh:Nat)):=by
  refine⟨⟨vi3.kj.ad _ _,vi3.iv,vi3.hs⟩,λm hm lm hd1=>?_,λm hm m0 s=>?_,vi3.h0⟩
  .have t1:(k3.p m).st=1:=dL.1 lm;have mn:m≠n:=λe=>by subst e;rw[md.pn.1]at t1;omega
   have lm2:=left m hm bB mn;show Sg.ft (k3.p m).box 0 0;rw[lm2.1];refine h.ki.fi m hm (dL.2 (by rw[<-lm2.1];exact t1)) (λe=>hd1 ((hdn m hm bB).2 e))
  .obtain⟨x,a⟩:=pp4 m hm m0 s;exact⟨x,a.ic,a.qm,a.pq⟩
 have kh4:KH N d (gG k3 (iU k3 n) (hh:Nat)):=by
  have e0:k3.p 0=k.p 0:=by
   rcases mq.ot 0 bB (bQ n0)with⟨a,_⟩|⟨_,_,b,e⟩
   .exact a
   .exact aZ b (hv.iv.zero hv.hs z6.1 ((iG hv.iv hv.hs hn ho).1 e) n0)
  refine⟨ki4,pp4,dL.2 ?_,?_,λm y hm s hd1 o x hx xm=>?_⟩
  .show(k3.p 0).st=1;rw[e0];exact dL.1 h.l0
  .show(if 0∈iU k3 n then _ else(k3.p 0).par)= -1;rw[aI (λc=>by have:=(inC 0 c).2.2;rw[e0,h.p0]at this;omega),e0];exact h.p0
  .have s2:(k3.p m).st=2:=s;have o2:k3.sp.of m=y+1:=o;have y6:=(vi3.iv.dc hm o2).2.1;by_cases mn:m=n
   .subst mn;obtain rfl:y=z:=by have:=md.ho;omega
    exact mq.al ((hdn m hm bB).1 hd1) x hx xm
   .have lm2:=left m hm bB mn;exact h.ge m y hm (by rw[<-lm2.1];exact s2) ((hdn m hm bB).1 hd1) (by rw[<-lm2.2.1];exact o2) x hx (mq.back y6 xm)
 unfold mL;split
 .refine kh4.iZ (kh4.ki.box q (λ_ lq hq1=>?_)) rfl (λm=>?_)
  .exact Sg.Dy (kh4.ki.fi q ic lq hq1)
  .unfold iO;by_cases e:m=q
   .subst e;rw[bM];exact⟨rfl,rfl⟩
   .rw[bP _ _ _ _ e];exact⟨rfl,rfl⟩
 .exact kh4
theorem KH.MH(h:KH N d k)(hn:n<20)(n0:n≠0)(g2:(k.p n).st=2)(ho:k.sp.of n=z+1)(v:iK 6 k n k'):KH N d k'/\k'.p n=Pr.no/\k'.sp.of n=0/\(∀x,x<20->x≠n->k'.p x=k.p x/\k'.sp.of x=k.sp.of x)/\(∀s p,s<6->p<21->k'.sp.b7 s p=if k.sp.b7 s p=n+1 then 0 else k.sp.b7 s p):=by
 have hv:=h.ki.vi;have z6:=(hv.iv.dc hn ho).2;obtain⟨v',g,e,ot⟩:=kU 6 (λ_=>False) k n k' z hv hn n0 (λx=>x) ho (λ_ _ _ x=>x.elim) v;have o0:k'.sp.of n=0:=by
  by_cases c:k'.sp.of n=0
  .exact c
  .have:=(v'.kj.of n hn).1 c;rw[e]at this;exact aZ rfl this
 have fW:∀x,x<20->x≠n->k'.p x=k.p x/\k'.sp.of x=k.sp.of x:=λx hx xn=>by
  by_cases c:hd k n=n
  .rcases g.kp x hx with w|w
   .exact w
   .exact aZ (h.ge n z hn g2 c ho x hx w.2.2) xn
  .exact ot c x hx xn
 have whs:∀s p,s<6->p<21->k'.sp.b7 s p=if k.sp.b7 s p=n+1 then 0 else k.sp.b7 s p:=λs p hs hp=>by
  by_cases c:k.sp.b7 s p=n+1
  .rw[aJ c];rcases g.wh s p hs hp with w|w
   .have:=(v'.iv.has s n hs hn).1 ⟨p,hp,by rw[w];exact c⟩;exact aZ o0 this.1
   .exact w
  .rw[aI c];by_cases c0:k.sp.b7 s p=0
   .rcases g.wh s p hs hp with w|w
    .exact w
    .rw[w,c0]
   .have le:=hv.iv.rM s p hs hp;have x20:k.sp.b7 s p-1<20:=bB
    have xn:k.sp.b7 s p-1≠n:=bB
    have hx:=(hv.iv.has s (k.sp.b7 s p-1) hs x20).1 ⟨p,hp,bB⟩;have:=g.wk s p (k.sp.b7 s p-1) hs hp x20 bB (by rw[(fW _ x20 xn).2];exact hx.1);omega
 have hdn:∀m,m<20->m≠n->k.sp.of m≠0->(hd k' m=m↔hd k m=m):=λm hm mn om=>by
  obtain⟨y,hy⟩:∃y,k.sp.of m=y+1:=⟨k.sp.of m-1,bB⟩;have y6:=(hv.iv.dc hm hy).2.1;rw[iG hv.iv hv.hs hm hy,iG v'.iv v'.hs hm (by rw[(fW m hm mn).2];exact hy),whs y 1 y6 bB];by_cases c:k.sp.b7 y 1=n+1
  .rw[aJ c];omega
  .rw[aI c]
 have mem':∀s m,s<6->m<20->m≠n->(Sp.mem k'.sp s m↔Sp.mem k.sp s m):=λs m hs hm mn=>by
  constructor
  .rintro⟨p,p21,pw⟩;rw[whs s p hs p21]at pw;by_cases c:k.sp.b7 s p=n+1
   .rw[aJ c]at pw;omega
   .rw[aI c]at pw;exact⟨p,p21,pw⟩
  .rintro⟨p,p21,pw⟩;exact⟨p,p21,by rw[whs s p hs p21,nJ];exact pw⟩
 have st0:∀m,m<20->(k'.p m).st≠0->m≠n:=λm _ s c=>by subst c;rw[e]at s;exact s rfl
 have pp:∀m,m<20->m≠0->(k'.p m).st≠0->∃q,PI k' m q:=λm hm m0 s=>by
  have mn:=st0 m hm s;rw[(fW m hm mn).1]at s;obtain⟨q,a⟩:=h.pp m hm m0 s;have qn:q≠n:=λc=>by subst c;have:=dL.1 a.lq;omega
  have oq:=fW q a.ic qn;obtain⟨y,oy,my,hy⟩:=a.oq;refine⟨q,a.ic,a.qm,by rw[(fW m hm mn).1];exact a.pq,dL.2 (by rw[oq.1];exact dL.1 a.lq),y,by rw[oq.2];exact oy,(mem' y m (hv.iv.dc a.ic oy).2.1 hm mn).2 my,λc=>?_⟩;rw[(fW m hm mn).2];exact hy ((hdn m hm mn ((hv.kj.of m hm).2 s)).1 c)
 refine⟨⟨⟨v',λm hm lm hd1=>?_,λm hm m0 s=>?_,v'.h0⟩,pp,?_,?_,λm y hm s hd1 o x hx xm=>?_⟩,e,o0,fW,whs⟩
 .have mn:=st0 m hm (by rw[dL.1 lm];omega);have om:=fW m hm mn;rw[om.1];have lk:lv k m=bw:=dL.2 (by rw[<-om.1];exact dL.1 lm);exact h.ki.fi m hm lk (λc=>hd1 ((hdn m hm mn ((hv.kj.of m hm).2 (by rw[dL.1 lk];omega))).2 c))
 .obtain⟨q,a⟩:=pp m hm m0 s;exact⟨q,a.ic,a.qm,a.pq⟩
 .exact dL.2 (by rw[(fW 0 bB (bQ n0)).1];exact dL.1 h.l0)
 .rw[(fW 0 bB (bQ n0)).1];exact h.p0
 .have mn:=st0 m hm bB;have om:=fW m hm mn;have xn:x≠n:=λc=>by
   subst c;have:=(v'.iv.has y x (v'.iv.dc hm o).2.1 hx).1 xm;exact this.1 o0
  rw[om.1]at s;rw[om.2]at o;exact h.ge m y hm s ((hdn m hm mn bB).1 hd1) o x hx ((mem' y x (hv.iv.dc hm o).2.1 hx xn).1 xm)
end
end Kn
namespace Kn
section
variable {N:Nat}{d:Nat->Nat}{k k2:Kp}{n c z:Nat}
theorem Ny(X:Nat->Sg.S1):Sg.ft (Sg.qy X) 0 0:= .inl ⟨rfl,λj _ _=>by unfold Sg.ok Sg.qy;simp⟩
theorem KH.gr(h:KH N d k){t:Nat->Gr.Gp}{M:Nat}(hM:N<=M)(g:∃Wy,Gr.Tree t Wy M):KH M d {k with gr:=t}:=by
 have kj:KJ (λ_=>False) M {k with gr:=t}:=(h.ki.vi.kj.mono (λ_ _ e=>e) hM).ks g;exact⟨⟨⟨kj,h.ki.vi.iv,h.ki.vi.hs⟩,h.ki.fi,h.ki.pr,h.ki.h0⟩,λm hm m0 s=>by
  obtain⟨q,a⟩:=h.pp m hm m0 s;exact⟨q,a.ic,a.qm,a.pq,a.lq,a.oq⟩,h.l0,h.p0,h.ge⟩
theorem KH.born(h:KH N d k){d2:Nat->Nat}(kj:KJ (λ_=>False) N k2)(iv:Sp.Inv k2.sp d2)(ep:k2.p=k.p)(eo:k2.sp.of=k.sp.of)(ew:k2.sp.b7=k.sp.b7)(hn:n<20)(l:lv k n=bw)(hc:c<20)(c0:(k.p c).st=0)(z6:z<6)(zh:k2.sp.here z=bw)
  {y:Nat} (oy:k.sp.of n=y+1) (hz:(z=y/\∀s,s<6->k2.sp.here s=bw->k.sp.here s=bw)\/(z≠y/\k2.sp.par z=(y:Int)/\k.sp.here z=bA/\∀s,s<6->k2.sp.here s=bw->s=z\/k.sp.here s=bw)) {m':Wf.M} (wk:Wf.jb (Wf.dH k2.sc (c:Int) (k2.p n).cA) (c:Int) bw m'):KH (N+1) d2 (iP (dI k2 n) c (eU k2 n) (z:Int) m'):=by
 have hv:=h.ki.vi;have l2:lv k2 n=bw:=by unfold lv;rw[ep];exact l
 have n1:(k.p n).st=1:=dL.1 l;have nc:n≠c:=λe=>by subst e;omega
 have hh2:(k2.p n).has=bw:=by rw[ep];exact hv.kj.lv n hn (λx=>x) n1
 have kj2:=kj.Wm (n:=n) (c:=c) (z:=z) (λx=>x) hn hc l2 hh2 (by rw[ep];exact c0) z6 zh wk;have o0:k2.sp.of c=0:=by
  by_cases e:k2.sp.of c=0
  .exact e
  .exact aZ (by rw[ep];exact c0) ((kj.of c hc).1 e)
 have o0k:k.sp.of c=0:=by rw[<-eo];exact o0
 obtain⟨T,eT⟩:=kG {k2 with bk:=Mv.eI (k2.p n).mem k2.bk 16} (k2.p n).fd 6;have cop:dI k2 n={k2 with bk:=Mv.eI (k2.p n).mem k2.bk 16,fi:=T}:=eT;have esp:(iP (dI k2 n) c (eU k2 n) (z:Int) m').sp=Sp.fM k2.sp (z:Int) (c:Int):=by rw[cop];rfl
 have e1:∀m,m≠c->(iP (dI k2 n) c (eU k2 n) (z:Int) m').p m=k.p m:=λm q=>by rw[cop];exact(bP _ _ _ _ q).trans (by show k2.p m=k.p m;rw[ep])
 have e2:(iP (dI k2 n) c (eU k2 n) (z:Int) m').p c=eU k2 n:=bM _ _ _;have iv':Sp.Inv (iP (dI k2 n) c (eU k2 n) (z:Int) m').sp d2:=by rw[esp];exact iv.enter _ _
 have hs':Sp.qZ (iP (dI k2 n) c (eU k2 n) (z:Int) m').sp:=by
  rw[esp];refine Sp.qZ.enter iv z6 zh hc o0 (λs s6 sh=>?_) (by rw[eo,ew];exact hv.hs.r0);rw[eo,ew];rcases hz with⟨_,q⟩|⟨_,_,q,r⟩
  .exact .inl (hv.hs.hd s s6 (q s s6 sh))
  .rcases r s s6 sh with e|e
   .subst e;exact .inr ⟨rfl,λp hp=>hv.iv.dead s6 hp q⟩
   .exact .inl (hv.hs.hd s s6 e)
 have vi':VI (λ_=>False) (N+1) d2 (iP (dI k2 n) c (eU k2 n) (z:Int) m'):=⟨kj2,iv',hs'⟩;generalize hk':iP (dI k2 n) c (eU k2 n) (z:Int) m'=k' at*;have of':∀m,k'.sp.of m=if m=c then z+1 else k.sp.of m:=λm=>by rw[esp,Sp.qA z6 zh hc o0,eo]
 have jj:∀s p,s<6->k.sp.b7 s p≠0->k'.sp.b7 s p=k.sp.b7 s p:=λs p hs hw=>by rw[esp,Sp.tn iv z6 zh hc o0 hs (by rw[ew];exact hw),ew]
 have memk:∀s m,s<6->Sp.mem k.sp s m->Sp.mem k'.sp s m:=λs m hs ⟨p,p21,pw⟩=>⟨p,p21,by rw[jj s p hs bB];exact pw⟩;have fY:∀s m,s<6->m≠c->Sp.mem k'.sp s m->Sp.mem k.sp s m:=λs m hs mc ⟨p,p21,pw⟩=>by
  rw[esp,Sp.Ah z6 zh hc o0]at pw;by_cases q:s∈Sp.W k2.sp (z:Int)/\p=Sp.low k2.sp s
  .rw[aJ q]at pw;omega
  .rw[aI q,ew]at pw;exact⟨p,p21,pw⟩
 have hdn:∀m,m<20->m≠c->k.sp.of m≠0->(hd k' m=m↔hd k m=m):=λm hm mc om=>by
  obtain⟨x,hx⟩:∃x,k.sp.of m=x+1:=⟨k.sp.of m-1,bB⟩;have x6:=(hv.iv.dc hm hx).2;obtain⟨hh,h20,hw,hof⟩:=hv.hs.hd x x6.1 x6.2;rw[iG hv.iv hv.hs hm hx,iG vi'.iv vi'.hs hm (by rw[of',aI mc];exact hx),jj x 1 x6.1 bB]
 have y6:=(hv.iv.dc hn oy).2;have piC:PI k' c n:=by
  refine⟨hn,nc,by rw[e2];rfl,dL.2 (by rw[e1 n nc];exact n1),y,by rw[of',aI nc];exact oy,?_,λe=>?_⟩
  .refine(vi'.iv.has y c y6.1 hc).2 ⟨by rw[of',aJ rfl];omega,?_⟩;rw[of',aJ rfl,show z+1-1=z by omega];have wz:Sp.W k'.sp (z:Int)=z::Sp.W k'.sp (k'.sp.par z):=vi'.iv.tree.step z6 (by rw[esp,(Sp.lM z6 zh hc o0).1];exact zh);rw[wz];rcases hz with⟨e,_⟩|⟨_,e,_,_⟩
   .rw[e];simp
   .have pe:k'.sp.par z=(y:Int):=by rw[esp,(Sp.lM z6 zh hc o0).2];exact e
    rw[pe];have yh:k'.sp.here y=bw:=by
     have:=(vi'.iv.dc hn (z:=y) (by rw[of',aI nc];exact oy)).2.2;exact this
    rw[vi'.iv.tree.step y6.1 yh];simp
  .rw[of',aJ rfl];intro q;obtain rfl:z=y:=bB
   have wc:=(iG vi'.iv vi'.hs hc (z:=z) (by rw[of',aJ rfl])).1 e;obtain⟨hh,h20,hw,hof⟩:=hv.hs.hd z y6.1 y6.2;rw[jj z 1 z6 bB,hw]at wc;have:hh=c:=bB
   subst this;omega
 have ppo:∀m,m<20->m≠0->(k'.p m).st≠0->∃q,PI k' m q:=λm hm m0 s=>by
  by_cases mc:m=c
  .subst mc;exact⟨n,piC⟩
  .rw[e1 m mc]at s;obtain⟨q,a⟩:=h.pp m hm m0 s;have qc:q≠c:=λe=>by subst e;have:=dL.1 a.lq;omega
   obtain⟨x,ox,mx,hx⟩:=a.oq;refine⟨q,a.ic,a.qm,by rw[e1 m mc];exact a.pq,dL.2 (by rw[e1 q qc];exact dL.1 a.lq),x,by rw[of',aI qc];exact ox,memk x m (hv.iv.dc a.ic ox).2.1 mx,λe=>?_⟩;rw[of',aI mc];exact hx ((hdn m hm mc ((hv.kj.of m hm).2 s)).1 e)
 have c0':(0:Nat)≠c:=λe=>by subst e;have:=dL.1 h.l0;omega
 refine⟨⟨vi',λm hm lm hd1=>?_,λm hm m0 s=>?_,vi'.h0⟩,ppo,dL.2 (by rw[e1 0 c0'];exact dL.1 h.l0),by rw[e1 0 c0'];exact h.p0,λm x hm s hd1 o u hu um=>?_⟩
 .by_cases mc:m=c
  .subst mc;rw[e2];exact Ny _
  .rw[e1 m mc];have lk:lv k m=bw:=dL.2 (by rw[<-e1 m mc];exact dL.1 lm);exact h.ki.fi m hm lk (λe=>hd1 ((hdn m hm mc ((hv.kj.of m hm).2 (by rw[dL.1 lk];omega))).2 e))
 .obtain⟨q,a⟩:=ppo m hm m0 s;exact⟨q,a.ic,a.qm,a.pq⟩
 .have mc:m≠c:=λe=>by
   subst e;rw[e2]at s;have:(k2.p n).st=2:=s;rw[ep]at this;omega
  rw[e1 m mc]at s;rw[of',aI mc]at o;have x6:=(hv.iv.dc hm o).2;have hdm:=(hdn m hm mc bB).1 hd1;by_cases uc:u=c
  .exfalso;subst uc;have a:=(vi'.iv.mem_of x6.1 hu um).2;rw[of',aJ rfl,show z+1-1=z by omega]at a;have yx:Sp.mem k.sp x n:=by
    refine fY x n x6.1 nc ((vi'.iv.has x n x6.1 hn).2 ⟨by rw[of',aI nc];omega,?_⟩);rw[of',aI nc,oy,show y+1-1=y by omega];rcases hz with⟨e,_⟩|⟨ne,e,hf,_⟩
    .rw[<-e];exact a
    .rw[vi'.iv.tree.step z6 (by rw[esp,(Sp.lM z6 zh hc o0).1];exact zh)]at a;rcases List.mem_cons.1 a with e3|a
     .subst e3;rw[x6.2]at hf;cases hf
     .rw[esp,(Sp.lM z6 zh hc o0).2,e]at a;rw[esp];exact a
   have:=h.ge m x hm s hdm o n hn yx;subst this;omega
  .exact h.ge m x hm s hdm o u hu (fY x u x6.1 uc um)
end
end Kn
namespace Kn
theorem UF(h:us {s with k:=dI s.k n} i):us s i:=by
 obtain⟨T,eT⟩:=kG {s.k with bk:=Mv.eI (s.k.p n).mem s.k.bk 16} (s.k.p n).fd 6;have e3:dI s.k n={s.k with bk:=Mv.eI (s.k.p n).mem s.k.bk 16,fi:=T}:=eT;rw[e3]at h;exact h
theorem tf(k:Kp)(n:Nat):(dI k n).sp=k.sp/\(dI k n).sc=k.sc/\(dI k n).p=k.p:=by
 obtain⟨T,eT⟩:=kG {k with bk:=Mv.eI (k.p n).mem k.bk 16} (k.p n).fd 6;have e3:dI k n={k with bk:=Mv.eI (k.p n).mem k.bk 16,fi:=T}:=eT;rw[e3];exact⟨rfl,rfl,rfl⟩
theorem Q3(h:Gr.gx k.gr Wy (k.p n).cA 1 (Mv.cM (k.p n).mem 16:Int)≠0):({k with gr:=Gr.eR k.gr Wy (k.p n).cA 1 (Mv.cM (k.p n).mem 16:Int)}:Kp)=k:=by
 unfold Gr.eR;rw[aI h]
theorem qw{t:Nat->Gr.Gp}(h:Gr.Tree t Wy N)(g p q:Int)(hp:p<=64)(hq:q<=64):Gr.Tree (Gr.eR t Wy g p q) Wy (N+1):=by
 unfold Gr.eR;by_cases e:Gr.gx t Wy g p q=0
 .rw[aJ e];have hr:Gr.eF t g p q=0:=by
   unfold Gr.gx at e;by_cases r:Gr.eF t g p q=0
   .exact r
   .rw[aI r]at e;exact aZ e r
  obtain⟨n,rfl,hn,hh,_,_⟩:=Gr.jS hr;rw[hZ];have o:=h.own n hn;obtain⟨hp,hq⟩:=Gr.oL hr;exact h.dV bB ⟨by omega,bB⟩ ⟨by omega,bB⟩
 .rw[aI e];exact h.mono bB
def cZ(k:Kp)(Wy:Nat->List (Fin 10))(n:Nat):Kp:={k with gr:=Gr.eR k.gr Wy (k.p n).cA 1 (Mv.cM (k.p n).mem 16:Int)}
def pQ(k:Kp)(Wy:Nat->List (Fin 10))(n:Nat):Int:=Gr.gx k.gr Wy (k.p n).cA 1 (Mv.cM (k.p n).mem 16:Int)
def pX(k:Kp)(z:Int)(own:Bool)(p:Nat)(E:Int)(k':Kp):Prop:=
 (cD k z≠0/\E=cD k z/\p=0/\k'=k)\/
 (cD k z=0/\∃n c F Wy,z=((n:Nat):Int)/\n<20/\gJ k c F/\Gr.dC k.gr Wy/\
  ((F≠0/\E=F/\p=0/\k'=k)\/(F=0/\pQ k Wy n≠0/\E=pQ k Wy n/\p=0/\k'=k)\/
   (F=0/\pQ k Wy n=0/\jL (cZ k Wy n) n own≠0/\E=jL (cZ k Wy n) n own/\p=0/\k'={cZ k Wy n with gr:=Gr.dn (cZ k Wy n).gr (k.p n).cA 1 (Mv.cM (k.p n).mem 16:Int)})\/
   (F=0/\pQ k Wy n=0/\jL (cZ k Wy n) n own=0/\E=0/\∃m',Wf.jb (Wf.dH (fN (cZ k Wy n) n own).sc (c:Int) (k.p n).cA) (c:Int) bw m'/\
    k'=iP (dI (fN (cZ k Wy n) n own) n) c (eU (fN (cZ k Wy n) n own) n) (nj (cZ k Wy n) n own:Int) m'/\p=Sp.pS k'.sp (c:Int) (Sp.dX k'.sp (n:Int):Nat))))
theorem Kz(k:Kp)(n:Nat)(own:Bool):(fN k n own).p=k.p/\(fN k n own).bk=k.bk/\(fN k n own).fi=k.fi/\(fN k n own).sc=k.sc:=by
 unfold fN;split<;>exact⟨rfl,rfl,rfl,rfl⟩
end Kn
section
variable (Wt N:Nat)(d:Nat->Nat)(s:St)(w:bD)
theorem KV(hN:N<=900)(z:Int)(own:Bool)(h:bO w Wt s)(hb:Wt<=w.heap.size)(hv:VI (λ_=>False) N d s.k):
  Calls prog 18 #[ai (bj ⟨s.A 0,0,bu⟩),aa az z, .bool own] w λe w'=>∃(p:Nat) (E:Int) (s':St),e=bf (ao #[aa az (p:Int),bN E])/\Kn.pX s.k z own p E s'.k/\bO w' Wt s'/\KF s w s' w':=by
 have AC:=hJ (dG Wt s w z h);have H:=hJ (aK h (aK hv (aK hb hN)));obtain⟨kb,hkb⟩:=hU (s.A 0);have HK:=hJ hkb;by_cases a:Kn.cD s.k z=0
 .obtain⟨n,rfl,hn,hl⟩:=Kn.fL a;have HA:=hJ (aK a hl);have st1:(s.k.p n).st=1:=by unfold Kn.lv at hl;simpa using hl
  have hh:=hv.kj.lv n hn (λx=>x) st1;obtain⟨y,hy⟩:∃y,s.k.sp.of n=y+1:=⟨s.k.sp.of n-1,by have:=(hv.kj.of n hn).2 bB;omega⟩;have HH:=hJ (aK hh hy);obtain⟨Wy,hWy⟩:=hv.kj.gr;have HW:=hJ hWy;rw[a,bF,gC]at AC;have FRE:=hJ (IW Wt s w h);have c4:=h.qv n hn hh;have RS:=hJ (mW (s.A (9+n)) (s.A 4) (s.k.p n).mem w (h.me n hn hh));have RL:=hJ (YtpmmdkcfenjiaaaGreatDoor.mr (s.k.p n).mem 16);rw[hkb]at AC FRE c4|-;generalize s.A (9+n)=m9 at c4 RS;go_in
  go_wp2_with fail
  refine sC AC.v ?_;rintro w1 hw;subst w1;go_wp2_with fail
  refine FRE.mono ?_;rintro e w1 ⟨c,F,rfl,hF,hw⟩;subst w1;have HF:=hJ hF;by_cases f0:F=0
  .subst f0;rw[bF];have lC:c<20:=by
    rcases HF.v with q|q
    .exact q.2.1
    .omega
   have c20I:(c:Int)<20:=bB
   go_wp2_with fail
   refine sC RS.v ?_;rintro w1 b1;have S1:Hid (bO w1 Wt s/\KF s w s w1/\Wt<=w1.heap.size):=hJ ⟨H.1.below b1,KF.below b1,aH H.2.2.1 b1.size⟩;obtain⟨rr,hrr⟩:=hU (Mv.cM (s.k.p n).mem 16);have HRR:=hJ hrr;rw[hrr]at RL|-;have rl:=RL.v;go_upto_region 8 with fail
   have K0:Hid (w1.cell? ⟨kb,247,bu⟩=bj (ai (bj ⟨s.A 2,0,bu⟩))/\w1.cell? ⟨kb,n*12+2,bu⟩=bj (aa az (s.k.p n).cA)):=hJ (by rw[<-HK.v];exact⟨S1.1.pA,S1.1.pP n hn⟩);have CG:=hJ (Gr.nV (s.A 2) (s.k.p n).cA 1 (rr:Int) s.k.gr Wy w1.drew S1.1.drew.gr HW.ways (HW.small (by have:=H.2.2.2;omega)));have A4:Hid (∀w4,Gr.bT w4 (s.A 2) (Gr.eR s.k.gr Wy (s.k.p n).cA 1 (rr:Int))->Gr.bG (s.A 2) w1.drew w4->bO w4 Wt {s with k:=Kn.cZ s.k Wy n}/\KF s w {s with k:=Kn.cZ s.k Wy n} w4/\Wt<=w4.heap.size/\w4.cell? ⟨kb,247,bu⟩=bj (ai (bj ⟨s.A 2,0,bu⟩))/\w4.cell? ⟨kb,n*12+2,bu⟩=bj (aa az (s.k.p n).cA)):=hJ (λw4 t4 f4=>by
    have q:=S1.1.drew.ks t4 f4.sK;have e:({s.k with gr:=Gr.eR s.k.gr Wy (s.k.p n).cA 1 (rr:Int)}:Kp)=Kn.cZ s.k Wy n:=by unfold Kn.cZ;rw[HRR.v]
    rw[e]at q;refine⟨q.1,S1.2.1.trans ((KF.drew _ _).trans q.2),aH S1.2.2 q.2.ia.size,?_⟩;rw[<-HK.v];exact⟨q.1.pA,q.1.pP n hn⟩)
   have HE:Hid (Kn.pQ s.k Wy n=Gr.gx s.k.gr Wy (s.k.p n).cA 1 (rr:Int)):=hJ (by unfold Kn.pQ;rw[HRR.v]);obtain⟨gz,hgz⟩:=hU ((s.k.p n).cA);obtain⟨g2,hg2⟩:=hU (s.A 2);have HG:=hJ (aK hgz hg2);rw[hgz,hg2]at CG K0 A4;rw[hgz]at HE;obtain⟨ce,hce⟩:=hU (Gr.gx s.k.gr Wy gz 1 (rr:Int));rw[hce]at CG HE;rw[show Gr.bN ce=bN ce from rfl]at CG;obtain⟨y1,y2⟩:=K0.v;go_region_held3 (λw'=>w'.cell? ⟨kb,247,bu⟩=bj (ai (bj ⟨g2,0,bu⟩))/\w'.cell? ⟨kb,n*12+2,bu⟩=bj (aa az gz)) (first|exact K0.v|exact S4.2.2.2) (
    (go_at_call 65;refine sC CG.v ?_;rintro w4 ⟨t4,f4⟩;have S4:=hJ (A4.v w4 t4 f4)))
   by_cases e0:ce=0
   .subst e0;rw[bF];have VI1:Hid (VI (λ_=>False) (N+1) d (Kn.cZ s.k Wy n)):=hJ ⟨(H.2.1.kj.mono (λ_ _ e=>e) (Nat.le_succ N)).ks ⟨Wy,Kn.qw HW.v _ _ _ bB (by have:=RL.v;rw[HRR.v];omega)⟩,H.2.1.iv,H.2.1.hs⟩;have HM:=hJ (KX Wt (N+1) d {s with k:=Kn.cZ s.k Wy n} w4 n y own S4.1 S4.2.2.1 VI1.v hn HH.2);rw[show({s with k:=Kn.cZ s.k Wy n}:St).A 0=kb from HK.v]at HM;go_wp2_with fail
    refine HM.mono ?_;rintro e w5 ⟨s2,rfl,e2,k2,f2⟩;have S5:Hid (s2.k=Kn.fN (Kn.cZ s.k Wy n) n own/\bO w5 Wt s2/\KF s w s2 w5/\Wt<=w5.heap.size/\s2.A 0=kb):=hJ ⟨e2,k2,S4.2.1.trans f2,aH S4.2.2.1 f2.ia.size,f2.a0.trans HK.v⟩;have HE2:Hid (Kn.jL ({s with k:=Kn.cZ s.k Wy n}:St).k n own=Kn.jL (Kn.cZ s.k Wy n) n own):=hJ rfl;obtain⟨he,hhe⟩:=hU (Kn.jL ({s with k:=Kn.cZ s.k Wy n}:St).k n own);obtain⟨hz,hhz⟩:=hU (Kn.nj ({s with k:=Kn.cZ s.k Wy n}:St).k n own);have HHE:Hid (Kn.jL (Kn.cZ s.k Wy n) n own=he/\Kn.nj (Kn.cZ s.k Wy n) n own=hz):=hJ ⟨hhe,hhz⟩;rw[hhe,hhz];by_cases h0:he=0
    .subst h0;rw[bF];have P2:Hid (s2.k.p=s.k.p/\s2.k.bk=s.k.bk/\s2.k.fi=s.k.fi/\s2.k.sc=s.k.sc):=hJ (by rw[S5.1];exact Kn.Kz _ n own);have CH:=hJ (IK Wt s2 w5 n S5.2.1 hn (by rw[P2.1];exact HH.1) (by rw[P2.1,P2.2.1];exact H.2.1.kj.me) (λf hf=>by
      rw[P2.2.2.1];have:=H.2.1.kj.rf f hf;have:=H.2.2.2;have e1:(2:Nat)^50=1125899906842624:=by decide
      omega))
     rw[S5.2.2.2.2]at CH;have INV:Hid (∃d2,Sp.Inv s2.k.sp d2):=hJ (by
      rw[S5.1];cases own
      .rw[(Kn.Ak _ n).1];exact⟨d,VI1.iv⟩
      .have iz:Sp.dX (Kn.cZ s.k Wy n).sp (n:Int)=y:=Sp.iB hn HH.2;have ea:Sp.iY (Kn.cZ s.k Wy n).sp (y:Int)=0:=by have:=HHE.1;unfold Kn.jL at this;rw[aJ rfl,iz]at this;exact this
       rw[(Kn.xv iz ea rfl).1];exact(VI1.kj.LH ea rfl).sp)
     go_wp2_with fail
     refine CH.mono ?_;rintro e w6 ⟨mb,bb,rfl,k6,f6,um,ub,lm,lb,mn⟩;obtain⟨d2,hd2⟩:=INV.v;have LT:Hid (∀i,us {s2 with k:=Kn.dI s2.k n} i->s2.A i<w5.heap.size):=hJ (λi hi=>S5.2.1.lt (Kn.UF hi));have ST:=hJ (yX Wt {s2 with k:=Kn.dI s2.k n} w6 c mb bb (Kn.eU s2.k n) (hz:Int) d2 k6 lC (by rw[(Kn.tf s2.k n).1];exact hd2) um ub (λi hi=>by have:=LT.v i hi;show s2.A i≠mb;omega) (λi hi=>by have:=LT.v i hi;show s2.A i≠bb;omega) mn (by have:=S5.2.2.2.1;omega) (by have:=S5.2.2.2.1;omega));rw[show({s2 with k:=Kn.dI s2.k n}:St).A 0=kb from S5.2.2.2.2]at ST;have S6:Hid (KF s w {s2 with k:=Kn.dI s2.k n} w6/\w5.heap.size<=mb/\w5.heap.size<=bb/\w.heap.size<=w5.heap.size):=hJ ⟨S5.2.2.1.trans f6,lm,lb,S5.2.2.1.ia.size⟩;obtain⟨PA,hPA⟩:=hU (dZ mb bb (Kn.eU s2.k n));rw[hPA]at ST|-;go_wp2_with fail
     refine ST.mono ?_;rintro e w7 ⟨m',rfl,wk,k7,o7⟩;have S7:Hid (Wf.jb (Wf.dH (Kn.fN (Kn.cZ s.k Wy n) n own).sc (c:Int) (s.k.p n).cA) (c:Int) bw m'/\bO w7 Wt {Kn.ed {s2 with k:=Kn.dI s2.k n} c mb bb (Kn.eU s2.k n)with k:=Kn.iP (Kn.dI (Kn.fN (Kn.cZ s.k Wy n) n own) n) c (Kn.eU (Kn.fN (Kn.cZ s.k Wy n) n own) n) (hz:Int) m'}/\KF s w {Kn.ed {s2 with k:=Kn.dI s2.k n} c mb bb (Kn.eU s2.k n)with k:=Kn.iP (Kn.dI (Kn.fN (Kn.cZ s.k Wy n) n own) n) c (Kn.eU (Kn.fN (Kn.cZ s.k Wy n) n own) n) (hz:Int) m'} w7):=hJ (by
      have w2:Wf.jb (Wf.dH (Kn.dI s2.k n).sc (c:Int) (s2.k.p n).cA) (c:Int) bw m':=wk;rw[(Kn.tf s2.k n).2.1,P2.1,S5.1]at w2;have k8:bO w7 Wt {Kn.ed {s2 with k:=Kn.dI s2.k n} c mb bb (Kn.eU s2.k n)with k:=Kn.iP (Kn.dI s2.k n) c (Kn.eU s2.k n) (hz:Int) m'}:=k7;have f8:KF s w {Kn.ed {s2 with k:=Kn.dI s2.k n} c mb bb (Kn.eU s2.k n)with k:=Kn.iP (Kn.dI s2.k n) c (Kn.eU s2.k n) (hz:Int) m'} w7:=by
       refine⟨⟨o7.os.trans S6.1.ia.os,o7.tape.trans S6.1.ia.tape,o7.output.trans S6.1.ia.output,aH S6.1.ia.size o7.size,λb hb hc=>(o7.block b (aD hb S6.1.ia.size) (λq=>(S6.1.sub b q).elim hc (λq=>bB))).trans (S6.1.ia.block b hb hc)⟩,λb ⟨i,hi,eb⟩=>?_,(Kn.fa {s2 with k:=Kn.dI s2.k n} c mb bb (Kn.eU s2.k n) (i:=0) bB bB).trans S6.1.a0⟩;have hi2:us (Kn.ed {s2 with k:=Kn.dI s2.k n} c mb bb (Kn.eU s2.k n)) i:=hi;rcases Kn.wC hi2 with rfl|rfl|⟨ui,i1,i2⟩
       .exact .inr (by rw[eb,show({Kn.ed {s2 with k:=Kn.dI s2.k n} c mb bb (Kn.eU s2.k n)with k:=Kn.iP (Kn.dI s2.k n) c (Kn.eU s2.k n) (hz:Int) m'}:St).A (9+c)=mb from Kn.ny {s2 with k:=Kn.dI s2.k n} c mb bb (Kn.eU s2.k n)];have:=S6.2;omega)
       .exact .inr (by rw[eb,show({Kn.ed {s2 with k:=Kn.dI s2.k n} c mb bb (Kn.eU s2.k n)with k:=Kn.iP (Kn.dI s2.k n) c (Kn.eU s2.k n) (hz:Int) m'}:St).A (29+c)=bb from Kn.nv {s2 with k:=Kn.dI s2.k n} c mb bb (Kn.eU s2.k n)];have:=S6.2;omega)
       .exact S6.1.sub b ⟨i,ui,eb.trans (Kn.fa {s2 with k:=Kn.dI s2.k n} c mb bb (Kn.eU s2.k n) i1 i2)⟩
      rw[S5.1]at k8 f8;rw[S5.1];exact⟨w2,k8,f8⟩)
     obtain⟨s3,hs3⟩:=hU (({Kn.ed {s2 with k:=Kn.dI s2.k n} c mb bb (Kn.eU s2.k n)with k:=Kn.iP (Kn.dI (Kn.fN (Kn.cZ s.k Wy n) n own) n) c (Kn.eU (Kn.fN (Kn.cZ s.k Wy n) n own) n) (hz:Int) m'}:St));have HS3:Hid (s3.k=Kn.iP (Kn.dI (Kn.fN (Kn.cZ s.k Wy n) n own) n) c (Kn.eU (Kn.fN (Kn.cZ s.k Wy n) n own) n) (hz:Int) m'/\s3.A 0=kb):=hJ (by
      rw[<-hs3];exact⟨rfl,(Kn.fa {s2 with k:=Kn.dI s2.k n} c mb bb (Kn.eU s2.k n) (i:=0) bB bB).trans S5.2.2.2.2⟩)
     rw[hs3]at S7;have W0:Hid (∀q,q<6->s3.k.sp.b7 q 0=0):=hJ (by
      rw[HS3.1];have q:Sp.Inv (Sp.fM (Kn.dI (Kn.fN (Kn.cZ s.k Wy n) n own) n).sp (hz:Int) (c:Int)) d2:=by
       rw[(Kn.tf _ n).1,<-S5.1];exact hd2.enter _ _
      exact q.r9)
     have SP:=hJ (iJ Wt s3 w7 (n:Int) S7.2.1);have PI:=hJ (DB Wt s3 w7 (c:Int) ((Sp.dX s3.k.sp (n:Int):Nat):Int) S7.2.1 W0.v);rw[HS3.2]at SP PI;obtain⟨pp,hpp⟩:=hU (Sp.pS s3.k.sp (c:Int) ((Sp.dX s3.k.sp (n:Int):Nat):Int));have HPP:=hJ hpp;rw[hpp]at PI;generalize Sp.dX s3.k.sp (n:Int)=ss at SP PI;go_wp2_with fail
     refine sC SP.v ?_;rintro w8 hw;subst w8;go_wp2_with fail
     refine sC PI.v ?_;rintro w8 hw;subst w8;go_wp2
     go_ret2
     refine⟨pp,0,s3,by rw[bF];rfl, .inr ⟨HA.1,n,c,0,Wy,rfl,hn,HF.v,HW.ways, .inr (.inr (.inr ⟨rfl,HE.v,HHE.1,rfl,m',S7.1,by rw[HHE.2];exact HS3.1,HPP.symm⟩))⟩,S7.2⟩
    .have E2:Hid (s2.k=Kn.cZ s.k Wy n):=hJ (by
      rw[S5.1];unfold Kn.fN;rw[aI (λq=>h0 (by rw[<-HHE.1];exact q.2))])
     have HEV:=hJ (aK h0 (bH h0));rw[bH h0];go_upto_region 13 with fail
     have K0:Hid (w5.cell? ⟨kb,247,bu⟩=bj (ai (bj ⟨s2.A 2,0,bu⟩))/\w5.cell? ⟨kb,n*12+2,bu⟩=bj (aa az gz)):=hJ (by
      have q:=S5.2.1.pP n hn;rw[E2.v]at q;have q2:w5.cell? ⟨s2.A 0,n*12+2,bu⟩=bj (aa az (s.k.p n).cA):=q;rw[<-S5.2.2.2.2,<-HG.1];exact⟨S5.2.1.pA,q2⟩)
     have CG:=hJ (Gr.iR (s2.A 2) gz 1 (rr:Int) s2.k.gr w5.drew S5.2.1.drew.gr (by rw[E2.v];obtain⟨Wy2,g⟩:=VI1.kj.gr;exact g.small (by have:=H.2.2.2;omega)));have A4:Hid (∀w6,Gr.bT w6 (s2.A 2) (Gr.dn s2.k.gr gz 1 (rr:Int))->Gr.bG (s2.A 2) w5.drew w6->bO w6 Wt {s2 with k:={s2.k with gr:=Gr.dn s2.k.gr gz 1 (rr:Int)}}/\KF s w {s2 with k:={s2.k with gr:=Gr.dn s2.k.gr gz 1 (rr:Int)}} w6/\w6.cell? ⟨kb,247,bu⟩=bj (ai (bj ⟨s2.A 2,0,bu⟩))/\w6.cell? ⟨kb,n*12+2,bu⟩=bj (aa az gz)):=hJ (λw6 t4 f4=>by
      have q:=S5.2.1.drew.ks t4 f4.sK;have q3:=q.1.pP n hn;have q2:w6.cell? ⟨s2.A 0,n*12+2,bu⟩=bj (aa az (s2.k.p n).cA):=q3;rw[E2.v]at q2;have q4:w6.cell? ⟨s2.A 0,n*12+2,bu⟩=bj (aa az (s.k.p n).cA):=q2;refine⟨q.1,S5.2.2.1.trans ((KF.drew _ _).trans q.2),?_⟩;rw[<-S5.2.2.2.2,<-HG.1];exact⟨q.1.pA,q4⟩)
     obtain⟨g3,hg3⟩:=hU (s2.A 2);rw[hg3]at CG K0 A4;generalize Gr.bN (Gr.gm s2.k.gr gz 1 (rr:Int))=uv at CG;obtain⟨y1,y2⟩:=K0.v;go_region_held3 (λw'=>w'.cell? ⟨kb,247,bu⟩=bj (ai (bj ⟨g3,0,bu⟩))/\w'.cell? ⟨kb,n*12+2,bu⟩=bj (aa az gz)) (first|exact K0.v|exact S6.2.2) (
      (go_at_call 67;refine sC CG.v ?_;rintro w6 ⟨t4,f4⟩;have S6:=hJ (A4.v w6 t4 f4)))
     go_wp2
     go_ret2
     refine⟨0,he,_,by rw[HEV.2];rfl, .inr ⟨HA.1,n,c,0,Wy,rfl,hn,HF.v,HW.ways, .inr (.inr (.inl ⟨rfl,HE.v,by rw[HHE.1];exact HEV.1,HHE.1.symm,rfl,?_⟩))⟩,S6.1,S6.2.1⟩;show({s2.k with gr:=Gr.dn s2.k.gr gz 1 (rr:Int)}:Kp)=_;rw[E2.v,HRR.v,HG.1]
   .have E0:Hid (Kn.cZ s.k Wy n=s.k):=hJ (by
     have q:Gr.gx s.k.gr Wy (s.k.p n).cA 1 (Mv.cM (s.k.p n).mem 16:Int)≠0:=by have:=HE.v;unfold Kn.pQ at this;rw[this];exact e0
     exact Kn.Q3 q)
    have HEV:=hJ (aK e0 (bH e0));rw[bH e0];go_wp2
    go_ret2
    refine⟨0,ce,s,by rw[HEV.2];rfl, .inr ⟨HA.1,n,c,0,Wy,rfl,hn,HF.v,HW.ways, .inr (.inl ⟨rfl,by rw[HE.v];exact HEV.1,HE.symm,rfl,rfl⟩)⟩,?_⟩;have q:=aK S4.1 S4.2.1;rw[E0.v]at q;exact q
  .have HEV:=hJ (aK f0 (bH f0));rw[bH f0];go_wp2
   go_ret2
   exact⟨0,F,s,by rw[HEV.2];rfl, .inr ⟨HA.1,n,c,F,Wy,rfl,hn,HF.v,HW.ways, .inl ⟨HEV.1,rfl,rfl,rfl⟩⟩,H.1,KF.refl _ _⟩
 .have FIN:Hid (Kn.pX s.k z own 0 (Kn.cD s.k z) s.k):=hJ (.inl ⟨a,rfl,rfl,rfl⟩);have HE:=hJ (bH a);rw[bH a]at AC;generalize gQ (s.A 0) z (Kn.cD s.k z)=ap at*;rw[hkb]at AC|-;go_in
  go_wp2_with fail
  refine sC AC.v ?_;rintro w1 hw;subst w1;go_wp2
  go_ret2
  exact⟨0,Kn.cD s.k z,s,by rw[HE.v];rfl,FIN.v,H.1,KF.refl _ _⟩
end
theorem PB.rF(h:PB w c a b x)(hf:f<6)(v:Int):PB (w.setCell ⟨c,6+f,bu⟩ (aa az v)) c a b {x with fd:=λi=>if i=f then v else x.fd i}:=h.set bB (λj hj=>by
 unfold Kn.fw;by_cases e:j=6+f
 .rw[aJ e,nJ,nJ,nJ,nJ,nJ,nJ];simp[show j-6=f by omega]
 .rw[aI e];by_cases d:j<6
  .have q:j=0\/j=1\/j=2\/j=3\/j=4\/j=5:=bB
   rcases q with rfl|rfl|rfl|rfl|rfl|rfl<;>rfl
  .rw[nJ,nJ,nJ,nJ,nJ,nJ];simp[show j-6≠f by omega,show j≠0 by omega,show j≠1 by omega,show j≠2 by omega,show j≠3 by omega,show j≠4 by omega,show j≠5 by omega])
def Kn.gY(j:Nat):Pr:=⟨1,-1,0,0,λi=>if i<j then -1 else 0,bw,Mv.lR,Sg.gB⟩
theorem Kn.N7(j:Nat):({Kn.gY j with fd:=λi=>if i=j then -1 else(Kn.gY j).fd i}:Pr)=Kn.gY (j+1):=by
 have key:(λi=>if i=j then(-1:Int)else(Kn.gY j).fd i)=(Kn.gY (j+1)).fd:=funext λi=>by
  show _=if i<j+1 then(-1:Int)else 0;by_cases e:i=j
  .rw[aJ e,nK]
  .rw[aI e];show(if i<j then(-1:Int)else 0)=_;by_cases c:i<j
   .rw[aJ c,nK]
   .rw[aI c,nJ]
 rw[key];rfl
theorem Uh(a b:Nat):dZ a b (Kn.gY 0)=#[aa az 1,aa az (-1),aa az 0,aa az 0,ai (bj ⟨a,0,bu⟩),ai (bj ⟨b,0,bu⟩),aa az 0,aa az 0,aa az 0,aa az 0,aa az 0,aa az 0]:=rfl
structure FO (w:bD)(r rb c mb bb j:Nat)(W:bD):Prop where
 pb:PB W c mb bb (Kn.gY j)
 rs:PB W rb 0 0 Pr.no
 um:dj W mb r Mv.lR
 ub:CX W bb Sg.gB
 bl:Below w.heap.size w W
 ge:w.heap.size<=rb/\w.heap.size<=c/\w.heap.size<=mb/\w.heap.size<=bb
 ne:mb≠bb/\rb≠c/\rb≠mb/\rb≠bb/\c≠mb/\c≠bb
theorem FO.next{r:Nat}{W:bD}(h:FO w r rb c mb bb j W)(hj:j<6):FO w r rb c mb bb (j+1) (W.setCell ⟨c,6+j,bu⟩ (aa az (-1))):=by
 have fr:bG c W (W.setCell ⟨c,6+j,bu⟩ (aa az (-1))):=(bG.refl _ _).setCell _ _;have n:=h.ne;have g:=h.ge;refine⟨by rw[<-Kn.N7];exact h.pb.rF hj _,h.rs.same (fr.block _ h.rs.lt bB),h.um.same (fr.block _ h.um.lt bB),h.ub.same (fr.block _ h.ub.lt bB),fr.below h.bl g.2.1 (by have:=h.bl.size;omega),g,n⟩
theorem Nq(w:bD):CX (w.alloc (bh (gS Sg.gB) 235)) w.heap.size Sg.gB/\Below w.heap.size w (w.alloc (bh (gS Sg.gB) 235)):=
 ⟨CX.LG (heap_alloc_new w _),(aQ _ _).alloc (aL _) _⟩
theorem IN(kb r:Nat)(w:bD)(hc:w.cell? ⟨kb,249,bu⟩=bj (ai (bj ⟨r,0,bu⟩)))(hk:kb<w.heap.size):
  Calls prog 91 #[ai (bj ⟨kb,0,bu⟩)] w λe w'=>∃mb bb,e=bf (au (dZ mb bb (Kn.gY 6)))/\dj w' mb r Mv.lR/\CX w' bb Sg.gB/\Below w.heap.size w w'/\w.heap.size<=mb/\w.heap.size<=bb/\mb≠bb:=by
 have b0:Below w.heap.size w (w.alloc (bh #[aa az 0,aa az 0,aa az 0,aa az 0,ai bu,ai bu,aa az 0,aa az 0,aa az 0,aa az 0,aa az 0,aa az 0] 74)):=(aQ _ _).alloc (aL _) _;have c0:(w.alloc (bh #[aa az 0,aa az 0,aa az 0,aa az 0,ai bu,ai bu,aa az 0,aa az 0,aa az 0,aa az 0,aa az 0,aa az 0] 74)).cell? ⟨kb,249,bu⟩=bj (ai (bj ⟨r,0,bu⟩)):=(aV (b0.block kb hk)).trans hc;have R0:Hid (PB (w.alloc (bh #[aa az 0,aa az 0,aa az 0,aa az 0,ai bu,ai bu,aa az 0,aa az 0,aa az 0,aa az 0,aa az 0,aa az 0] 74)) w.heap.size 0 0 Pr.no/\Below w.heap.size w (w.alloc (bh #[aa az 0,aa az 0,aa az 0,aa az 0,ai bu,ai bu,aa az 0,aa az 0,aa az 0,aa az 0,aa az 0,aa az 0] 74))):=hJ ⟨by unfold PB;rw[y9];exact heap_alloc_new w _,b0⟩;go_in
 go_wp2_with fail
 refine(PF r _).mono ?_;rintro e w1 ⟨rfl,u1,b1⟩;rw[show(w.alloc (bh #[aa az 0,aa az 0,aa az 0,aa az 0,ai bu,ai bu,aa az 0,aa az 0,aa az 0,aa az 0,aa az 0,aa az 0] 74)).heap.size=w.heap.size+1 by simp]at u1 b1|-;have S1:Hid (PB w1 w.heap.size 0 0 Pr.no/\dj w1 (w.heap.size+1) r Mv.lR/\Below w.heap.size w w1):=hJ ⟨R0.1.same (b1.block _ bB),u1,R0.2.trans (b1.mono bB)⟩;obtain⟨rb,hrb⟩:=hU (w.heap.size);have HR:=hJ hrb;rw[hrb]at S1|-;go_upto_region 2 with(refine Fl rfl rfl ?_)
 have F0:Hid (FO w r rb (w1.heap.size+1) (rb+1) w1.heap.size 0 ((w1.alloc (bh (gS Sg.gB) 235)).alloc (bh #[aa az 1,aa az (-1),aa az 0,aa az 0,ai (bj ⟨rb+1,0,bu⟩),ai (bj ⟨w1.heap.size,0,bu⟩),aa az 0,aa az 0,aa az 0,aa az 0,aa az 0,aa az 0] 74))):=hJ (by
  have l1:=S1.2.1.lt;have bx:=Nq w1;have bz:(w1.alloc (bh (gS Sg.gB) 235)).heap.size=w1.heap.size+1:=by simp
  have b2:Below (w1.alloc (bh (gS Sg.gB) 235)).heap.size (w1.alloc (bh (gS Sg.gB) 235)) ((w1.alloc (bh (gS Sg.gB) 235)).alloc (bh #[aa az 1,aa az (-1),aa az 0,aa az 0,ai (bj ⟨rb+1,0,bu⟩),ai (bj ⟨w1.heap.size,0,bu⟩),aa az 0,aa az 0,aa az 0,aa az 0,aa az 0,aa az 0] 74)):=(aQ _ _).alloc (aL _) _;have b3:=bx.2.trans (b2.mono bB);have N:=heap_alloc_new (w1.alloc (bh (gS Sg.gB) 235)) (bh #[aa az 1,aa az (-1),aa az 0,aa az 0,ai (bj ⟨rb+1,0,bu⟩),ai (bj ⟨w1.heap.size,0,bu⟩),aa az 0,aa az 0,aa az 0,aa az 0,aa az 0,aa az 0] 74);rw[bz]at N;have bb0:Below w.heap.size w w1:=by rw[HR.v];exact S1.2.2
  exact⟨by unfold PB;rw[Uh];exact N,S1.1.same (b3.block _ S1.1.lt),S1.2.1.below b3,bx.1.below b2 bB,bb0.trans (b3.mono bb0.size),by rw[HR.v];omega,bB⟩)
 generalize (w1.alloc (bh (gS Sg.gB) 235)).alloc (bh #[aa az 1,aa az (-1),aa az 0,aa az 0,ai (bj ⟨rb+1,0,bu⟩),ai (bj ⟨w1.heap.size,0,bu⟩),aa az 0,aa az 0,aa az 0,aa az 0,aa az 0,aa az 0] 74)=W2 at F0|-;obtain⟨mb,hmb⟩:=hU (rb+1);obtain⟨c,hcc⟩:=hU (w1.heap.size+1);obtain⟨bb,hbb⟩:=hU (w1.heap.size);rw[hmb,hcc,hbb]at F0|-;go_wp2_with fail
 go_loopw [4,13] (λ_ i wr=>∃(j:Nat),i=aa az j/\j<=6/\Hid (FO w r rb c mb bb j wr)) (λ_ i _=>6-(intOf i).toNat)
 case atStart=>exact⟨0,rfl,bB,F0⟩
 case round=>
  obtain⟨j,rfl,hj6,S⟩:=hrel;by_cases hlt:j<6
  .have hltI:(j:Int)<6:=bB
   have y1:=S.pb.cell (6+j) bB;have yf:=S.pb.frozen;generalize Kn.fw mb bb (Kn.gY j) (6+j)=pv at y1;have S1:=hJ (S.next hlt);go_wp2
   go_roundw
   case rel=>exact⟨j+1,by go_num,bB,S1⟩
   case measure=>simp[intOf];omega
  .obtain rfl:j=6:=bB
   obtain⟨B,hB⟩:=hU (dZ mb bb (Kn.gY 6));have RG:Hid (wr.rangeAt c 0 B.toList):=hJ (by rw[<-hB];exact S.pb.range);have SL:Hid ((prog.info? 74).map (·.size)=bj B.toList.length):=hJ (by rw[<-hB,aB,dM];kernel_rfl);have SZ:Hid ((prog.info? 74).map (·.size)=bj B.size):=hJ (by rw[<-hB,dM];kernel_rfl);have TH:Hid (wr.there rb 0 B.size):=hJ (by rw[<-hB,dM];exact S.rs.there);have H1:Hid (B.all (·.oneCell')=bw):=hJ (by rw[<-hB];exact qj _ _ _);have F6:Hid (PB (wr.setCells rb 0 B.toList) rb mb bb (Kn.gY 6)/\dj (wr.setCells rb 0 B.toList) mb r Mv.lR/\CX (wr.setCells rb 0 B.toList) bb Sg.gB/\Below w.heap.size w (wr.setCells rb 0 B.toList)):=hJ (by
    have fr:bG rb wr (wr.setCells rb 0 B.toList):=bG.setCells _ _ (bG.refl _ _);have q:=S.v;exact⟨by rw[<-hB];exact q.rs.put _ _ _,q.um.same (fr.block _ q.um.lt (by have:=q.ne;omega)),q.ub.same (fr.block _ q.ub.lt (by have:=q.ne;omega)),fr.below q.bl q.ge.1 q.bl.size⟩)
   have GE:=hJ (aK S.ge S.ne);go_wp2_with (first|(refine wpList_load_mid rfl 74 _ rfl c 0 rfl B.toList _ RG.v Tryz.underlying74 rfl SL.v ?_;rw[Array.toArray_toList])|(refine wpList_store_mid rfl 74 _ _ rfl rb 0 B rfl rfl TH.v SZ.v H1.v ?_))
   generalize wr.setCells rb 0 B.toList=WF at F6|-;have g0:=F6.1.cell 0 bB;have g1:=F6.1.cell 1 bB;have g2:=F6.1.cell 2 bB;have g3:=F6.1.cell 3 bB;have g4:=F6.1.cell 4 bB;have g5:=F6.1.cell 5 bB;have g6:=F6.1.cell 6 bB;have g7:=F6.1.cell 7 bB;have g8:=F6.1.cell 8 bB;have g9:=F6.1.cell 9 bB;have g10:=F6.1.cell 10 bB;have g11:=F6.1.cell 11 bB
   (try simp only[Exit.then])
   refine bodyPost_ret (v:=au #[Kn.fw mb bb (Kn.gY 6) 0,Kn.fw mb bb (Kn.gY 6) 1,Kn.fw mb bb (Kn.gY 6) 2,Kn.fw mb bb (Kn.gY 6) 3,Kn.fw mb bb (Kn.gY 6) 4,Kn.fw mb bb (Kn.gY 6) 5,Kn.fw mb bb (Kn.gY 6) 6,Kn.fw mb bb (Kn.gY 6) 7,Kn.fw mb bb (Kn.gY 6) 8,Kn.fw mb bb (Kn.gY 6) 9,Kn.fw mb bb (Kn.gY 6) 10,Kn.fw mb bb (Kn.gY 6) 11]) (by simp[results,Tryz.f91,go_sem,g0,g1,g2,g3,g4,g5,g6,g7,g8,g9,g10,g11]) rfl ?_;exact⟨mb,bb,rfl,F6.2.1,F6.2.2.1,F6.2.2.2,GE.1.2.2.1,GE.1.2.2.2,GE.2.1⟩
namespace Kn
def pJ:Mo.Tb:=⟨(0,0),[]⟩
def oz:Kp:=⟨λ_=>Pr.no,λ_=>bA,λ_=>pJ,Sp.t0,Gr.t0,Wf.m0,Mv.CV,Tr.f0,Pp.gB,Fx.gB⟩
def lP:Kp:={oz with fo:=Tr.dP Tr.g1 (0:Nat),ht:=λi=>if i=0 then bw else bA,gr:=Gr.eR Gr.t0 Gr.W0 0 1 0}
theorem QA:Mv.gw Mv.CV 20 (λ_=>Mv.lR):=by
 have t0:∀f n,Mv.lW (λ_=>Mv.lR) f n=0:=λf n=>by
  induction n with
  |zero=>rfl
  |succ n ih=>show Mv.lW _ f n+Mv.eV Mv.lR.fr f 16=0;rw[ih,Mv.uD (fr:=Mv.lR.fr) f 16 (λ_ _=>rfl)]
 exact⟨Bd.xz.1,Bd.xz.2,bB,λ_ _ _ _=>by show 0<=64;omega,λf _=>by show 0=_;rw[t0],λf _=>⟨λc=>aZ (show bA=bw from c) bE,λc=>aZ (show(0:Nat)>=1 from c) bE⟩,λf _ c=>aZ (show bA=bw from c) bE⟩
theorem C5(k m:Nat):∀j,Fx.cK Fx.gB k m j=0:=λj=>by
 have:=Fx.sY Fx.gB k m j
 induction j with
 |zero=>rfl
 |succ j ih=>
  have q:=ih (Fx.sY Fx.gB k m j);show Fx.cK Fx.gB k m j+Fx.hit (Fx.gB j) k m=0;rw[q];rfl
theorem P9:Mo.HI Tr.g1 (λ_=>0):=⟨λn _=>by
 show(if n=0 then _ else Nd.no:Nd).held=0;split<;>rfl,λn _ h=>bB⟩
theorem IC:Mo.HI (Tr.dP Tr.g1 (0:Nat)) (λn=>0+Mo.gT (0:Nat) n):=P9.dP (by rfl)
theorem U8(m:Nat):jO lP m=Mo.gT (0:Nat) m:=by
 show(((((0+Mo.tc pJ m)+0)+0)+0)+0)+0=_;unfold Mo.tc;rw[show pJ.ms=[]from rfl,Mo.uS,show pJ.rt.2=((0:Nat):Int)from rfl];omega
theorem VG:KJ (λ_=>False) 1 lP:=by
 refine⟨⟨_,Sp.xz⟩,⟨Gr.W0,qw Gr.zt 0 1 0 bB bB⟩,QA,?_,λn _=>aC _,(show Tr.Ok (Tr.dP Tr.g1 ((0:Nat):Int))from Tr.U1.dP _),λs hs h=>?_,λn _=>aC _,λn _ h=>?_,λn _ _ h=>?_,λn _=>?_,λs hs=>?_,λn _ _=>rfl⟩
 .refine⟨λn _ _=>rfl,λn _ h=>aZ rfl h,λn _ h=>aZ rfl h,λn _ h=>aZ rfl h,λn _=>aC _,λm hm=>?_,λm hm kz=>?_,λm _=>(C5 2 m 24).symm,λm _=>(C5 3 m 24).symm⟩
  .rw[U8];show((Tr.dP Tr.g1 (0:Nat)).nd m).held=Fx.cK Fx.gB 1 m 24+_;rw[IC.hd m hm,C5]
  .by_cases c:((Tr.dP Tr.g1 (0:Nat)).nd m).held=0
   .exact c
   .exact aZ kz (IC.lv m hm (by rw[<-IC.hd m hm];omega))
 .exact⟨⟨⟨0,rfl,bB⟩,λm hm=>by cases hm⟩,by show([]:List Mt).length<=6;exact aC _⟩
 .cases h
 .cases h
 .exact⟨λh=>aZ rfl h,λh=>aZ rfl h⟩
 .show(if s=0 then bw else bA)=decide (s=0);by_cases e:s=0
  .rw[aJ e];simp[e]
  .rw[aI e];simp[e]
def kN(m:Wf.M):Kp:=iP lP 0 (gY 6) 0 m
theorem UR:Sp.qZ (Sp.fM Sp.t0 ((0:Nat):Int) ((0:Nat):Int)):=by
 refine⟨λs hs h=>?_,by decide⟩;rw[(Sp.lM (t:=Sp.t0) (z:=0) (x:=0) bB rfl bB rfl).1]at h;have e:s=0:=by
  by_cases c:s=0
  .exact c
  .have:decide (s=0)=bw:=h;simp[c]at this
 subst e;exact⟨0,bB,by decide,by decide⟩
theorem Wb(m:Wf.M):KH 1 (λ_=>1) (kN m):=by
 have h:=VG;have e:∀j,j≠0->(kN m).p j=Pr.no:=λj q=>bP lP 0 j (gY 6) q;have e2:(kN m).p 0=gY 6:=bM lP 0 (gY 6);have esp:(kN m).sp=Sp.fM Sp.t0 ((0:Nat):Int) ((0:Nat):Int):=rfl;have kj:KJ (λ_=>False) 1 (kN m):=by
  have iv:Sp.Inv (kN m).sp (λ_=>1):=by rw[esp];exact Sp.xz.enter _ _
  refine⟨⟨_,iv⟩,h.gr,?_,h.wx,h.rf,h.ok,h.tb,λj hj=>?_,λj hj=>?_,λj hj _=>?_,λj hj=>?_,λs hs=>?_,λj hj=>?_⟩
  .have:(λj=>((kN m).p j).mem)=λ_=>Mv.lR:=funext λj=>by
    by_cases q:j=0
    .rw[q,e2];rfl
    .rw[e j q];rfl
   rw[this];exact QA
  .by_cases q:j=0
   .rw[q,e2];show 1<=2;omega
   .rw[e j q];exact aC _
  .by_cases q:j=0
   .rw[q,e2];intro _;rfl
   .rw[e j q];intro c;cases c
  .by_cases q:j=0
   .rw[q,e2];intro _;rfl
   .rw[e j q];intro c;cases c
  .rw[esp,Sp.qA (t:=Sp.t0) (z:=0) (x:=0) bB rfl bB rfl];by_cases q:j=0
   .rw[q,e2,aJ rfl];exact⟨λ_=>by show 1≠0;omega,λ_=>bB⟩
   .rw[e j q,aI q];exact⟨λc=>aZ rfl c,λc=>aZ rfl c⟩
  .rw[esp,(Sp.lM (t:=Sp.t0) (z:=0) (x:=0) bB rfl bB rfl).1];exact h.ht s hs
  .by_cases q:j=0
   .rw[q,e2];intro c;cases c
   .rw[e j q];intro _;rfl
 have vi:VI (λ_=>False) 1 (λ_=>1) (kN m):=⟨kj,by rw[esp];exact Sp.xz.enter _ _,UR⟩;have st:∀j,j≠0->((kN m).p j).st=0:=λj q=>by rw[e j q];rfl
 refine⟨⟨vi,λj hj l hd1=>?_,λj hj q s=>aZ (st j q) s,vi.h0⟩,λj hj q s=>aZ (st j q) s,by rw[dL,e2];rfl,by rw[e2];rfl,λj z hj s=>?_⟩
 .by_cases q:j=0
  .subst q;exact aZ vi.h0 hd1
  .have:=dL.1 l;rw[st j q]at this;omega
 .by_cases q:j=0
  .rw[q,e2]at s;have:(1:Nat)=2:=s;omega
  .rw[st j q]at s;omega
end Kn
def I1(v:Nat->Value)(o:Nat):Value:=if o<240 then(if o%12=4 then ai bu else if o%12=5 then ai bu else aa .i64 0)else if o<246 then ai bu else v (o-246)
def oH(v:Nat->Value):Array Value:=((List.range 253).map (I1 v)).toArray
theorem Bs(v:Nat->Value):(oH v).size=253:=by simp[oH]
theorem GW(v:Nat->Value)(o:Nat)(h:o<253):(oH v)[o]? =bj (I1 v o):=by simp[oH,h]
def lg(a:Nat):Value:=ai (bj ⟨a,0,bu⟩)
def rQ(a b c d e f:Nat)(i:Nat):Value:=if i=0 then lg a else if i=1 then lg b else if i=2 then lg c else if i=3 then lg d else if i=4 then lg e else if i=5 then lg f else ai bu
theorem Bt(a b c d e f:Nat):prog.built 86 [(2,lg a),(3,lg b),(4,lg c),(5,lg d),(6,lg e),(7,lg f)]=bj (oH (rQ a b c d e f)):=by kernel_rfl
section
variable {ops:Array Oper}{rest:List Oper}{x:Oper}{a:Act}{w:bD}{Q:Exit->Act->bD->Prop}
theorem JG{y2 y3 y4 y5 y6 y7:Operand}(a2 a3 a4 a5 a6 a7:Nat)(hgd:x.guard=bu)(ho:x.op= .build 86 #[(2,y2),(3,y3),(4,y4),(5,y5),(6,y6),(7,y7)])(h2:a.eval y2=lg a2)(h3:a.eval y3=lg a3)(h4:a.eval y4=lg a4)(h5:a.eval y5=lg a5)(h6:a.eval y6=lg a6)(h7:a.eval y7=lg a7)(h:wpList prog ops Q rest (a.put x.dst (au (oH (rQ a2 a3 a4 a5 a6 a7)))) w):wpList prog ops Q (x::rest) a w:=
 wpList_build hgd 86 #[(2,y2),(3,y3),(4,y4),(5,y5),(6,y6),(7,y7)] ho (by simp[h2,h3,h4,h5,h6,h7,Bt]) (by simpa[h2,h3,h4,h5,h6,h7,Bt]using h)
end
structure NW (w:bD)(a0 a1 a2 a3 a4 a5 a6 a7:Nat)(W:bD):Prop where
 sp:Tb bw W a1 Sp.t0
 gr:Gr.bT W a2 Gr.t0
 sc:Wf.Fair W a3 Wf.m0
 bk:dN W a4 a5 Mv.CV
 fo:bS W a6 Tr.f0
 pi:dW W a7 Pp.gB
 ke:W.heap[a0]? =bj (bh (oH (rQ a1 a2 a3 a4 a6 a7)) 86 (0,0))
 bl:Below w.heap.size w W
 od:w.heap.size=a1/\a1<a2/\a2<a3/\a3<a5/\a5<a4/\a4<a6/\a6<a7/\a7<a0
theorem NW.lt{W:bD}(h:NW w a0 a1 a2 a3 a4 a5 a6 a7 W):a0<W.heap.size:=(aX.1 h.ke).1
theorem NW.cell{w:bD}{a0 a1 a2 a3 a4 a5 a6 a7:Nat}{W:bD}(h:NW w a0 a1 a2 a3 a4 a5 a6 a7 W)(o:Nat)(ho:o<253):W.cell? ⟨a0,o,bu⟩=bj (I1 (rQ a1 a2 a3 a4 a6 a7) o):=by rw[bR h.ke,GW _ o ho]
def mV(a0 a1 a2 a3 a4 a5 a6 a7 a8 i:Nat):Nat:=[a0,a1,a2,a3,a4,a5,a6,a7,a8].getD i 0
theorem NW.Wc{a8:Nat}{W:bD}(h:NW w a0 a1 a2 a3 a4 a5 a6 a7 W)(hb:Wt<=w.heap.size)(e8:W.heap.size=a8)(xa:eG W' a8 a6 a7 Fx.gB)(bl:Below W.heap.size W W'):
  bO (W'.setCell ⟨a0,252,bu⟩ (ai (bj ⟨a8,0,bu⟩))) Wt ⟨mV a0 a1 a2 a3 a4 a5 a6 a7 a8,λ_=>aj bu 0 0,Kn.oz⟩/\Below w.heap.size w (W'.setCell ⟨a0,252,bu⟩ (ai (bj ⟨a8,0,bu⟩))):=by
 have od:=h.od;have l0:=h.lt;have k1:W'.heap[a0]? =bj (bh (oH (rQ a1 a2 a3 a4 a6 a7)) 86 (0,0)):=(bl.block _ l0).trans h.ke;have fr:bG a0 W' (W'.setCell ⟨a0,252,bu⟩ (ai (bj ⟨a8,0,bu⟩))):=(bG.refl _ _).setCell _ _;have ls:=bl.size;have bk:∀b,b<a0->(W'.setCell ⟨a0,252,bu⟩ (ai (bj ⟨a8,0,bu⟩))).heap[b]? =W.heap[b]? :=λb hb=>(fr.block b bB bB).trans (bl.block b bB);have us9':∀i,us ⟨mV a0 a1 a2 a3 a4 a5 a6 a7 a8,λ_=>aj bu 0 0,Kn.oz⟩ i->i<9:=λi hi=>by
  rcases hi with hi|⟨_,_,q⟩|⟨_,_,q⟩|⟨_,_,q⟩|⟨_,_,q,_⟩
  .exact hi
  .cases q
  .cases q
  .cases q
  .cases q
 have nd:∀i,i<9->∀j,j<9->mV a0 a1 a2 a3 a4 a5 a6 a7 a8 i=mV a0 a1 a2 a3 a4 a5 a6 a7 a8 j->i=j:=by
  have n:[a0,a1,a2,a3,a4,a5,a6,a7,a8].Nodup:=by
   simp only[List.nodup_cons,List.mem_cons,List.not_mem_nil,or_false,not_or,List.nodup_nil,not_false_eq_true,and_true];omega
  intro i hi j hj e;unfold mV at e;rw[aF,aF,aW (by simpa using hi),aW (by simpa using hj),Option.getD_some,Option.getD_some]at e;rcases Nat.lt_trichotomy i j with q|q|q
  .exact aZ e (List.pairwise_iff_getElem.1 n i j _ _ q)
  .exact q
  .exact aZ e.symm (List.pairwise_iff_getElem.1 n j i _ _ q)
 refine⟨⟨⟨_,cQ k1 252 _,by simp[Bs]⟩,λo ho=>?_,h.sp.same (bk a1 bB),(bk a2 bB).trans h.gr,h.sc.same (bk a3 bB),h.bk.same (bk a4 bB) (bk a5 bB),xa.same (fr.block a8 xa.lt bB),h.fo.same (bk a6 bB),h.pi.same (bk a7 bB),λn _ q=>(by cases q),λn _ q=>(by cases q),λn _ q=>(by cases q),λn _ q=>(by cases q),λi j hi hj e=>nd i (us9' i hi) j (us9' j hj) e,λi hi=>?_⟩,fr.below (h.bl.trans (bl.mono h.bl.size)) bB (by have:=h.bl.size;omega)⟩
 .show(W'.setCell ⟨a0,252,bu⟩ _).cell? ⟨a0,o,bu⟩=_;by_cases q:o=252
  .subst q;rw[dF k1 _ _ (by rw[Bs];omega)];unfold Kn.kc;rw[nJ,nJ,nJ,show 252-244=8 by omega];rfl
  .rw[dm k1 _ _ _ (bQ q),bR k1,GW _ o ho];congr 1;unfold I1 Kn.kc;by_cases c:o<240
   .rw[aJ c,aJ c];unfold Kn.pc;have m:o%12<12:=Nat.mod_lt _ bB;generalize o%12=j at m
    match j,m with
    |0,_=>rfl
    |1,_=>rfl
    |2,_=>rfl
    |3,_=>rfl
    |4,_=>rfl
    |5,_=>rfl
    |j+6,_=>
     rw[nJ,nJ];unfold Kn.fw;rw[nJ,nJ,nJ,nJ,nJ,nJ];rfl
   .rw[aI c,aI c];by_cases c2:o<246
    .rw[aJ c2,aJ c2];rfl
    .rw[aI c2,aI c2];have q2:o=246\/o=247\/o=248\/o=249\/o=250\/o=251:=bB
     rcases q2 with rfl|rfl|rfl|rfl|rfl|rfl<;>rfl
 .have i9:=us9' i hi;have q:i=0\/i=1\/i=2\/i=3\/i=4\/i=5\/i=6\/i=7\/i=8:=bB
  rcases q with rfl|rfl|rfl|rfl|rfl|rfl|rfl|rfl|rfl
  .show Wt<=a0;omega
  .show Wt<=a1;omega
  .show Wt<=a2;omega
  .show Wt<=a3;omega
  .show Wt<=a4;omega
  .show Wt<=a5;omega
  .show Wt<=a6;omega
  .show Wt<=a7;omega
  .show Wt<=a8;omega

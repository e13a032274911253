import Derived.Test.YtpmmdkcfenjiaaaGreatDoorVbc
set_option linter.unusedVariables false
set_option linter.unusedSimpArgs false
set_option maxRecDepth 100000
set_option maxHeartbeats 2000000
namespace Go.Proofs.YtpmmdkcfenjiaaaGreatDoor
open Go.RowKit
open Tr (Fo Nd)
open Mo (Wh Mt)
open Mv (Me Bk)
open Kn (Pr Kp St us KB KJ VI EI)
namespace Kn
def YQ (k:Kp)(n y q:Nat):Prop:=k.sp.of n=y+1/\(n≠0->(k.p n).par=(q:Int))
def ca (k:Kp)(n:Nat)(X:Nat->Sg.S1):Kp:=k.put n {k.p n with box:=X}
theorem KI.has {N:Nat}{d:Nat->Nat}{k:Kp}(h:KI N d k){n:Nat}(hn:n<20)(l:lv k n=true):(k.p n).has=true:=h.vi.kj.lv n hn (fun x=>x) (by unfold lv at l;simpa using l)
theorem KI.li {N:Nat}{d:Nat->Nat}{k:Kp}(h:KI N d k){n:Nat}(hn:n<20)(l:lv k n=true)(X:Nat->Sg.S1): ∃z q,LI N d (ca k n X) n z q:=by
 have s1:(k.p n).st=1:=by unfold lv at l;simpa using l
 have o:=(h.vi.kj.of n hn).2 (by omega);have e:(ca k n X).p n={k.p n with box:=X}:=ai _ _ _;have vi:VI (fun _=>False) N d (ca k n X):=⟨h.vi.kj.AR rfl rfl rfl,h.vi.iv,h.vi.hs⟩;have fi: ∀m,m<20->m≠n->lv (ca k n X) m=true->hd (ca k n X) m≠m->Sg.dO ((ca k n X).p m).box 0 0:=fun m hm mn lm hm2=>by
  have e2:(ca k n X).p m=k.p m:=ao _ _ _ _ mn;rw[e2];refine h.fi m hm ?_ hm2;unfold lv at lm|-;rw[e2]at lm;exact lm
 have cW:lv (ca k n X) n=true:=by unfold lv;rw[e];exact l
 by_cases n0:n=0
 ·exact⟨k.sp.of n-1,0,vi,fi,hn,cW,(by show k.sp.of n=_;omega),fun c=>aZ n0 c⟩
 ·obtain⟨q,gx,qn,hp⟩:=h.pr n hn n0 (by omega);exact⟨k.sp.of n-1,q,vi,fi,hn,cW,(by show k.sp.of n=_;omega),fun _=>⟨gx,qn,by rw[e];exact hp⟩⟩
theorem LI.yq {N:Nat}{d:Nat->Nat}{k:Kp}{n y q:Nat}{X:Nat->Sg.S1}(h:LI N d (ca k n X) n y q):YQ k n y q:=⟨h.ho,fun n0=>by have:=(h.pr n0).2.2;unfold ca at this;rw[ai]at this;exact this⟩
end Kn
section
variable (base N : Nat) (d : Nat -> Nat) (s : St) (w : bD)
def Kn.tM (k:Kp)(z c:Int)(on:Bool)(E:Int)(k':Kp):Prop:=(Kn.bc k z≠0/\E=Kn.bc k z/\k'=k)\/(Kn.bc k z=0/\ ∃n:Nat,z=n/\n<20/\E=Sg.jq c/\((Sg.jq c≠0/\k'=Kn.ca k n (Sg.lr (k.p n).box c on))\/(Sg.jq c=0/\ ∃y q,Kn.YQ k n y q/\Kn.mQ (Kn.ca k n (Sg.lr (k.p n).box c on)) n y q k')))
theorem Em (hN:N<=900)(z c:Int)(on:Bool)(h:ak w base s)(hi:Kn.KI N d s.k):
  Calls Tryz.prog 42 #[.pointer (some ⟨s.A 0,0,none⟩), .int .i64 z, .int .i64 c, .bool on] w fun e w'=> ∃(E:Int) (k':Kp),e= .returned (aq E)/\Kn.tM s.k z c on E k'/\ak w' base {s with k:=k'}/\KF s w {s with k:=k'} w':=by
 have AC:=hZ (dg base s w z h);have H:=hZ (aK h (aK hi hN));by_cases a:Kn.bc s.k z=0
 ·obtain⟨n,rfl,hn,hlv⟩:=Kn.fv a;have hh:=hi.has hn hlv;have c5:=h.qS n hn hh;have TK:=hZ (D6 (s.A (29+n)) c on (s.k.p n).box w (h.bx n hn hh));have HA:=hZ (aK a (aK hh hlv));rw[a,aa,gN]at AC;obtain⟨kb,hkb⟩:=nJ (s.A 0);have HK:=hZ hkb;obtain⟨bb,hbb⟩:=nJ (s.A (29+n));have HB:=hZ hbb;rw[hkb]at AC c5|-;rw[hbb]at c5 TK;clear h hi hlv a hh hkb hbb hN;go_in
  go_wp2_with fail
  refine AC.out.mono ?_;rintro e w1 ⟨rfl,hw⟩;subst w1;go_wp2_with fail
  refine TK.out.mono ?_;rintro e w1 ⟨rfl,u1,f1⟩;have S1:Hid (ak w1 base {s with k:=Kn.ca s.k n (Sg.lr (s.k.p n).box c on)}/\KF s w {s with k:=Kn.ca s.k n (Sg.lr (s.k.p n).box c on)} w1):=hZ (by
   rw[<-HB.out]at u1 f1;exact H.out.1.tE hn HA.out.2.1 u1 f1)
  clear u1 f1 c5;by_cases j0:Sg.jq c=0
  ·have J0:=hZ j0;rw[j0,aa];obtain⟨y,q,li⟩:=H.out.2.1.li hn HA.out.2.2 (Sg.lr (s.k.p n).box c on);have LB:=hZ (ru base N d {s with k:=Kn.ca s.k n (Sg.lr (s.k.p n).box c on)} w1 H.out.2.2 n y q (fun _=>H.out.2.1.h0) S1.out.1 li);rw[show({s with k:=Kn.ca s.k n (Sg.lr (s.k.p n).box c on)}:St).A 0=kb from HK.out]at LB;have YY:=hZ li.yq;clear j0 li;go_wp2_with fail
   refine LB.out.mono ?_;rintro e w2 ⟨k',rfl,et,ka,kf⟩;have S2:Hid (Kn.tM s.k (n:Int) c on 0 k'/\ak w2 base {s with k:=k'}/\KF s w {s with k:=k'} w2):=hZ ⟨.inr ⟨HA.out.1,n,rfl,hn,J0.out.symm, .inr ⟨J0.out,y,q,YY.out,et⟩⟩,ka,S1.out.2.trans kf⟩;clear et ka kf;go_wp2
   go_ret
   exact⟨0,k',by rw[aa];rfl,S2.out⟩
  ·have J0:=hZ j0;have HE:=hZ (aj j0);rw[aj j0];clear j0;go_wp2
   go_ret
   exact⟨Sg.jq c,_,by rw[HE.out];rfl, .inr ⟨HA.out.1,n,rfl,hn,rfl, .inl ⟨J0.out,rfl⟩⟩,S1.out⟩
 ·have FIN:Hid (Kn.tM s.k z c on (Kn.bc s.k z) s.k):=hZ (.inl ⟨a,rfl,rfl⟩);have HE:=hZ (aj a);rw[aj a]at AC;clear h hi a hN;generalize fP (s.A 0) z (Kn.bc s.k z)=ap at*;generalize s.A 0=kb at*;go_in
  go_wp2_with fail
  refine AC.out.mono ?_;rintro e w1 ⟨rfl,hw⟩;subst w1;go_wp2
  go_ret
  exact⟨Kn.bc s.k z,s.k,by rw[HE.out];rfl,FIN.out,H.out.1,KF.refl _ _⟩
def Kn.wg (k:Kp)(z c:Int)(lN:Int)(E:Int)(k':Kp):Prop:=(Kn.bc k z≠0/\E=Kn.bc k z/\k'=k)\/(Kn.bc k z=0/\ ∃n:Nat,z=n/\n<20/\E=Sg.iw c lN/\((Sg.iw c lN≠0/\k'=Kn.ca k n (Sg.kH (k.p n).box c lN))\/(Sg.iw c lN=0/\ ∃y q,Kn.YQ k n y q/\Kn.mQ (Kn.ca k n (Sg.kH (k.p n).box c lN)) n y q k')))
theorem Gu (hN:N<=900)(z c:Int)(lN:Int)(h:ak w base s)(hi:Kn.KI N d s.k):
  Calls Tryz.prog 43 #[.pointer (some ⟨s.A 0,0,none⟩), .int .i64 z, .int .i64 c, .int .i64 lN] w fun e w'=> ∃(E:Int) (k':Kp),e= .returned (aq E)/\Kn.wg s.k z c lN E k'/\ak w' base {s with k:=k'}/\KF s w {s with k:=k'} w':=by
 have AC:=hZ (dg base s w z h);have H:=hZ (aK h (aK hi hN));by_cases a:Kn.bc s.k z=0
 ·obtain⟨n,rfl,hn,hlv⟩:=Kn.fv a;have hh:=hi.has hn hlv;have c5:=h.qS n hn hh;have TK:=hZ (NA (s.A (29+n)) c lN (s.k.p n).box w (h.bx n hn hh));have HA:=hZ (aK a (aK hh hlv));rw[a,aa,gN]at AC;obtain⟨kb,hkb⟩:=nJ (s.A 0);have HK:=hZ hkb;obtain⟨bb,hbb⟩:=nJ (s.A (29+n));have HB:=hZ hbb;rw[hkb]at AC c5|-;rw[hbb]at c5 TK;clear h hi hlv a hh hkb hbb hN;go_in
  go_wp2_with fail
  refine AC.out.mono ?_;rintro e w1 ⟨rfl,hw⟩;subst w1;go_wp2_with fail
  refine TK.out.mono ?_;rintro e w1 ⟨rfl,u1,f1⟩;have S1:Hid (ak w1 base {s with k:=Kn.ca s.k n (Sg.kH (s.k.p n).box c lN)}/\KF s w {s with k:=Kn.ca s.k n (Sg.kH (s.k.p n).box c lN)} w1):=hZ (by
   rw[<-HB.out]at u1 f1;exact H.out.1.tE hn HA.out.2.1 u1 f1)
  clear u1 f1 c5;by_cases j0:Sg.iw c lN=0
  ·have J0:=hZ j0;rw[j0,aa];obtain⟨y,q,li⟩:=H.out.2.1.li hn HA.out.2.2 (Sg.kH (s.k.p n).box c lN);have LB:=hZ (ru base N d {s with k:=Kn.ca s.k n (Sg.kH (s.k.p n).box c lN)} w1 H.out.2.2 n y q (fun _=>H.out.2.1.h0) S1.out.1 li);rw[show({s with k:=Kn.ca s.k n (Sg.kH (s.k.p n).box c lN)}:St).A 0=kb from HK.out]at LB;have YY:=hZ li.yq;clear j0 li;go_wp2_with fail
   refine LB.out.mono ?_;rintro e w2 ⟨k',rfl,et,ka,kf⟩;have S2:Hid (Kn.wg s.k (n:Int) c lN 0 k'/\ak w2 base {s with k:=k'}/\KF s w {s with k:=k'} w2):=hZ ⟨.inr ⟨HA.out.1,n,rfl,hn,J0.out.symm, .inr ⟨J0.out,y,q,YY.out,et⟩⟩,ka,S1.out.2.trans kf⟩;clear et ka kf;go_wp2
   go_ret
   exact⟨0,k',by rw[aa];rfl,S2.out⟩
  ·have J0:=hZ j0;have HE:=hZ (aj j0);rw[aj j0];clear j0;go_wp2
   go_ret
   exact⟨Sg.iw c lN,_,by rw[HE.out];rfl, .inr ⟨HA.out.1,n,rfl,hn,rfl, .inl ⟨J0.out,rfl⟩⟩,S1.out⟩
 ·have FIN:Hid (Kn.wg s.k z c lN (Kn.bc s.k z) s.k):=hZ (.inl ⟨a,rfl,rfl⟩);have HE:=hZ (aj a);rw[aj a]at AC;clear h hi a hN;generalize fP (s.A 0) z (Kn.bc s.k z)=ap at*;generalize s.A 0=kb at*;go_in
  go_wp2_with fail
  refine AC.out.mono ?_;rintro e w1 ⟨rfl,hw⟩;subst w1;go_wp2
  go_ret
  exact⟨Kn.bc s.k z,s.k,by rw[HE.out];rfl,FIN.out,H.out.1,KF.refl _ _⟩
end
namespace Kn
theorem ye {k:Kp}{z p:Int}(h:dP k z p=0):lv k (fB k z p)=true:=by
 unfold fB;rw[aJ h];unfold dP at h;by_cases a:bc k z=0
 ·rw[aJ a]at h;by_cases f:Sp.fN k.sp (Sp.cQ k.sp z:Nat) p=0
  ·rw[aJ f]at h;cases l:lv k (Sp.dZ k.sp (Sp.cQ k.sp z:Nat) p)
   ·rw[l]at h;revert h;decide
   ·rfl
  ·rw[aI f]at h;exact aZ h f
 ·rw[aI a]at h;exact aZ h a
theorem tB {k:Kp}(hw: ∀z p,z<6->p<21->k.sp.ay z p<=20)(z p:Int):fB k z p<20:=by
 unfold fB;by_cases c:dP k z p=0
 ·rw[aJ c];exact j9 hw _ _
 ·rw[aI c];omega
def nQ (k:Kp)(z p c:Int):Int:=if dP k z p=0 then(if c<1\/8<c then 1 else if p=1 then 8 else 0)else dP k z p
def ph (k:Kp)(z p c:Int)(k':Kp):Prop:=(nQ k z p c≠0/\k'=k)\/(nQ k z p c=0/\ ∃y q,YQ k (fB k z p) y q/\tH (ca k (fB k z p) (Sg.kM (k.p (fB k z p)).box c)) (fB k z p) y q k')
end Kn
section
variable (base N : Nat) (d : Nat -> Nat) (s : St) (w : bD)
theorem Be (hN:N<=900)(z p c:Int)(h:ak w base s)(hi:Kn.KI N d s.k)(h1:Kn.dP s.k z p=0->p≠1->Kn.fB s.k z p≠0):
  Calls Tryz.prog 41 #[.pointer (some ⟨s.A 0,0,none⟩), .int .i64 z, .int .i64 p, .int .i64 c] w fun e w'=> ∃k',e= .returned (aq (Kn.nQ s.k z p c))/\Kn.ph s.k z p c k'/\ak w' base {s with k:=k'}/\KF s w {s with k:=k'} w':=by
 have hw: ∀z p,z<6->p<21->s.k.sp.ay z p<=20:=hi.vi.iv.nS;have SE:=hZ (zL base s w z p h hw);have H:=hZ (aK h (aK hi hN));by_cases a:Kn.dP s.k z p=0
 ·have hn:=Kn.tB hw z p;have hlv:=Kn.ye a;have n0:=h1 a;rw[a,aa]at SE;obtain⟨n,hsn⟩:=nJ (Kn.fB s.k z p);have HSN:=hZ hsn;rw[hsn]at SE hn hlv n0;have hnI:(n:Int)<20:=by omega
  by_cases b:c<1\/8<c
  ·have E:Kn.nQ s.k z p c=1:=by unfold Kn.nQ;rw[aJ a,aJ b]
   have FIN:Hid (Kn.ph s.k z p c s.k):=hZ (.inl ⟨by rw[E];decide,rfl⟩);rw[E];clear h hi a E n0 h1 hw hlv hsn;generalize s.A 0=kb at*;by_cases b1:c<1
   ·clear b;go_in
    go_wp2_with fail
    refine SE.out.mono ?_;rintro e w1 ⟨rfl,hb⟩;have S1:Hid (ak w1 base s/\KF s w s w1):=hZ ⟨H.out.1.below hb,KF.below hb⟩;clear hb;go_wp2
    go_ret
    exact⟨s.k,rfl,FIN.out,S1.out⟩
   ·have b2:8<c:=by omega
    clear b;go_in
    go_wp2_with fail
    refine SE.out.mono ?_;rintro e w1 ⟨rfl,hb⟩;have S1:Hid (ak w1 base s/\KF s w s w1):=hZ ⟨H.out.1.below hb,KF.below hb⟩;clear hb;go_wp2
    go_ret
    exact⟨s.k,rfl,FIN.out,S1.out⟩
  ·have b1: ¬c<1:=by omega
   have b2: ¬8<c:=by omega
   by_cases p1:p=1
   ·subst p1;have E:Kn.nQ s.k z 1 c=8:=by unfold Kn.nQ;rw[aJ a,aI b,aJ rfl]
    have FIN:Hid (Kn.ph s.k z 1 c s.k):=hZ (.inl ⟨by rw[E];decide,rfl⟩);rw[E];clear h hi a E b n0 h1 hw hlv hsn;generalize s.A 0=kb at*;go_in
    go_wp2_with fail
    refine SE.out.mono ?_;rintro e w1 ⟨rfl,hb⟩;have S1:Hid (ak w1 base s/\KF s w s w1):=hZ ⟨H.out.1.below hb,KF.below hb⟩;clear hb;go_wp2
    go_ret
    exact⟨s.k,rfl,FIN.out,S1.out⟩
   ·have E:Kn.nQ s.k z p c=0:=by unfold Kn.nQ;rw[aJ a,aI b,aI p1]
    obtain⟨y,q,li⟩:=hi.li hn hlv (Sg.kM (s.k.p n).box c);have FIN:Hid (∀k',Kn.tH (Kn.ca s.k n (Sg.kM (s.k.p n).box c)) n y q k'->Kn.ph s.k z p c k'):=hZ (fun k' e=> .inr ⟨E,y,q,by rw[HSN.out];exact⟨li.yq,e⟩⟩);have HH:=hZ (aK (hi.has hn hlv) (aK (n0 p1) li));rw[E,aa];have pI:(p==1)=false:=by simpa using p1
    obtain⟨kb,hkb⟩:=nJ (s.A 0);have HK:=hZ hkb;obtain⟨bb,hbb⟩:=nJ (s.A (29+n));have HB:=hZ hbb;rw[hkb]at SE|-;clear h hi a E b n0 h1 hw hlv hsn hkb hbb li hN;go_in
    go_wp2_with fail
    refine SE.out.mono ?_;rintro e w1 ⟨rfl,hb⟩;have S1:Hid (ak w1 base s/\KF s w s w1):=hZ ⟨H.out.1.below hb,KF.below hb⟩;clear hb;have c5:=S1.out.1.qS n hn HH.out.1;have SD:=hZ (uF (s.A (29+n)) c (s.k.p n).box w1 (S1.out.1.bx n hn HH.out.1));rw[HK.out,HB.out]at c5;rw[HB.out]at SD;go_wp2_with fail
    refine SD.out.mono ?_;rintro e w2 ⟨rfl,u2,f2⟩;generalize aq (Sg.bj c)=ev;have S2:Hid (ak w2 base {s with k:=Kn.ca s.k n (Sg.kM (s.k.p n).box c)}/\KF s w {s with k:=Kn.ca s.k n (Sg.kM (s.k.p n).box c)} w2):=hZ (by
     rw[<-HB.out]at u2 f2;have q:=S1.out.1.tE hn HH.out.1 u2 f2;exact⟨q.1,S1.out.2.trans q.2⟩)
    clear u2 f2 c5;have LK:=hZ (yv base N d {s with k:=Kn.ca s.k n (Sg.kM (s.k.p n).box c)} w2 H.out.2.2 n y q HH.out.2.1 S2.out.1 HH.out.2.2);rw[show({s with k:=Kn.ca s.k n (Sg.kM (s.k.p n).box c)}:St).A 0=kb from HK.out]at LK;go_wp2_with fail
    refine LK.out.mono ?_;rintro e w3 ⟨k',rfl,et,ka,kf⟩;have S3:Hid (Kn.ph s.k z p c k'/\ak w3 base {s with k:=k'}/\KF s w {s with k:=k'} w3):=hZ ⟨FIN.out k' et,ka,S2.out.2.trans kf⟩;clear et ka kf;go_wp2
    go_ret
    exact⟨k',rfl,S3.out⟩
 ·have E:Kn.nQ s.k z p c=Kn.dP s.k z p:=aI a;have FIN:Hid (Kn.ph s.k z p c s.k):=hZ (.inl ⟨by rw[E];exact a,rfl⟩);rw[aj a]at SE;rw[E,aj a];clear h hi E a h1 hw;generalize Kn.fB s.k z p=sn at*;generalize Kn.dP s.k z p=ae at*;generalize s.A 0=kb at*;go_in
  go_wp2_with fail
  refine SE.out.mono ?_;rintro e w1 ⟨rfl,hb⟩;have S1:Hid (ak w1 base s/\KF s w s w1):=hZ ⟨H.out.1.below hb,KF.below hb⟩;clear hb;go_wp2
  go_ret
  exact⟨s.k,rfl,FIN.out,S1.out⟩
end
namespace Kn
theorem VI.h0 {X:Nat->Prop}{N:Nat}{d:Nat->Nat}{k:Kp}(h:VI X N d k):hd k 0=0:=(fK h.iv h.hs (by omega) h.hs.r0.1).2 h.hs.r0.2
theorem VI.J4 {X:Nat->Prop}{N:Nat}{d:Nat->Nat}{k:Kp}(h:VI X N d k){z p:Int}(a:dP k z p=0)(p1:p≠1):fB k z p≠0:=by
 intro e;unfold fB at e;rw[aJ a]at e;unfold dP at a;by_cases c:bc k z=0
 ·rw[aJ c]at a;obtain⟨n,rfl,hn,hl⟩:=fv c;have s1:(k.p n).st=1:=by unfold lv at hl;simpa using hl
  have o:=(h.kj.of n hn).2 (by omega);obtain⟨y,hy⟩: ∃y,k.sp.of n=y+1:=⟨k.sp.of n-1,by omega⟩;obtain⟨_,y6,yh⟩:=h.iv.bH hn hy;rw[Sp.fG hn hy]at a e;by_cases f:Sp.fN k.sp (y:Nat) p=0
  ·unfold Sp.dZ at e;rw[aJ f,hU]at e;unfold Sp.fN at f;rw[Sp.gO y6 yh,aJ rfl,hU]at f;by_cases g:p<1\/20<p\/k.sp.ay y p.toNat=0
   ·rw[aJ g]at f;omega
   ·have w1:k.sp.ay y p.toNat=0+1:=by omega
    obtain⟨x,x20,xw,xo⟩:=h.hs.hd y y6 yh;by_cases x0:x=0
    ·subst x0;have:=h.iv.one y p.toNat 1 y6 (by omega) (by omega) (by rw[w1,xw]) (by omega);omega
    ·exact h.iv.zero h.hs y6 xw x0 ⟨p.toNat,by omega,w1⟩
  ·rw[aI f]at a;exact f a
 ·rw[aI c]at a;exact c a
theorem IY {X:Nat->Sg.S1}(j:Nat)(h:Sg.dO X 0 0):Sg.dO (Sg.sL X j) 0 0:=by
 rcases h with⟨_,h⟩|⟨h,_⟩
 ·refine .inl ⟨rfl,fun i h1 h2=>?_⟩;have q:=h i h1 h2;unfold Sg.sL;by_cases j0:j=0
  ·first|(rw[aJ j0];exact q)|simp_all
  ·unfold Sg.ok at*;by_cases c:i=j
   ·subst c;simp[Sg.put,j0]
   ·simpa[Sg.put,j0,c]using q
 ·omega
theorem KI.box {N:Nat}{d:Nat->Nat}{k:Kp}(h:KI N d k)(n:Nat){X:Nat->Sg.S1}(hX:n<20->lv k n=true->hd k n≠n->Sg.dO X 0 0):KI N d (ca k n X):=by
 have e: ∀m,((ca k n X).p m).st=(k.p m).st/\((ca k n X).p m).par=(k.p m).par:=fun m=>by
  by_cases c:m=n
  ·subst c;unfold ca;rw[ai];exact⟨rfl,rfl⟩
  ·unfold ca;rw[ao _ _ _ _ c];exact⟨rfl,rfl⟩
 refine⟨⟨h.vi.kj.AR rfl rfl rfl,h.vi.iv,h.vi.hs⟩,fun m hm l hd1=>?_,fun m hm m0 s0=>?_,h.h0⟩
 ·have l2:lv k m=true:=by unfold lv at l|-;rw[(e m).1]at l;exact l
  by_cases c:m=n
  ·subst c;unfold ca;rw[ai];exact hX hm l2 hd1
  ·unfold ca;rw[ao _ _ _ _ c];exact h.fi m hm l2 hd1
 ·rw[(e m).1]at s0;rw[(e m).2];exact h.pr m hm m0 s0
end Kn
namespace Kn
def gq (s:St)(y c:Nat)(v:Value)(T:Mo.Tb):St:=
 ⟨fun i=>if i=49+y then c else if i=55+y then v.ownBlock.getD 0 else s.A i,fun i=>if i=y then v else s.V i,{s.k with ht:=fun i=>if i=y then true else s.k.ht i,tb:=fun i=>if i=y then T else s.k.tb i}⟩
section
variable (s : St) (y c : Nat) (v : Value) (T : Mo.Tb)
theorem lA:(gq s y c v T).A (49+y)=c:=aJ rfl
theorem mr:(gq s y c v T).A (55+y)=v.ownBlock.getD 0:=(aI (by omega)).trans (aJ rfl)
theorem eR {i:Nat}(h1:i≠49+y)(h2:i≠55+y):(gq s y c v T).A i=s.A i:=(aI h1).trans (aI h2)
theorem oI:(gq s y c v T).V y=v/\(gq s y c v T).k.ht y=true/\(gq s y c v T).k.tb y=T:=⟨aJ rfl,aJ rfl,aJ rfl⟩
theorem jt {i:Nat}(h:i≠y):(gq s y c v T).V i=s.V i/\(gq s y c v T).k.ht i=s.k.ht i/\(gq s y c v T).k.tb i=s.k.tb i:=⟨aI h,aI h,aI h⟩
end
theorem tq {s:St}{y c:Nat}{v:Value}{T:Mo.Tb}{i:Nat}(hi:us (gq s y c v T) i):i=49+y\/(i=55+y/\v.ownBlock≠none)\/(us s i/\i≠49+y/\i≠55+y):=by
 by_cases c1:i=49+y
 ·exact .inl c1
 ·by_cases c2:i=55+y
  ·refine .inr (.inl ⟨c2,?_⟩);subst c2;rcases hi with hi|⟨h1,h2,h3⟩|⟨h1,h2,h3⟩|⟨h1,h2,h3⟩|⟨h1,h2,h3,h4⟩
   ·omega
   ·omega
   ·omega
   ·omega
   ·rw[show 55+y-55=y by omega,(oI s y c v T).1]at h4;exact h4
  ·refine .inr (.inr ⟨?_,c1,c2⟩);rcases hi with hi|⟨h1,h2,h3⟩|⟨h1,h2,h3⟩|⟨h1,h2,h3⟩|⟨h1,h2,h3,h4⟩
   ·exact .inl hi
   ·exact .inr (.inl ⟨h1,h2,h3⟩)
   ·exact .inr (.inr (.inl ⟨h1,h2,h3⟩))
   ·rw[(jt s y c v T (by omega)).2.1]at h3;exact .inr (.inr (.inr (.inl ⟨h1,h2,h3⟩)))
   ·rw[(jt s y c v T (by omega)).2.1]at h3;rw[(jt s y c v T (by omega)).1]at h4;exact .inr (.inr (.inr (.inr ⟨h1,h2,h3,h4⟩)))
theorem M4 (s:St)(y c:Nat)(v:Value)(T:Mo.Tb)(hy:y<6)(o:Nat)(ho:o<253):kc (gq s y c v T) o=if o=240+y then .pointer (some ⟨c,0,none⟩)else kc s o:=by
 unfold kc;by_cases e:o<240
 ·rw[aJ e,aJ e,aI (by omega)];unfold pc;rw[eR _ _ _ _ _ (by omega) (by omega),eR _ _ _ _ _ (by omega) (by omega)];rfl
 ·rw[aI e,aI e];by_cases c2:o<246
  ·rw[aJ c2,aJ c2];by_cases c3:o=240+y
   ·rw[aJ c3,show o-240=y by omega,lA,(oI s y c v T).2.1];rfl
   ·rw[aI c3,eR _ _ _ _ _ (by omega) (by omega),(jt s y c v T (by omega)).2.1]
  ·have c4: ¬o=240+y:=by omega
   rw[aI c2,aI c2,aI c4];by_cases c3:o<250
   ·rw[aJ c3,aJ c3,eR _ _ _ _ _ (by omega) (by omega)]
   ·rw[aI c3,aI c3,eR _ _ _ _ _ (by omega) (by omega)]
end Kn
section
variable {w w' : bD} {base : Nat} {s : St}
theorem ak.Lx (h:ak w base s){y c:Nat}(hy:y<6){v:Value}{T:Mo.Tb}(t:bd w base c (s.A 6) T v)(ac: ∀i,us s i->s.A i≠c)(ag: ∀g,v.ownBlock=some g-> ∀i,us s i->s.A i≠g)(lc:base<=c):
  ak (w.setCell ⟨s.A 0,240+y,none⟩ (.pointer (some ⟨c,0,none⟩))) base (Kn.gq s y c v T)/\af (s.A 0) w (w.setCell ⟨s.A 0,240+y,none⟩ (.pointer (some ⟨c,0,none⟩))):=by
 obtain⟨C,e,sz⟩:=h.kT;have f:af (s.A 0) w (w.setCell ⟨s.A 0,240+y,none⟩ (.pointer (some ⟨c,0,none⟩))):=(af.refl _ _).setCell _ _;have o:=h.others (az (by omega)) f;have A9: ∀i,i<49->(Kn.gq s y c v T).A i=s.A i:=fun i hi=>Kn.eR _ _ _ _ _ (by omega) (by omega);have t':bd (w.setCell ⟨s.A 0,240+y,none⟩ (.pointer (some ⟨c,0,none⟩))) base c (s.A 6) T v:=t.same (f.block _ t.lt (ac 0 (az (by omega))).symm) (fun g eg=>f.block _ (t.row.lt g eg).2 (ag g eg 0 (az (by omega))).symm);have rg:v.ownBlock≠none-> ∃g,v.ownBlock=some g/\v.ownBlock.getD 0=g:=fun q=>by
  cases e:v.ownBlock with
  |none=>exact aZ e q
  |some g=>exact⟨g,rfl,rfl⟩
 refine⟨⟨⟨_,by rw[A9 0 (by omega)];exact bC e _ _,by simpa using sz⟩,fun i hi=>?_,by rw[A9 1 (by omega)];exact h.sp.same (o 1 (az (by omega)) (by omega)),by rw[A9 2 (by omega)];exact(o 2 (az (by omega)) (by omega)).trans h.gr,by rw[A9 3 (by omega)];exact h.sc.same (o 3 (az (by omega)) (by omega)),by rw[A9 4 (by omega),A9 5 (by omega)];exact h.bk.same (o 4 (az (by omega)) (by omega)) (o 5 (az (by omega)) (by omega)),by rw[A9 8 (by omega),A9 6 (by omega),A9 7 (by omega)];exact h.fi.same (o 8 (az (by omega)) (by omega)),by rw[A9 6 (by omega)];exact h.fo.same (o 6 (az (by omega)) (by omega)),by rw[A9 7 (by omega)];exact h.pi.same (o 7 (az (by omega)) (by omega)),
  fun j hj jh=>?_,fun j hj jh=>?_,fun j hj hh=>?_,fun j hj hh g eg=>?_,fun i j hi hj eq=>?_,fun i hi=>?_⟩,f⟩
 ·rw[A9 0 (by omega),Kn.M4 s y c v T hy i hi];by_cases q:i=240+y
  ·subst q;rw[aJ rfl,cL e _ _ (by omega)]
  ·rw[aI q,cC e _ _ _ (bQ q),h.dC i hi]
 ·rw[A9 _ (by omega),A9 4 (by omega)];exact(h.me j hj jh).same (o _ (Kn.gP hj jh) (by omega))
 ·rw[A9 _ (by omega)];exact(h.bx j hj jh).same (o _ (Kn.iQ hj jh) (by omega))
 ·by_cases q:j=y
  ·subst q;rw[Kn.lA,A9 6 (by omega),(Kn.oI s j c v T).1,(Kn.oI s j c v T).2.2];exact t'
  ·rw[(Kn.jt s y c v T q).2.1]at hh;rw[Kn.eR _ _ _ _ _ (by omega) (by omega),A9 6 (by omega),(Kn.jt s y c v T q).1,(Kn.jt s y c v T q).2.2];exact(h.tb j hj hh).same (o _ (Kn.ja hj hh) (by omega)) (fun g eg=>by have:=o _ (Kn.iT hj hh eg) (by omega);rwa [h.ro j hj hh g eg]at this)
 ·by_cases q:j=y
  ·subst q;rw[(Kn.oI s j c v T).1]at eg;rw[Kn.mr,eg];rfl
  ·rw[(Kn.jt s y c v T q).2.1]at hh;rw[(Kn.jt s y c v T q).1]at eg;rw[Kn.eR _ _ _ _ _ (by omega) (by omega)];exact h.ro j hj hh g eg
 ·rcases Kn.tq hi with rfl|⟨rfl,vi⟩|⟨ui,i1,i2⟩<;>rcases Kn.tq hj with rfl|⟨rfl,vj⟩|⟨uj,j1,j2⟩
  ·rfl
  ·obtain⟨g,g1,g2⟩:=rg vj;rw[Kn.lA,Kn.mr,g2]at eq;exact aZ eq.symm (t.Lf g g1)
  ·rw[Kn.lA,Kn.eR _ _ _ _ _ j1 j2]at eq;exact aZ eq.symm (ac j uj)
  ·obtain⟨g,g1,g2⟩:=rg vi;rw[Kn.lA,Kn.mr,g2]at eq;exact aZ eq (t.Lf g g1)
  ·rfl
  ·obtain⟨g,g1,g2⟩:=rg vi;rw[Kn.mr,g2,Kn.eR _ _ _ _ _ j1 j2]at eq;exact aZ eq.symm (ag g g1 j uj)
  ·rw[Kn.lA,Kn.eR _ _ _ _ _ i1 i2]at eq;exact aZ eq (ac i ui)
  ·obtain⟨g,g1,g2⟩:=rg vj;rw[Kn.mr,g2,Kn.eR _ _ _ _ _ i1 i2]at eq;exact aZ eq (ag g g1 i ui)
  ·rw[Kn.eR _ _ _ _ _ i1 i2,Kn.eR _ _ _ _ _ j1 j2]at eq;exact h.inj i j ui uj eq
 ·rcases Kn.tq hi with rfl|⟨rfl,vi⟩|⟨ui,i1,i2⟩
  ·rw[Kn.lA];exact lc
  ·obtain⟨g,g1,g2⟩:=rg vi;rw[Kn.mr,g2];exact(t.row.lt g g1).1
  ·rw[Kn.eR _ _ _ _ _ i1 i2];exact h.low i ui
end
theorem bd.low {w:bD}{B base b f:Nat}{T:Mo.Tb}{v:Value}(h:bd w B b f T v)(hB:base<=B):bd w base b f T v:=by
 refine⟨h.cv,⟨h.row.1,?_⟩,h.qB⟩;rcases h.row.2 with q|⟨g,cap,cur,e,hb,r⟩
 ·exact .inl q
 ·exact .inr ⟨g,cap,cur,e,aH hB hb,r⟩
def Kn.gG (k:Kp)(n:Nat)(own:Bool):Int:=if own=true then Sp.gS k.sp ((Sp.cQ k.sp (n:Int):Nat):Int)else 0
def Kn.jF (k:Kp)(n:Nat)(own:Bool):Nat:=if own=true then Sp.ma k.sp ((Sp.cQ k.sp (n:Int):Nat):Int)else Sp.cQ k.sp (n:Int)
def Kn.ed (k:Kp)(n:Nat)(own:Bool):Kp:=if own=true/\Kn.gG k n own=0 then{k with sp:=Sp.eP k.sp ((Sp.cQ k.sp (n:Int):Nat):Int),fo:=Mo.lR k.fo (k.tb (Sp.cQ k.sp (n:Int))),ht:=fun i=>if i=Kn.jF k n own then true else k.ht i,tb:=fun i=>if i=Kn.jF k n own then k.tb (Sp.cQ k.sp (n:Int))else k.tb i}else k
section
variable (base N : Nat) (d : Nat -> Nat) (s : St) (w : bD)
theorem Gb (n z:Nat)(own:Bool)(h:ak w base s)(hb:base<=w.heap.size)(hv:VI (fun _=>False) N d s.k)(hn:n<20)(ho:s.k.sp.of n=z+1):
  Calls Tryz.prog 66 #[.pointer (some ⟨s.A 0,0,none⟩), .int .i64 n, .bool own] w fun e w'=> ∃s',e= .returned (.tuple #[.int .i64 (Kn.jF s.k n own:Int),aq (Kn.gG s.k n own)])/\s'.k=Kn.ed s.k n own/\ak w' base s'/\KF s w s' w':=by
 obtain⟨_,z6,zh⟩:=hv.iv.bH hn ho;have z6I:(z:Int)<6:=by omega
 have SP:=hZ (fT base s w (n:Int) h);have iz:Sp.cQ s.k.sp (n:Int)=z:=Sp.fG hn ho;have hz:s.k.ht z=true:=by rw[hv.kj.ht z z6];exact zh
 have H:=hZ (aK h (aK hv (aK hz hb)));rw[iz]at SP;cases own
 ·have E:Hid (Kn.gG s.k n false=0/\Kn.jF s.k n false=z/\Kn.ed s.k n false=s.k):=hZ ⟨rfl,iz,by unfold Kn.ed;rw[aI (fun q=>by cases q.1)]⟩;rw[E.out.1,E.out.2.1,aa];clear h hv ho iz hz zh hb;generalize s.A 0=kb at*;go_in
  go_wp2_with fail
  refine SP.out.mono ?_;rintro e w1 ⟨rfl,hw⟩;subst w1;go_wp2
  go_ret2
  exact⟨s,rfl,E.out.2.2.symm,H.out.1,KF.refl _ _⟩
 ·have E0:Kn.gG s.k n true=Sp.gS s.k.sp (z:Int):=by unfold Kn.gG;rw[aJ rfl,iz]
  have N0:Kn.jF s.k n true=Sp.ma s.k.sp (z:Int):=by unfold Kn.jF;rw[aJ rfl,iz]
  have AD:=hZ (xE (s.A 1) (z:Int) s.k.sp d w h.sp hv.iv);have c6:=h.uw;obtain⟨kb,hkb⟩:=nJ (s.A 0);have HK:=hZ hkb;obtain⟨p1,hp1⟩:=nJ (s.A 1);have HP:=hZ hp1;rw[hkb]at SP c6|-;rw[hp1]at AD c6;by_cases c:Sp.gS s.k.sp (z:Int)=0
  ·obtain⟨f6,fh⟩:Sp.eI s.k.sp<6/\s.k.sp.here (Sp.eI s.k.sp)=false:=by obtain⟨n1,e1,a1,a2,a3,a4,a5,a6⟩:=Sp.ny c;exact⟨a4,a5⟩
   have an:Sp.ma s.k.sp (z:Int)=Sp.eI s.k.sp:=aJ c;obtain⟨y,hy⟩:=nJ (Sp.eI s.k.sp);rw[hy]at f6 fh an;have EK:Hid (Kn.ed s.k n true={s.k with sp:=Sp.eP s.k.sp (z:Int),fo:=Mo.lR s.k.fo (s.k.tb z),ht:=fun i=>if i=y then true else s.k.ht i,tb:=fun i=>if i=y then s.k.tb z else s.k.tb i}):=hZ (by
    unfold Kn.ed;rw[aJ ⟨rfl,by rw[E0];exact c⟩,N0,an,iz])
   rw[E0,N0,an,c,aa];rw[an,c,aa]at AD;have y6I:(y:Int)<6:=by omega
   have YZ:y≠z:=fun e=>by rw[e,zh]at fh;cases fh
   clear h hv ho iz hz zh hb E0 N0 an c hy fh hkb hp1;go_in
   go_wp2_with fail
   refine SP.out.mono ?_;rintro e w1 ⟨rfl,hw⟩;subst w1;go_wp2_with fail
   refine AD.out.mono ?_;rintro e w1 ⟨rfl,t1,f1⟩;have S1:Hid (ak w1 base {s with k:={s.k with sp:=Sp.eP s.k.sp (z:Int)}}/\KF s w {s with k:={s.k with sp:=Sp.eP s.k.sp (z:Int)}} w1/\base<=w1.heap.size):=hZ (by
    rw[<-HP.out]at t1 f1;have q:=H.out.1.xh t1 f1;exact⟨q.1,q.2,aH H.out.2.2.2 f1.size⟩)
   clear t1 f1 c6;go_upto_region 7 with fail
   have KC:Hid (∀W k,ak W base {s with k:=k}->k.ht z=true->W.cell? ⟨kb,240+z,none⟩=some (.pointer (some ⟨s.A (49+z),0,none⟩))):=hZ (fun W k hW e=>by
    have q:=hW.Ka z z6 e;rw[show({s with k:=k}:St).A 0=kb from HK.out]at q;exact q)
   have K0:=hZ (KC.out w1 _ S1.out.1 H.out.2.2.1);have CP:=hZ (Kr base (s.A (49+z)) (s.A 6) 102 (s.k.tb z) (s.V z) s.k.fo w1.drew (S1.out.1.drew.tb z z6 H.out.2.2.1) S1.out.1.drew.fo H.out.2.1.kj.hb (by decide));obtain⟨tz,htz⟩:=nJ (s.A (49+z));rw[htz]at CP K0;clear htz;have y1:=K0.out;go_region_held3 (fun w'=>w'.cell? ⟨kb,240+z,none⟩=some (.pointer (some ⟨tz,0,none⟩))) (first|exact K0.out|exact K4.out|exact K5.out) (
    (go_at_call 141;refine CP.out.mono ?_;rintro e w4 ⟨c,v',rfl,lc,t4,u4,f4⟩;have S4:Hid (ak w4 base {s with k:={s.k with sp:=Sp.eP s.k.sp (z:Int),fo:=Mo.lR s.k.fo (s.k.tb z)}}/\KF s w {s with k:={s.k with sp:=Sp.eP s.k.sp (z:Int),fo:=Mo.lR s.k.fo (s.k.tb z)}} w4/\bd w4 w1.heap.size c (s.A 6) (s.k.tb z) v'/\w1.heap.size<=c):=hZ (by
      have q:=S1.out.1.drew.zy u4 f4;exact⟨q.1,S1.out.2.1.trans ((KF.drew _ _).trans q.2),t4,lc⟩);have K4:Hid (w4.cell? ⟨kb,240+z,none⟩=some (.pointer (some ⟨tz,0,none⟩))):=hZ (by
      rw[<-K0.out];exact aV (f4.block kb (by rw[<-HK.out];exact S1.out.1.lt (az (by omega))) (by rw[<-HK.out];exact S1.out.1.ne (az (by omega)) (az (by omega)) (by omega))));have K5:Hid ((w4.setCell ⟨kb,240+y,none⟩ (.pointer (some ⟨c,0,none⟩))).cell? ⟨kb,240+z,none⟩=some (.pointer (some ⟨tz,0,none⟩))):=hZ (by
      obtain⟨C,e,_⟩:=S4.out.1.kT;rw[show({s with k:={s.k with sp:=Sp.eP s.k.sp (z:Int),fo:=Mo.lR s.k.fo (s.k.tb z)}}:St).A 0=kb from HK.out]at e;rw[cC e _ _ _ (by omega)];exact K4.out);have cy: ∃vy,w4.cell? ⟨kb,240+y,none⟩=some vy:=(by rw[<-HK.out];exact⟨_,S4.out.1.dC (240+y) (by omega)⟩);obtain⟨vy,cy⟩:=cy;have fz: ∀o,w4.frozen? ⟨kb,o,none⟩=false:=(fun o=>by rw[<-HK.out];exact S4.out.1.frozen o);clear t4 u4 f4 lc))
   have FIN:Hid (ak (w4.setCell ⟨kb,240+y,none⟩ (.pointer (some ⟨c,0,none⟩))) base (Kn.gq {s with k:={s.k with sp:=Sp.eP s.k.sp (z:Int),fo:=Mo.lR s.k.fo (s.k.tb z)}} y c v' (s.k.tb z))/\KF s w (Kn.gq {s with k:={s.k with sp:=Sp.eP s.k.sp (z:Int),fo:=Mo.lR s.k.fo (s.k.tb z)}} y c v' (s.k.tb z)) (w4.setCell ⟨kb,240+y,none⟩ (.pointer (some ⟨c,0,none⟩)))):=hZ (by
    have lt1: ∀i,us s i->s.A i<w1.heap.size:=fun i hi=>aD (H.out.1.lt hi) S1.out.2.1.fU.size;have q:=S4.out.1.Lx f6 (S4.out.2.2.1.low S1.out.2.2) (fun i hi=>by have:=lt1 i hi;have:=S4.out.2.2.2;show s.A i≠c;omega) (fun g eg i hi=>by have:=lt1 i hi;have:=(S4.out.2.2.1.row.lt g eg).1;show s.A i≠g;omega) (aH S1.out.2.2 S4.out.2.2.2);rw[show({s with k:={s.k with sp:=Sp.eP s.k.sp (z:Int),fo:=Mo.lR s.k.fo (s.k.tb z)}}:St).A 0=kb from HK.out]at q;refine⟨q.1,S4.out.2.1.fU.trans (dq.kR q.2 (by rw[<-HK.out];exact⟨0,az (by omega),rfl⟩)),fun b ⟨i,hi,eb⟩=>?_,Kn.eR _ _ _ _ _ (by omega) (by omega)⟩;rcases Kn.tq hi with rfl|⟨rfl,vi⟩|⟨ui,i1,i2⟩
    ·rw[Kn.lA]at eb;exact .inr (by rw[eb];exact aH S1.out.2.1.fU.size S4.out.2.2.2)
    ·rw[Kn.mr]at eb;cases e:v'.ownBlock with
     |none=>exact aZ e vi
     |some g=>
      rw[e]at eb;have:=(S4.out.2.2.1.row.lt g e).1;exact .inr (by rw[eb];exact aH S1.out.2.1.fU.size this)
    ·rw[Kn.eR _ _ _ _ _ i1 i2]at eb;exact .inl ⟨i,ui,eb⟩)
   clear y1 K4 K5 cy fz;go_wp2
   go_ret2
   exact⟨rfl,_,EK.out.symm,FIN.out⟩
  ·have E:Hid (Kn.ed s.k n true=s.k/\Sp.eP s.k.sp (z:Int)=s.k.sp):=hZ ⟨by unfold Kn.ed;rw[aI (fun q=>c (by rw[<-E0];exact q.2))],aI c⟩;have an:Sp.ma s.k.sp (z:Int)=0:=aI c;rw[E0,N0,an,aj c];rw[an,aj c]at AD;clear h hv ho iz hz zh hb E0 N0 an hkb hp1;generalize Sp.gS s.k.sp (z:Int)=ae at*;go_in
   go_wp2_with fail
   refine SP.out.mono ?_;rintro e w1 ⟨rfl,hw⟩;subst w1;go_wp2_with fail
   refine AD.out.mono ?_;rintro e w1 ⟨rfl,t1,f1⟩;have S1:Hid (ak w1 base s/\KF s w s w1):=hZ (by
    rw[<-HP.out]at t1 f1;rw[E.out.2]at t1;exact H.out.1.xh t1 f1)
   clear t1 f1 c6;go_wp2
   go_ret2
   exact⟨s,rfl,E.out.1.symm,S1.out⟩
end
namespace Mv
theorem sI {fr:Nat->Nat}(f:Nat): ∀n,(∀x,x<n->fr x=0)->dH fr f n=0
 |0,_=>rfl
 |n+1,h=>by
  show dH fr f n+(if fr n=f+1 then 1 else 0)=0;rw[sI f n (fun x hx=>h x (by omega)),h n (by omega),aI (by omega)]
theorem eZ.O7 {k:Bk}{N:Nat}{me:Nat->Me}(h:eZ k N me){i j:Nat}(hi:i<N)(hj:j<N)(h0: ∀x,x<16->(me j).fr x=0):eZ (dw (me i) k 16) N (jc me j (me i)):=by
 refine⟨h.inv,h.nb,h.n8,fun a ha n hn=>?_,fun f hf=>?_,fun f hf=>?_,h.one⟩
 ·by_cases c:a=j
  ·subst c;rw[fp];exact h.le i hi n hn
  ·rw[ic _ _ _ _ c];exact h.le a ha n hn
 ·show k.refs f+dH (me i).fr f 16=nH (jc me j (me i)) f N;have:=CZ me f j (me i) N;rw[aJ hj,aJ hj,sI f 16 h0]at this;rw[h.ref f hf];omega
 ·show k.cq.tk f=true↔1<=k.refs f+dH (me i).fr f 16;rw[h.tk f hf];have:=(h.bG hi).bG f hf;omega
end Mv
namespace Sp
section
variable {t : T} {d : Nat -> Nat} {z x : Nat}
theorem AX (hz:z<6)(hh:t.here z=true)(hx:x<20)(h0:t.of x=0):kO t (z:Int) (x:Int)=0/\dM t (z:Int) (x:Int)={Ay t (W t (z:Int)) x with of:=rH t.of x (z+1)}:=by
 have e:kO t (z:Int) (x:Int)=0:=by
  unfold kO gM;rw[gO hz hh,aJ rfl,pH hx,aJ rfl,hU,aJ h0]
 refine⟨e,?_⟩;unfold dM;rw[aJ e,hU,hU]
theorem oK (hz:z<6)(hh:t.here z=true)(hx:x<20)(h0:t.of x=0)(m:Nat):(dM t (z:Int) (x:Int)).of m=if m=x then z+1 else t.of m:=by rw[(AX hz hh hx h0).2];rfl
theorem jU (hz:z<6)(hh:t.here z=true)(hx:x<20)(h0:t.of x=0):(dM t (z:Int) (x:Int)).here=t.here/\(dM t (z:Int) (x:Int)).par=t.par:=by rw[(AX hz hh hx h0).2];exact⟨rfl,rfl⟩
theorem xz (hz:z<6)(hh:t.here z=true)(hx:x<20)(h0:t.of x=0)(s p:Nat):(dM t (z:Int) (x:Int)).ay s p=if s∈W t (z:Int)/\p=low t s then x+1 else t.ay s p:=by rw[(AX hz hh hx h0).2];rfl
theorem qN (hI:Inv t d)(hz:z<6)(hh:t.here z=true)(hx:x<20)(h0:t.of x=0){s p:Nat}(hs:s<6)(hw:t.ay s p≠0):(dM t (z:Int) (x:Int)).ay s p=t.ay s p:=by
 rw[xz hz hh hx h0,aI];rintro⟨_,rfl⟩;exact hw (hI.low hx h0 hs).2.2.1
theorem pF.enter (hI:Inv t d)(hz:z<6)(hh:t.here z=true)(hx:x<20)(h0:t.of x=0)(hH: ∀s,s<6->t.here s=true->(∃h,h<20/\t.ay s 1=h+1/\t.of h=s+1)\/(s=z/\ ∀p,p<21->t.ay s p=0))(r0:t.of 0=1/\t.ay 0 1=1):pF (dM t (z:Int) (x:Int)):=by
 refine⟨fun s hs hs2=>?_,?_⟩
 ·rw[(jU hz hh hx h0).1]at hs2;rcases hH s hs hs2 with⟨h,a,b,c⟩|⟨rfl,e⟩
  ·exact⟨h,a,by rw[qN hI hz hh hx h0 hs (by omega)];exact b,by rw[oK hz hh hx h0,aI (fun q=>by subst q;omega)];exact c⟩
  ·have l:=hI.low hx h0 hs;have l1:low t s=1:=by
    by_cases c:low t s=1
    ·exact c
    ·exact aZ (e 1 (by omega)) (l.2.2.2 1 (by omega) (by omega))
   refine⟨x,hx,?_,by rw[oK hz hh hx h0,aJ rfl]⟩;have mz:s∈W t (s:Int):=by rw[hI.tree.step hz hh];simp
   rw[xz hz hh hx h0,aJ ⟨mz,l1.symm⟩]
 ·have x0:(0:Nat)≠x:=fun q=>by subst q;rw[r0.1]at h0;omega
  rw[oK hz hh hx h0,aI x0,qN hI hz hh hx h0 (by omega) (by rw[r0.2];omega)];exact r0
theorem add_eq {y:Int}(h:gS t y=0):eP t y={t with here:=lB t.here (eI t) true,par:=fw t.par (eI t) y}:=by unfold eP;rw[aJ h]
end
end Sp
namespace Mo
theorem pd (F:Fo)(z:Int)(n:Nat):((Tr.dc F z).nd n).kind=(F.nd n).kind:=by
 unfold Tr.dc;split
 ·by_cases c:n=z.toNat
  ·subst c;rw[Tr.ai]
  ·rw[Tr.ao _ _ _ _ c]
 ·rfl
theorem Jn (F:Fo)(T:Tb)(n:Nat):((lR F T).nd n).kind=(F.nd n).kind:=by
 have: ∀(L:List Mt) (G:Fo),((L.foldl lH G).nd n).kind=(G.nd n).kind:=fun L=>by
  induction L with
  |nil=>exact fun _=>rfl
  |cons m L ih=>exact fun G=>(ih _).trans ((pd _ _ _).trans (pd _ _ _))
 exact(this _ _).trans (pd _ _ _)
theorem Pc {F:Fo}{T:Tb}(h:Tr.Ok F):Tr.Ok (lR F T):=by
 have: ∀(L:List Mt) (G:Fo),Tr.Ok G->Tr.Ok (L.foldl lH G):=fun L=>by
  induction L with
  |nil=>exact fun _ h=>h
  |cons m L ih=>exact fun G h=>ih _ ((h.dc _).dc _)
 exact this _ _ (h.dc _)
theorem GY {L:List Mt}{m:Mt}(h:m∈L)(n:Nat):gm m.1.2 n+gm m.2.2 n<=mc L n:=by
 induction L with
 |nil=>cases h
 |cons x L ih=>
  rw[lJ];rcases List.mem_cons.1 h with rfl|h
  ·omega
  ·have:=ih h;omega
theorem HI.tab {F:Fo}{f:Nat->Nat}{T:Tb}(h:HI F f)(hr:Rg T)(hf: ∀n,n<40->tc T n<=f n):Tr.bh F T.rt.2=0/\ ∀m∈T.ms,Tr.bh F m.1.2=0/\Tr.bh F m.2.2=0:=by
 have key: ∀z,uz z->(∀n,n<40->gm z n<=f n)->Tr.bh F z=0:=fun z hz hl=>by
  obtain⟨n,rfl,n40⟩:=hz;unfold Tr.bh;have:=hl n n40;rw[pJ]at this;rw[aI (by omega),hU,aI (h.lv n n40 (by omega))]
 refine⟨key _ hr.1 (fun n hn=>?_),fun m hm=>⟨key _ (hr.2 m hm).1 (fun n hn=>?_),key _ (hr.2 m hm).2 (fun n hn=>?_)⟩⟩
 ·have:=hf n hn;unfold tc at this;omega
 ·have a:=hf n hn;have b:=GY hm n;unfold tc at a;omega
 ·have a:=hf n hn;have b:=GY hm n;unfold tc at a;omega
end Mo
namespace Kn
section
variable {X : Nat -> Prop} {N : Nat} {d : Nat -> Nat} {k : Kp}
theorem yN (k:Kp)(k':Kp)(y:Nat)(T:Mo.Tb)(h1:k'.ht=fun i=>if i=y then true else k.ht i)(h2:k'.tb=fun i=>if i=y then T else k.tb i)(h0:k.ht y=false)(m:Nat): ∀s,jH k' m s=jH k m s+(if y<s then Mo.tc T m else 0)
 |0=>by rw[aI (Nat.not_lt_zero _)];rfl
 |s+1=>by
  have ih:=yN k k' y T h1 h2 h0 m s;show jH k' m s+(if k'.ht s=true then Mo.tc (k'.tb s) m else 0)=jH k m s+(if k.ht s=true then Mo.tc (k.tb s) m else 0)+_;rw[ih];by_cases c:s=y
  ·have a:k'.ht s=true:=by rw[h1];exact aJ c
   have b:k'.tb s=T:=by rw[h2];exact aJ c
   subst c;rw[aJ a,b,h0,aI (show¬s<s by omega),aI (show¬false=true by decide),aJ (show s<s+1 by omega)]
  ·have a:k'.ht s=k.ht s:=by rw[h1];exact aI c
   have b:k'.tb s=k.tb s:=by rw[h2];exact aI c
   rw[a,b];by_cases e:y<s
   ·rw[aJ e,aJ (show y<s+1 by omega)];omega
   ·rw[aI e,aI (show¬y<s+1 by omega)];omega
theorem qz {k:Kp}{z:Nat}(m:Nat)(hz:k.ht z=true): ∀s,z<s->Mo.tc (k.tb z) m<=jH k m s
 |0,h=>aZ h (Nat.not_lt_zero _)
 |s+1,h=>by
  show _<=jH k m s+(if k.ht s=true then Mo.tc (k.tb s) m else 0);by_cases c:z=s
  ·subst c;rw[aJ hz];omega
  ·have:=qz m hz s (by omega);omega
def xu (k:Kp)(z y:Nat):Kp:={k with sp:=Sp.eP k.sp (z:Int),fo:=Mo.lR k.fo (k.tb z),ht:=fun i=>if i=y then true else k.ht i,tb:=fun i=>if i=y then k.tb z else k.tb i}
theorem KJ.FU (h:KJ X N k){z y:Nat}(ea:Sp.gS k.sp (z:Int)=0)(hy:Sp.eI k.sp=y):KJ X N (xu k z y):=by
 obtain⟨z',ez,z6,zh,wl,f6,fh,fl⟩:=Sp.ny ea;obtain rfl:z=z':=by omega
 rw[hy]at f6 fh;have htz:k.ht z=true:=by rw[h.ht z z6];exact zh
 have hty:k.ht y=false:=by rw[h.ht y f6];exact fh
 have tx: ∀m,iG (xu k z y) m=iG k m+Mo.tc (k.tb z) m:=fun m=>by
  have:=yN k (xu k z y) y (k.tb z) rfl rfl hty m 6;rw[aJ f6]at this;exact this
 have rg:=h.tb z z6 htz;have hi:Mo.HI k.fo (fun n=>Fx.cK k.fi 1 n 24+iG k n):=⟨fun n hn=>h.wx.hl n hn,fun n hn c kz=>by
  have:=h.wx.z0 n hn kz;rw[h.wx.hl n hn]at this;omega⟩
 have nn:=hi.tab rg.1 (fun n _=>by have:Mo.tc (k.tb z) n<=iG k n:=qz n htz 6 z6;omega);have ho:=Mo.Ol hi nn.1 nn.2;have es:=Sp.add_eq ea;rw[hy]at es;refine⟨?_,h.gr,h.me,?_,h.rf,Mo.Pc h.ok,fun s hs q=>?_,h.st,h.hs,h.lv,fun n hn=>?_,fun s hs=>?_,h.nm⟩
 ·obtain⟨d,hd⟩:=h.sp;exact hd.add _
 ·refine⟨h.wx.no,h.wx.kd,fun n hn r k1=>?_,h.wx.pn,h.wx.ps,fun m hm=>?_,fun m hm kz=>?_,h.wx.rd,h.wx.wt⟩
  ·have a:=h.wx.nd n hn r k1;exact⟨a.1,by show((Mo.lR k.fo (k.tb z)).nd _).kind=1;rw[Mo.Jn];exact a.2⟩
  ·show((Mo.lR k.fo (k.tb z)).nd m).held=_;rw[ho.hd m hm,tx m];show _=Fx.cK k.fi 1 m 24+_;omega
  ·by_cases c:((Mo.lR k.fo (k.tb z)).nd m).held=0
   ·exact c
   ·exact aZ kz (ho.lv m hm (by rw[<-ho.hd m hm];omega))
 ·have q2:(if s=y then true else k.ht s)=true:=q;show Mo.Rg (if s=y then k.tb z else k.tb s)/\(if s=y then k.tb z else k.tb s).ms.length<=6;by_cases c:s=y
  ·rw[aJ c];exact rg
  ·rw[aI c]at q2|-;exact h.tb s hs q2
 ·show(Sp.eP k.sp (z:Int)).of n≠0↔_;rw[es];exact h.of n hn
 ·show(if s=y then true else k.ht s)=(Sp.eP k.sp (z:Int)).here s;rw[es];show _=if s=y then true else k.sp.here s;by_cases c:s=y
  ·rw[aJ c,aJ c]
  ·rw[aI c,aI c];exact h.ht s hs
theorem uY {n z y:Nat}(hz:Sp.cQ k.sp (n:Int)=z)(ea:Sp.gS k.sp (z:Int)=0)(hy:Sp.eI k.sp=y):ed k n true=xu k z y/\jF k n true=y/\gG k n true=0:=by
 have e0:gG k n true=0:=by unfold gG;rw[aJ rfl,hz];exact ea
 have n0:jF k n true=y:=by
  unfold jF Sp.ma;rw[aJ rfl,hz,aJ ea,hy]
 refine⟨?_,n0,e0⟩;unfold ed;rw[aJ ⟨rfl,e0⟩,n0,hz];rfl
theorem tj (k:Kp)(n:Nat):ed k n false=k/\gG k n false=0:=⟨by unfold ed;rw[aI (fun q=>by cases q.1)],rfl⟩
def iH (k:Kp)(fd:Nat->Int):Nat->Kp
 |0=>k
 |j+1=>if fd j= -1 then iH k fd j else{iH k fd j with fi:=Fx.iV (iH k fd j).fi (fd j)}
theorem jf (k:Kp)(fd:Nat->Int): ∀j,∃T,iH k fd j={k with fi:=T}
 |0=>⟨k.fi,rfl⟩
 |j+1=>by
  obtain⟨T,e⟩:=jf k fd j;by_cases c:fd j= -1
  ·exact⟨T,by show(if fd j= -1 then _ else _)=_;rw[aJ c];exact e⟩
  ·exact⟨Fx.iV T (fd j),by show(if fd j= -1 then _ else _)=_;rw[aI c,e]⟩
theorem F8 {xx:Nat->Nat}{T:Nat->Fx.Fi}{F:Fo}{S:Nat->Pp.Pi}(h:WX xx T F S)(z:Int):WX xx (Fx.iV T z) F S/\ ∀n,(Fx.iV T z n).refs<=(T n).refs+1:=by
 unfold Fx.iV;by_cases c:Fx.cE T z=0
 ·rw[aJ c];obtain⟨n,rfl,hn,r⟩:=Fx.jz c;rw[hU];refine⟨h.jE hn r _ (Nat.succ_ne_zero _) rfl rfl (h.ps n hn),fun m=>?_⟩;by_cases e:m=n
  ·subst e;rw[Fx.ai];exact aL _
  ·rw[Fx.ao _ _ _ _ e];omega
 ·rw[aI c];exact⟨h,fun _=>by omega⟩
theorem Dp {xx:Nat->Nat}{k:Kp}(h:WX xx k.fi k.fo k.pi)(fd:Nat->Int): ∀j,WX xx (iH k fd j).fi k.fo k.pi/\ ∀n,((iH k fd j).fi n).refs<=(k.fi n).refs+j
 |0=>⟨h,fun _=>aL _⟩
 |j+1=>by
  have ih:=Dp h fd j;show WX xx (if fd j= -1 then iH k fd j else _:Kp).fi k.fo k.pi/\ ∀n,((if fd j= -1 then iH k fd j else _:Kp).fi n).refs<=_;by_cases c:fd j= -1
  ·rw[aJ c];exact⟨ih.1,fun n=>by have:=ih.2 n;omega⟩
  ·rw[aI c];have a:=F8 ih.1 (fd j);exact⟨a.1,fun n=>by have:=a.2 n;have:=ih.2 n;show(Fx.iV (iH k fd j).fi (fd j) n).refs<=_;omega⟩
def dI (k:Kp)(n:Nat):Pr:={k.p n with par:=(n:Int),box:=Sg.oO (k.p n).box}
def cO (k:Kp)(n:Nat):Kp:=iH {k with bk:=Mv.dw (k.p n).mem k.bk 16} (k.p n).fd 6
theorem KJ.QV (h:KJ X N k){n c z:Nat}{m':Wf.M}(hX: ¬X c)(hn:n<20)(hc:c<20)(l:Kn.lv k n=true)(hh:(k.p n).has=true)(c0:(k.p c).st=0)(z6:z<6)(zh:k.sp.here z=true)(wk:Wf.im (Wf.dm k.sc (c:Int) (k.p n).bP) (c:Int) true m'):KJ X (N+1) (gJ (cO k n) c (dI k n) (z:Int) m'):=by
 obtain⟨T,eT⟩:=jf {k with bk:=Mv.dw (k.p n).mem k.bk 16} (k.p n).fd 6;have st1:(k.p n).st=1:=by unfold Kn.lv at l;simpa using l
 have nc:n≠c:=fun e=>by subst e;omega
 have fh:(k.p c).has=false:=by
  cases e:(k.p c).has
  ·rfl
  ·have:=h.hs c hc e;omega
 have o0:k.sp.of c=0:=by
  by_cases e:k.sp.of c=0
  ·exact e
  ·exact aZ c0 ((h.of c hc).1 e)
 have cop:cO k n={k with bk:=Mv.dw (k.p n).mem k.bk 16,fi:=T}:=eT;have wx:=Dp (k:={k with bk:=Mv.dw (k.p n).mem k.bk 16}) h.wx (k.p n).fd 6;rw[eT]at wx;rw[cop];have e: ∀m,m≠c->(gJ {k with bk:=Mv.dw (k.p n).mem k.bk 16,fi:=T} c (dI k n) (z:Int) m').p m=k.p m:=fun m q=>ao _ _ _ _ q;have e2:(gJ {k with bk:=Mv.dw (k.p n).mem k.bk 16,fi:=T} c (dI k n) (z:Int) m').p c=dI k n:=ai _ _ _;refine⟨?_,?_,?_,wx.1,fun m hm=>?_,h.ok,h.tb,fun m hm=>?_,fun m hm=>?_,fun m hm=>?_,fun m hm=>?_,fun s hs=>?_,fun m hm=>?_⟩
 ·obtain⟨d,hd⟩:=h.sp;exact⟨d,hd.enter _ _⟩
 ·obtain⟨Wy,g⟩:=h.gr;exact⟨Wy,g.mono (Nat.le_succ N)⟩
 ·rw[show(fun m=>((gJ {k with bk:=Mv.dw (k.p n).mem k.bk 16,fi:=T} c (dI k n) (z:Int) m').p m).mem)=Mv.jc (fun m=>(k.p m).mem) c (k.p n).mem from funext fun m=>by
   by_cases q:m=c
   ·subst q;rw[e2,Mv.fp];rfl
   ·rw[e m q,Mv.ic _ _ _ _ q]]
  exact h.me.O7 (i:=n) hn hc (fun x _=>by show(k.p c).mem.fr x=0;rw[h.nm c hc fh];rfl)
 ·have:=wx.2 m;have:=h.rf m hm;show(T m).refs<=_;have t:(T m).refs<=(k.fi m).refs+6:=wx.2 m;omega
 ·by_cases q:m=c
  ·subst q;rw[e2];show(k.p n).st<=2;omega
  ·rw[e m q];exact h.st m hm
 ·by_cases q:m=c
  ·subst q;rw[e2];intro _;exact st1
  ·rw[e m q];exact h.hs m hm
 ·intro hx;by_cases q:m=c
  ·subst q;rw[e2];intro _;exact hh
  ·rw[e m q];exact h.lv m hm hx
 ·show(Sp.dM k.sp (z:Int) (c:Int)).of m≠0↔_;rw[Sp.oK z6 zh hc o0];by_cases q:m=c
  ·subst q;rw[e2,aJ rfl];exact⟨fun _=>by show(k.p n).st≠0;omega,fun _=>by omega⟩
  ·rw[e m q,aI q];exact h.of m hm
 ·show k.ht s=(Sp.dM k.sp (z:Int) (c:Int)).here s;rw[(Sp.jU z6 zh hc o0).1];exact h.ht s hs
 ·by_cases q:m=c
  ·subst q;rw[e2];intro f;have f2:(k.p n).has=false:=f;rw[hh]at f2;cases f2
  ·rw[e m q];exact h.nm m hm
end
end Kn
section
variable {s s1 : St} {w W W' : bD} {rb base : Nat}
theorem KF.fresh (h:KF s w s1 W)(f:af rb W W')(hr:w.heap.size<=rb):KF s w s1 W':=⟨⟨f.os.trans h.fU.os,f.tape.trans h.fU.tape,f.output.trans h.fU.output,aH h.fU.size f.size,fun b hb hn=>(f.block b (aD hb h.fU.size) (by omega)).trans (h.fU.block b hb hn)⟩,h.sub,h.a0⟩
theorem ak.fresh (h:ak W base s)(f:af rb W W')(hn: ¬KB s rb):ak W' base s:=h.same (fun i hi=>f.block _ (h.lt hi) (fun e=>hn ⟨i,hi,e.symm⟩))
theorem ak.fZ (h:ak w base s)(hr:w.heap.size<=rb): ¬KB s rb:=fun c=>by have:=h.Qe c;omega
end
def CB (w:bD)(b:Nat)(p c:Int):Prop:=w.heap[b]? =some (.cells #[.int .i64 p, .int .i64 c] 54 (0,0))
theorem CB.lt {w:bD}{b:Nat}{p c:Int}(h:CB w b p c):b<w.heap.size:=(aX.1 h).1
theorem CB.c0 {w:bD}{b:Nat}{p c:Int}(h:CB w b p c):w.cell? ⟨b,0,none⟩=some (.int .i64 p):=by rw[au h];rfl
theorem CB.c1 {w:bD}{b:Nat}{p c:Int}(h:CB w b p c):w.cell? ⟨b,1,none⟩=some (.int .i64 c):=by rw[au h];rfl
theorem CB.frozen {w:bD}{b:Nat}{p c:Int}(h:CB w b p c)(o:Nat):w.frozen? ⟨b,o,none⟩=false:=bf h o
theorem CB.same {w w':bD}{b:Nat}{p c:Int}(h:CB w b p c)(e:w'.heap[b]? =w.heap[b]?):CB w' b p c:=e.trans h
theorem CB.set {w:bD}{b:Nat}{p c:Int}(h:CB w b p c)(p' c':Int):CB ((w.setCell ⟨b,0,none⟩ (.int .i64 p')).setCell ⟨b,1,none⟩ (.int .i64 c')) b p' c':=bC (bC h 0 _) 1 _
theorem CB.jW (w:bD)(b:Nat)(p' c':Int):af b w ((w.setCell ⟨b,0,none⟩ (.int .i64 p')).setCell ⟨b,1,none⟩ (.int .i64 c')):=((af.refl _ _).setCell _ _).setCell _ _
def Kn.rh (k:Kp)(z:Int)(p:Nat)(c E:Int)(k':Kp):Prop:=
 (Kn.bc k z≠0/\E=Kn.bc k z/\p=0/\c=0/\k'=k)\/
 (Kn.bc k z=0/\ ∃n:Nat,z=n/\n<20/\((Kn.fa k n=[]/\E=2/\p=0/\c=0/\k'=k)\/
  (Kn.fa k n≠[]/\(∀m∈Kn.fa k n,Kn.lv k m=true)/\E=8/\p=0/\c=0/\k'=k)\/
  (E=0/\ ∃(i m:Nat),(Kn.fa k n)[i]? =some m/\Kn.lv k m=false/\(∀(j x:Nat),j<i->(Kn.fa k n)[j]? =some x->Kn.lv k x=true)/\p=Sp.js k.sp (m:Int) (Sp.cQ k.sp (n:Int):Nat)/\c=(k.p m).code/\Kn.gW 6 k m k')))
section
variable (base N : Nat) (d : Nat -> Nat) (s : St) (w : bD)
theorem rL (hN:N<=900)(z:Int)(h:ak w base s)(hv:VI (fun _=>False) N d s.k)(h0:(s.k.p 0).par= -1):
  Calls Tryz.prog 22 #[.pointer (some ⟨s.A 0,0,none⟩), .int .i64 z] w fun e w'=> ∃(p:Nat) (c E:Int) (k':Kp),e= .returned (.tuple #[.agg #[.int .i64 (p:Int), .int .i64 c],aq E])/\Kn.rh s.k z p c E k'/\ak w' base {s with k:=k'}/\KF s w {s with k:=k'} w':=by
 have b0:Below w.heap.size w (w.alloc (.cells #[.int .i64 0, .int .i64 0] 54)):=(aQ _ _).alloc (aL _) _;have AC:=hZ (dg base s _ z (h.below b0));have R0:Hid (CB (w.alloc (.cells #[.int .i64 0, .int .i64 0] 54)) w.heap.size 0 0/\Below w.heap.size w (w.alloc (.cells #[.int .i64 0, .int .i64 0] 54))):=hZ ⟨heap_alloc_new w _,b0⟩;have H:=hZ (aK h (aK hv (aK h0 hN)));obtain⟨kb,hkb⟩:=nJ (s.A 0);have HK:=hZ hkb;rw[hkb]at AC|-;by_cases a:Kn.bc s.k z=0
 ·obtain⟨n,rfl,hn,hl⟩:=Kn.fv a;have HA:=hZ a;rw[a,aa]at AC;generalize fP kb (n:Int) 0=ap at*;have st1:(s.k.p n).st≠0:=by
   have:decide ((s.k.p n).st=1)=true:=hl;have:(s.k.p n).st=1:=by simpa using this
   omega
  obtain⟨y,hy⟩: ∃y,s.k.sp.of n=y+1:=⟨s.k.sp.of n-1,by have:=(hv.kj.of n hn).2 st1;omega⟩;have HY:=hZ hy;clear h hv h0 a b0 hl st1 hy;go_in
  go_wp2_with fail
  refine AC.out.mono ?_;rintro e w1 ⟨rfl,hw⟩;rw[<-hw]at R0;clear hw AC;have CH:=hZ (rD base s w1 n (H.out.1.below R0.out.2) (H.out.2.1.Ks hn HY.out));rw[HK.out]at CH;go_wp2_with fail
  refine CH.out.mono ?_;rintro e w4 ⟨v4,u4,rfl,hb4,hL⟩;clear CH;obtain⟨LC,hLC⟩:=nJ (Kn.fa s.k n);rw[hLC]at hL;have HLC:=hZ hLC;have LP:Hid ((∀x∈LC,x<20)/\ ∀x∈LC,x≠0):=hZ (by
   rw[<-HLC.out];exact⟨Kn.Gf H.out.2.1 hn HY.out,fun x hx e=>by have:=Kn.ov x hx;rw[e,H.out.2.2.1]at this;omega⟩)
  obtain⟨a1,cp1,hv1⟩:=fC hL.own;obtain⟨NN,hNN⟩:=nJ (LC.length);have HNN:=hZ hNN;have NL:NN<=21:=by
   rw[<-hNN,<-HLC.out];exact aH (Kn.xy _ _ _) (Kn.uI _ _)
  have BB:Hid (Below w.heap.size w w4/\CB w4 w.heap.size 0 0/\ak w4 base s):=hZ (by
   have q:Below w1.heap.size w1 w4:=hb4.trans (hL.bF.mono hb4.size);exact⟨R0.out.2.trans (q.mono (by have:=R0.out.1.lt;omega)),R0.out.1.same (q.block _ R0.out.1.lt),(H.out.1.below R0.out.2).below q⟩)
  have LL:Hid (∀i,i<LC.length-> ∃gg cap,v4= .slice (some ⟨gg,0,none⟩) LC.length cap/\w4.cell? ⟨gg,i,none⟩=some (.int .i64 ((LC.getD i 0:Nat):Int))):=hZ (fun i hi=>by
   obtain⟨gg,cap,hv,hg,hc⟩:=hL.cells (by omega);refine⟨gg,cap,hv,?_⟩;have q:=hc i hi;rw[show 0+i=i by omega]at q;exact q)
  rw[hNN]at hv1;have HV1:=hZ hv1;rw[hv1];obtain⟨rb,hrb⟩:=nJ (w.heap.size);have HR:=hZ hrb;rw[hrb]at BB|-;clear hL hv1 hNN hb4 hLC R0 hrb;by_cases n0:NN=0
  ·subst n0;have EL:Hid (LC=[]):=hZ (List.length_eq_zero_iff.1 HNN.out);have x0:=BB.out.2.1.c0;have x1:=BB.out.2.1.c1;have xf:=BB.out.2.1.frozen;go_wp2_with fail
   have S2:Hid (CB ((w4.setCell ⟨rb,0,none⟩ (.int .i64 0)).setCell ⟨rb,1,none⟩ (.int .i64 0)) rb 0 0/\ak ((w4.setCell ⟨rb,0,none⟩ (.int .i64 0)).setCell ⟨rb,1,none⟩ (.int .i64 0)) base s/\KF s w s ((w4.setCell ⟨rb,0,none⟩ (.int .i64 0)).setCell ⟨rb,1,none⟩ (.int .i64 0))):=hZ ⟨BB.out.2.1.set 0 0,BB.out.2.2.fresh (CB.jW _ _ _ _) (H.out.1.fZ (by rw[HR.out];exact aL _)),(KF.below (by rw[HR.out];exact BB.out.1)).fresh (CB.jW _ _ _ _) (by rw[HR.out];exact aL _)⟩;generalize (w4.setCell ⟨rb,0,none⟩ (.int .i64 0)).setCell ⟨rb,1,none⟩ (.int .i64 0)=WF at S2|-;have y0:=S2.out.1.c0;have y1:=S2.out.1.c1;refine bodyPost_ret (v:= .tuple #[.agg #[.int .i64 0, .int .i64 0], .iface 100 (.int .i64 2)]) (by simp[results,Tryz.f22,go_sem,y0,y1]) rfl ?_;exact⟨0,0,2,s.k,by rw[aj (by decide)];rfl, .inr ⟨HA.out,n,rfl,hn, .inl ⟨by rw[HLC.out];exact EL.out,rfl,rfl,rfl,rfl⟩⟩,S2.out.2⟩
  ·have nB:((NN:Int)==0)=false:=by simp;omega
   have nI: ¬(NN:Int)=0:=by omega
   have EL:Hid (LC≠[]):=hZ (fun e=>n0 (by rw[<-HNN.out,e];rfl));go_wp2_with fail
   go_loopw [10,32] (fun _ i wr=> ∃(k:Nat),i= .int .i64 k/\k<=NN/\wr=w4/\Hid (∀j x,j<k->LC[j]? =some x->Kn.lv s.k x=true)) (fun _ i _=>NN-(intOf i).toNat)
   case atStart=>exact⟨0,rfl,by omega,rfl,hZ (fun j _ hj=>aZ hj (Nat.not_lt_zero j))⟩
   case round=>
    obtain⟨k,rfl,hk,hwr,R⟩:=hrel;subst wr;by_cases hlt:k<NN
    ·have hltI:(k:Int)<NN:=by omega
     have hkL:k<LC.length:=by rw[HNN.out];exact hlt
     obtain⟨m,hm⟩: ∃m,LC[k]? =some m:=⟨_,aW hkL⟩;have m20:m<20:=LP.out.1 m (bK hm);have m20I:(m:Int)<20:=by omega
     obtain⟨gg,cap,hv,hc⟩:=LL.out k hkL;rw[HV1.out]at hv;cases hv;have cm:w4.cell? ⟨gg,k,none⟩=some (.int .i64 (m:Int)):=by
      rw[hc];simp[aF,hm]
     obtain⟨tl,htl⟩:=nJ (Kn.lv s.k m);have LV:=hZ (j5 base s w4 m BB.out.2.2 m20 tl htl);rw[HK.out]at LV;have HM:=hZ (aK hm (aK htl (LP.out.2 m (bK hm))));clear hc hm hkL htl;cases tl
     ·have cc:=BB.out.2.2.Lg m m20;rw[HK.out]at cc;obtain⟨cd,hcd⟩:=nJ ((s.k.p m).code);have HCD:=hZ hcd;rw[hcd]at cc;clear hcd;have SP:Hid (∀W,Below w4.heap.size w4 W->Calls Tryz.prog 62 #[.pointer (some ⟨kb,0,none⟩), .int .i64 n] W fun e w'=>e= .returned (.int .i64 (Sp.cQ s.k.sp (n:Int):Int))/\w'=W):=hZ (fun W b=>by rw[<-HK.out];exact fT base s W (n:Int) (BB.out.2.2.below b));have PI:Hid (∀W,Below w4.heap.size w4 W->Calls Tryz.prog 70 #[.pointer (some ⟨kb,0,none⟩), .int .i64 m, .int .i64 (Sp.cQ s.k.sp (n:Int):Int)] W fun e w'=>e= .returned (.int .i64 (Sp.js s.k.sp (m:Int) (Sp.cQ s.k.sp (n:Int):Nat):Int))/\w'=W):=hZ (fun W b=>by rw[<-HK.out];exact uE base s W (m:Int) _ (BB.out.2.2.below b) H.out.2.1.iv.nO);obtain⟨pp,hpp⟩:=nJ (Sp.js s.k.sp (m:Int) (Sp.cQ s.k.sp (n:Int):Nat));have HPP:=hZ hpp;rw[hpp]at PI;obtain⟨ss,hss⟩:=nJ (Sp.cQ s.k.sp (n:Int));rw[hss]at SP PI;clear hpp hss;go_upto_region 11 with(refine LV.out.mono ?_;rintro e w5 ⟨rfl,hw⟩;subst w5)
      have nk:=World.new_ne w4 ⟨kb,m*12+3,none⟩ cc;go_region_held3 (fun w'=>w'.cell? ⟨kb,m*12+3,none⟩=some (.int .i64 cd)) (go_keep) (first|(go_at_call 62;refine(SP.out _ (by first|exact(aQ _ _).drew|exact(aQ _ _).drew.alloc (aL _) _)).mono ?_;rintro e w5 ⟨rfl,hw⟩;subst w5)|(go_at_call 70;refine(PI.out _ (by first|exact(aQ _ _).drew|exact(aQ _ _).drew.alloc (aL _) _)).mono ?_;rintro e w5 ⟨rfl,hw⟩;subst w5))
      all_goals
       have S5:Hid (CB (w4.alloc (.cells #[.int .i64 pp, .int .i64 cd] 54)).drew w4.heap.size pp cd/\CB (w4.alloc (.cells #[.int .i64 pp, .int .i64 cd] 54)).drew rb 0 0/\ak (w4.alloc (.cells #[.int .i64 pp, .int .i64 cd] 54)).drew base s/\KF s w s (w4.alloc (.cells #[.int .i64 pp, .int .i64 cd] 54)).drew/\rb<w4.heap.size):=hZ (by
        have b5:Below w4.heap.size w4 (w4.alloc (.cells #[.int .i64 pp, .int .i64 cd] 54)).drew:=((aQ _ _).alloc (aL _) _).drew;exact⟨heap_alloc_new w4 _,BB.out.2.1.same (b5.block _ BB.out.2.1.lt),BB.out.2.2.below b5,(KF.below (by rw[HR.out];exact BB.out.1)).trans (KF.below b5),BB.out.2.1.lt⟩)
       generalize (w4.alloc (.cells #[.int .i64 pp, .int .i64 cd] 54)).drew=W5 at*;generalize w4.heap.size=cb at*;have VN:Hid (Calls Tryz.prog 73 #[.pointer (some ⟨kb,0,none⟩), .int .i64 m] W5 fun e w'=> ∃k',e= .returned (.tuple #[])/\Kn.gW 6 s.k m k'/\ak w' base {s with k:=k'}/\KF s w {s with k:=k'} w'/\CB w' cb pp cd/\CB w' rb 0 0/\KF s W5 {s with k:=k'} w'):=hZ (by
        obtain⟨x,hx⟩: ∃x,s.k.sp.of m=x+1:=by
         have q:m∈Kn.fa s.k n:=by rw[HLC.out];exact bK HM.out.1
         unfold Kn.fa Kn.gU at q;have y6:=(H.out.2.1.iv.bH hn HY.out).2;rw[Sp.fG hn HY.out]at q;have q2:=(bX.1 q).1;unfold dv at q2;rw[Sp.gO y6.1 y6.2,aJ rfl,hU]at q2;obtain⟨i,hi⟩:=List.getElem?_of_mem q2;have q3:=(H.out.2.1.iv.mem_of y6.1 m20 (Sp.qE hi (fun p hp=>H.out.2.1.iv.nS y p y6.1 hp)).2).1;exact⟨s.k.sp.of m-1,by omega⟩
        have q:=BU base N d hN (fun _=>False) s W5 m x S5.out.2.2.1 H.out.2.1 m20 HM.out.2.2 (fun x=>x) hx (fun _ _ _ x=>x.elim);rw[HK.out]at q;refine q.mono ?_;rintro e w6 ⟨k',rfl,vn,ka,kf⟩;have nk1: ¬KB s cb:=H.out.1.fZ (by have:=S5.out.2.2.2.2;rw[HR.out];omega);have nk2: ¬KB s rb:=H.out.1.fZ (by rw[HR.out];exact aL _);exact⟨k',rfl,vn,ka,S5.out.2.2.2.1.trans kf,S5.out.1.same (kf.iC S5.out.1.lt nk1),S5.out.2.1.same (kf.iC S5.out.2.1.lt nk2),kf⟩)
       clear cc cm nk;go_wp2_with fail
       refine VN.out.mono ?_;rintro e w6 ⟨k',rfl,vn,ka,kf,cb1,rb1,kf1⟩;have S6:Hid (Kn.rh s.k (n:Int) pp cd 0 k'/\ak w6 base {s with k:=k'}/\KF s w {s with k:=k'} w6/\CB w6 rb 0 0/\ ¬KB {s with k:=k'} rb):=hZ ⟨.inr ⟨HA.out,n,rfl,hn, .inr (.inr ⟨rfl,k,m,by rw[HLC.out];exact HM.out.1,HM.out.2.1,by rw[HLC.out];exact R.out,HPP.out.symm,HCD.out.symm,vn⟩)⟩,ka,kf,rb1,kf1.apart S5.out.2.1.lt (H.out.1.fZ (by rw[HR.out];exact aL _))⟩;have x0:=rb1.c0;have x1:=rb1.c1;have xf:=rb1.frozen;have u0:=cb1.c0;have u1:=cb1.c1;clear vn ka kf cb1 rb1 kf1 S5 VN;go_wp2_with fail
       have S2:Hid (CB ((w6.setCell ⟨rb,0,none⟩ (.int .i64 pp)).setCell ⟨rb,1,none⟩ (.int .i64 cd)) rb pp cd/\ak ((w6.setCell ⟨rb,0,none⟩ (.int .i64 pp)).setCell ⟨rb,1,none⟩ (.int .i64 cd)) base {s with k:=k'}/\KF s w {s with k:=k'} ((w6.setCell ⟨rb,0,none⟩ (.int .i64 pp)).setCell ⟨rb,1,none⟩ (.int .i64 cd))):=hZ ⟨S6.out.2.2.2.1.set pp cd,S6.out.2.1.fresh (CB.jW _ _ _ _) S6.out.2.2.2.2,S6.out.2.2.1.fresh (CB.jW _ _ _ _) (by rw[HR.out];exact aL _)⟩;generalize (w6.setCell ⟨rb,0,none⟩ (.int .i64 pp)).setCell ⟨rb,1,none⟩ (.int .i64 cd)=WF at S2|-;have y0:=S2.out.1.c0;have y1:=S2.out.1.c1
       (try simp only[Exit.then])
       refine bodyPost_ret (v:= .tuple #[.agg #[.int .i64 pp, .int .i64 cd], .nilIface]) (by simp[results,Tryz.f22,go_sem,y0,y1]) rfl ?_;exact⟨pp,cd,0,k',by rw[aa],S6.out.1,S2.out.2⟩
     ·have R1:Hid (∀j x,j<k+1->LC[j]? =some x->Kn.lv s.k x=true):=hZ (fun j x hj hx=>by
       by_cases e:j=k
       ·subst e;rw[HM.out.1]at hx;cases hx;exact HM.out.2.1
       ·exact R.out j x (by omega) hx)
      go_wp2_with fail
      refine LV.out.mono ?_;rintro e w5 ⟨rfl,hw⟩;subst w5;go_wp2
      go_roundw
      case rel=>exact⟨k+1,by go_num,by omega,by first|rfl|trivial,R1⟩
      case measure=>simp[intOf];omega
    ·obtain rfl:k=NN:=by omega
     have AL:Hid (∀x∈LC,Kn.lv s.k x=true):=hZ (fun x hx=>by
      obtain⟨j,hj⟩:=List.getElem?_of_mem hx;exact R.out j x (by rw[<-HNN.out];exact(aY.1 hj).1) hj)
     have x0:=BB.out.2.1.c0;have x1:=BB.out.2.1.c1;have xf:=BB.out.2.1.frozen;go_wp2_with fail
     have S2:Hid (CB ((w4.setCell ⟨rb,0,none⟩ (.int .i64 0)).setCell ⟨rb,1,none⟩ (.int .i64 0)) rb 0 0/\ak ((w4.setCell ⟨rb,0,none⟩ (.int .i64 0)).setCell ⟨rb,1,none⟩ (.int .i64 0)) base s/\KF s w s ((w4.setCell ⟨rb,0,none⟩ (.int .i64 0)).setCell ⟨rb,1,none⟩ (.int .i64 0))):=hZ ⟨BB.out.2.1.set 0 0,BB.out.2.2.fresh (CB.jW _ _ _ _) (H.out.1.fZ (by rw[HR.out];exact aL _)),(KF.below (by rw[HR.out];exact BB.out.1)).fresh (CB.jW _ _ _ _) (by rw[HR.out];exact aL _)⟩;generalize (w4.setCell ⟨rb,0,none⟩ (.int .i64 0)).setCell ⟨rb,1,none⟩ (.int .i64 0)=WF at S2|-;have y0:=S2.out.1.c0;have y1:=S2.out.1.c1;refine bodyPost_ret (v:= .tuple #[.agg #[.int .i64 0, .int .i64 0], .iface 100 (.int .i64 8)]) (by simp[results,Tryz.f22,go_sem,y0,y1]) rfl ?_;exact⟨0,0,8,s.k,by rw[aj (by decide)];rfl, .inr ⟨HA.out,n,rfl,hn, .inr (.inl ⟨by rw[HLC.out];exact EL.out,by rw[HLC.out];exact AL.out,rfl,rfl,rfl,rfl⟩)⟩,S2.out.2⟩
 ·have FIN:Hid (Kn.rh s.k z 0 0 (Kn.bc s.k z) s.k):=hZ (.inl ⟨a,rfl,rfl,rfl,rfl⟩);have HE:=hZ (aj a);rw[aj a]at AC;clear h hv h0 a b0;generalize fP kb z (Kn.bc s.k z)=ap at*;go_in
  go_wp2_with fail
  refine AC.out.mono ?_;rintro e w4 ⟨rfl,hw⟩;rw[<-hw]at R0;clear hw AC;obtain⟨rb,hrb⟩:=nJ (w.heap.size);have HR:=hZ hrb;rw[hrb]at R0|-;have x0:=R0.out.1.c0;have x1:=R0.out.1.c1;have xf:=R0.out.1.frozen;clear hrb;go_wp2_with fail
  have S2:Hid (CB ((w4.setCell ⟨rb,0,none⟩ (.int .i64 0)).setCell ⟨rb,1,none⟩ (.int .i64 0)) rb 0 0/\ak ((w4.setCell ⟨rb,0,none⟩ (.int .i64 0)).setCell ⟨rb,1,none⟩ (.int .i64 0)) base s/\KF s w s ((w4.setCell ⟨rb,0,none⟩ (.int .i64 0)).setCell ⟨rb,1,none⟩ (.int .i64 0))):=hZ ⟨R0.out.1.set 0 0,(H.out.1.below (by rw[HR.out];exact R0.out.2)).fresh (CB.jW _ _ _ _) (H.out.1.fZ (by rw[HR.out];exact aL _)),(KF.below (by rw[HR.out];exact R0.out.2)).fresh (CB.jW _ _ _ _) (by rw[HR.out];exact aL _)⟩;generalize (w4.setCell ⟨rb,0,none⟩ (.int .i64 0)).setCell ⟨rb,1,none⟩ (.int .i64 0)=WF at S2|-;have y0:=S2.out.1.c0;have y1:=S2.out.1.c1;refine bodyPost_ret (v:= .tuple #[.agg #[.int .i64 0, .int .i64 0], .iface 100 (.int .i64 (Kn.bc s.k z))]) (by simp[results,Tryz.f22,go_sem,y0,y1]) rfl ?_;exact⟨0,0,Kn.bc s.k z,s.k,by rw[HE.out];rfl,FIN.out,S2.out.2⟩

import Derived.Test.YtpmmdkcfenjiaaaGreatDoorUay
set_option maxRecDepth 100000
set_option maxHeartbeats 2000000
set_option linter.unusedVariables false
set_option linter.unusedSimpArgs false
namespace Go.Proofs.YtpmmdkcfenjiaaaGreatDoor
open Value renaming int->aa,pointer->ai,slice->aj,tuple->ao,iface->aq,bool->ar,agg->au,nilIface->ay
open IntKind renaming i64->az
open Ending renaming returned->bf
open Obj renaming cells->bg
open Option renaming some->bh,none->bj
open Tryz (prog)
open Go.RowKit
open Tr (Fo Nd)
open Mo (Wh Mt)
open Mv (Me Bk)
open Kn (Pr Kp St us KB KJ VI EI)
namespace Kn
theorem Fj{k:Kp}{z p:Int}(h:eN k z p=0):lv k (iC k z p)=true:=by
 unfold iC;rw[aJ h];unfold eN at h;by_cases a:bT k z=0
 .rw[aJ a]at h;by_cases f:Sp.fZ k.sp (Sp.dc k.sp z:Nat) p=0
  .rw[aJ f]at h;cases l:lv k (Sp.eH k.sp (Sp.dc k.sp z:Nat) p)
   .rw[l]at h;revert h;decide
   .rfl
  .rw[aI f]at h;exact aZ h f
 .rw[aI a]at h;exact aZ h a
theorem Fk{k:Kp}(hw:∀z p,z<6->p<21->k.sp.bR z p<=20)(z p:Int):iC k z p<20:=by
 unfold iC;by_cases c:eN k z p=0
 .rw[aJ c];exact kY hw _ _
 .rw[aI c];omega
def oP(k:Kp)(z p c:Int):Int:=if eN k z p=0 then(if c<1\/8<c then 1 else if p=1 then 8 else 0)else eN k z p
def qt(k:Kp)(z p c:Int)(k':Kp):Prop:=(oP k z p c≠0/\k'=k)\/(oP k z p c=0/\∃y q,YQ k (iC k z p) y q/\uR (dh k (iC k z p) (Sg.lH (k.p (iC k z p)).box c)) (iC k z p) y q k')
end Kn
section
variable (UE N:Nat)(d:Nat->Nat)(s:St)(w:bD)
theorem Cb(hN:N<=900)(z p c:Int)(h:bH w UE s)(hi:Kn.KI N d s.k)(h1:Kn.eN s.k z p=0->p≠1->Kn.iC s.k z p≠0):
  Calls prog 41 #[ai (bh ⟨s.A 0,0,bj⟩),aa az z,aa az p,aa az c] w λe w'=>∃k',e=bf (bG (Kn.oP s.k z p c))/\Kn.qt s.k z p c k'/\bH w' UE {s with k:=k'}/\KF s w {s with k:=k'} w':=by
 have hw:∀z p,z<6->p<21->s.k.sp.bR z p<=20:=hi.vi.iv.oK;have SE:=hJ (sF UE s w z p h hw);have H:=hJ (aK h (aK hi hN));by_cases a:Kn.eN s.k z p=0
 .have hn:=Kn.Fk hw z p;have hlv:=Kn.Fj a;have n0:=h1 a;rw[a,bB]at SE;obtain⟨n,hsn⟩:=hU (Kn.iC s.k z p);have HSN:=hJ hsn;rw[hsn]at SE hn hlv n0;have hnI:(n:Int)<20:=bu
  by_cases b:c<1\/8<c
  .have E:Kn.oP s.k z p c=1:=by unfold Kn.oP;rw[aJ a,aJ b]
   have FIN:Hid (Kn.qt s.k z p c s.k):=hJ (.inl ⟨by rw[E];decide,rfl⟩);rw[E];generalize s.A 0=kb at*;by_cases b1:c<1
   .clear b;go_in
    go_wp2_with fail
    refine sC SE.v ?_;rintro w1 hb;have S1:Hid (bH w1 UE s/\KF s w s w1):=hJ ⟨H.1.below hb,KF.below hb⟩;go_wp2
    go_ret
    exact⟨s.k,rfl,FIN.v,S1.v⟩
   .have b2:8<c:=bu
    go_in
    go_wp2_with fail
    refine sC SE.v ?_;rintro w1 hb;have S1:Hid (bH w1 UE s/\KF s w s w1):=hJ ⟨H.1.below hb,KF.below hb⟩;go_wp2
    go_ret
    exact⟨s.k,rfl,FIN.v,S1.v⟩
  .have b1:¬c<1:=bu
   have b2:¬8<c:=bu
   by_cases p1:p=1
   .subst p1;have E:Kn.oP s.k z 1 c=8:=by unfold Kn.oP;rw[aJ a,aI b,aJ rfl]
    have FIN:Hid (Kn.qt s.k z 1 c s.k):=hJ (.inl ⟨by rw[E];decide,rfl⟩);rw[E];generalize s.A 0=kb at*;go_in
    go_wp2_with fail
    refine sC SE.v ?_;rintro w1 hb;have S1:Hid (bH w1 UE s/\KF s w s w1):=hJ ⟨H.1.below hb,KF.below hb⟩;go_wp2
    go_ret
    exact⟨s.k,rfl,FIN.v,S1.v⟩
   .have E:Kn.oP s.k z p c=0:=by unfold Kn.oP;rw[aJ a,aI b,aI p1]
    obtain⟨y,q,li⟩:=hi.li hn hlv (Sg.lH (s.k.p n).box c);have FIN:Hid (∀k',Kn.uR (Kn.dh s.k n (Sg.lH (s.k.p n).box c)) n y q k'->Kn.qt s.k z p c k'):=hJ (λk' e=> .inr ⟨E,y,q,by rw[HSN.v];exact⟨li.yq,e⟩⟩);have HH:=hJ (aK (hi.has hn hlv) (aK (n0 p1) li));rw[E,bB];have pI:(p==1)=false:=by simpa using p1
    obtain⟨kb,hkb⟩:=hU (s.A 0);have HK:=hJ hkb;obtain⟨bb,hbb⟩:=hU (s.A (29+n));have HB:=hJ hbb;rw[hkb]at SE|-;go_in
    go_wp2_with fail
    refine sC SE.v ?_;rintro w1 hb;have S1:Hid (bH w1 UE s/\KF s w s w1):=hJ ⟨H.1.below hb,KF.below hb⟩;have c5:=S1.1.sd n hn HH.1;have SD:=hJ (wD (s.A (29+n)) c (s.k.p n).box w1 (S1.1.bx n hn HH.1));rw[HK.v,HB.v]at c5;rw[HB.v]at SD;go_wp2_with fail
    refine sC SD.v ?_;rintro w2 ⟨u2,f2⟩;generalize bG (Sg.cD c)=ev;have S2:Hid (bH w2 UE {s with k:=Kn.dh s.k n (Sg.lH (s.k.p n).box c)}/\KF s w {s with k:=Kn.dh s.k n (Sg.lH (s.k.p n).box c)} w2):=hJ (by
     rw[<-HB.v]at u2 f2;have q:=S1.1.vl hn HH.1 u2 f2;exact⟨q.1,S1.2.trans q.2⟩)
    have LK:=hJ (zU UE N d {s with k:=Kn.dh s.k n (Sg.lH (s.k.p n).box c)} w2 H.2.2 n y q HH.2.1 S2.1 HH.2.2);rw[show({s with k:=Kn.dh s.k n (Sg.lH (s.k.p n).box c)}:St).A 0=kb from HK.v]at LK;go_wp2_with fail
    refine LK.mono ?_;rintro e w3 ⟨k',rfl,et,ka,kf⟩;have S3:Hid (Kn.qt s.k z p c k'/\bH w3 UE {s with k:=k'}/\KF s w {s with k:=k'} w3):=hJ ⟨FIN.v k' et,ka,S2.2.trans kf⟩;go_wp2
    go_ret
    exact⟨k',rfl,S3.v⟩
 .have E:Kn.oP s.k z p c=Kn.eN s.k z p:=aI a;have FIN:Hid (Kn.qt s.k z p c s.k):=hJ (.inl ⟨by rw[E];exact a,rfl⟩);rw[bC a]at SE;rw[E,bC a];generalize Kn.iC s.k z p=sn at*;generalize Kn.eN s.k z p=ae at*;generalize s.A 0=kb at*;go_in
  go_wp2_with fail
  refine sC SE.v ?_;rintro w1 hb;have S1:Hid (bH w1 UE s/\KF s w s w1):=hJ ⟨H.1.below hb,KF.below hb⟩;go_wp2
  go_ret
  exact⟨s.k,rfl,FIN.v,S1.v⟩
end
namespace Kn
theorem VI.h0{X:Nat->Prop}{N:Nat}{d:Nat->Nat}{k:Kp}(h:VI X N d k):hd k 0=0:=(iK h.iv h.hs bu h.hs.r0.1).2 h.hs.r0.2
theorem VI.RQ{X:Nat->Prop}{N:Nat}{d:Nat->Nat}{k:Kp}(h:VI X N d k){z p:Int}(a:eN k z p=0)(p1:p≠1):iC k z p≠0:=by
 intro e;unfold iC at e;rw[aJ a]at e;unfold eN at a;by_cases c:bT k z=0
 .rw[aJ c]at a;obtain⟨n,rfl,hn,hl⟩:=fq c;have s1:(k.p n).st=1:=by unfold lv at hl;simpa using hl
  have o:=(h.kj.of n hn).2 bu;obtain⟨y,hy⟩:∃y,k.sp.of n=y+1:=⟨k.sp.of n-1,bu⟩;obtain⟨_,y6,yh⟩:=h.iv.cO hn hy;rw[Sp.gM hn hy]at a e;by_cases f:Sp.fZ k.sp (y:Nat) p=0
  .unfold Sp.eH at e;rw[aJ f,hZ]at e;unfold Sp.fZ at f;rw[Sp.gw y6 yh,aJ rfl,hZ]at f;by_cases g:p<1\/20<p\/k.sp.bR y p.toNat=0
   .rw[aJ g]at f;omega
   .have w1:k.sp.bR y p.toNat=0+1:=bu
    obtain⟨x,x20,xw,xo⟩:=h.hs.hd y y6 yh;by_cases x0:x=0
    .subst x0;have:=h.iv.one y p.toNat 1 y6 bu bu (by rw[w1,xw]) bu;omega
    .exact h.iv.zero h.hs y6 xw x0 ⟨p.toNat,bu,w1⟩
  .rw[aI f]at a;exact f a
 .rw[aI c]at a;exact c a
theorem Nl{X:Nat->Sg.S1}(j:Nat)(h:Sg.eV X 0 0):Sg.eV (Sg.uz X j) 0 0:=by
 rcases h with⟨_,h⟩|⟨h,_⟩
 .refine .inl ⟨rfl,λi h1 h2=>?_⟩;have q:=h i h1 h2;unfold Sg.uz;by_cases j0:j=0
  .first|(rw[aJ j0];exact q)|simp_all
  .unfold Sg.ok at*;by_cases c:i=j
   .subst c;simp[Sg.put,j0]
   .simpa[Sg.put,j0,c]using q
 .omega
theorem KI.box{N:Nat}{d:Nat->Nat}{k:Kp}(h:KI N d k)(n:Nat){X:Nat->Sg.S1}(hX:n<20->lv k n=true->hd k n≠n->Sg.eV X 0 0):KI N d (dh k n X):=by
 have e:∀m,((dh k n X).p m).st=(k.p m).st/\((dh k n X).p m).par=(k.p m).par:=λm=>by
  by_cases c:m=n
  .subst c;unfold dh;rw[bF];exact⟨rfl,rfl⟩
  .unfold dh;rw[bM _ _ _ _ c];exact⟨rfl,rfl⟩
 refine⟨⟨h.vi.kj.Cz rfl rfl rfl,h.vi.iv,h.vi.hs⟩,λm hm l hd1=>?_,λm hm m0 s0=>?_,h.h0⟩
 .have l2:lv k m=true:=by unfold lv at l|-;rw[(e m).1]at l;exact l
  by_cases c:m=n
  .subst c;unfold dh;rw[bF];exact hX hm l2 hd1
  .unfold dh;rw[bM _ _ _ _ c];exact h.fi m hm l2 hd1
 .rw[(e m).1]at s0;rw[(e m).2];exact h.pr m hm m0 s0
end Kn
namespace Kn
def ib(s:St)(y c:Nat)(v:Value)(T:Mo.Tb):St:=
 ⟨λi=>if i=49+y then c else if i=55+y then v.ownBlock.getD 0 else s.A i,λi=>if i=y then v else s.V i,{s.k with ht:=λi=>if i=y then true else s.k.ht i,tb:=λi=>if i=y then T else s.k.tb i}⟩
section
variable (s:St)(y c:Nat)(v:Value)(T:Mo.Tb)
theorem mA:(ib s y c v T).A (49+y)=c:=aJ rfl
theorem nH:(ib s y c v T).A (55+y)=v.ownBlock.getD 0:=(nJ).trans (aJ rfl)
theorem fD{i:Nat}(h1:i≠49+y)(h2:i≠55+y):(ib s y c v T).A i=s.A i:=(aI h1).trans (aI h2)
theorem pY:(ib s y c v T).V y=v/\(ib s y c v T).k.ht y=true/\(ib s y c v T).k.tb y=T:=⟨aJ rfl,aJ rfl,aJ rfl⟩
theorem jS{i:Nat}(h:i≠y):(ib s y c v T).V i=s.V i/\(ib s y c v T).k.ht i=s.k.ht i/\(ib s y c v T).k.tb i=s.k.tb i:=⟨aI h,aI h,aI h⟩
end
theorem vt{s:St}{y c:Nat}{v:Value}{T:Mo.Tb}{i:Nat}(hi:us (ib s y c v T) i):i=49+y\/(i=55+y/\v.ownBlock≠bj)\/(us s i/\i≠49+y/\i≠55+y):=by
 by_cases c1:i=49+y
 .exact .inl c1
 .by_cases c2:i=55+y
  .refine .inr (.inl ⟨c2,?_⟩);subst c2;rcases hi with hi|⟨h1,h2,h3⟩|⟨h1,h2,h3⟩|⟨h1,h2,h3⟩|⟨h1,h2,h3,h4⟩
   .omega
   .omega
   .omega
   .omega
   .rw[show 55+y-55=y by omega,(pY s y c v T).1]at h4;exact h4
  .refine .inr (.inr ⟨?_,c1,c2⟩);rcases hi with hi|⟨h1,h2,h3⟩|⟨h1,h2,h3⟩|⟨h1,h2,h3⟩|⟨h1,h2,h3,h4⟩
   .exact .inl hi
   .exact .inr (.inl ⟨h1,h2,h3⟩)
   .exact .inr (.inr (.inl ⟨h1,h2,h3⟩))
   .rw[(jS s y c v T bu).2.1]at h3;exact .inr (.inr (.inr (.inl ⟨h1,h2,h3⟩)))
   .rw[(jS s y c v T bu).2.1]at h3;rw[(jS s y c v T bu).1]at h4;exact .inr (.inr (.inr (.inr ⟨h1,h2,h3,h4⟩)))
theorem Pq(s:St)(y c:Nat)(v:Value)(T:Mo.Tb)(hy:y<6)(o:Nat)(ho:o<253):kc (ib s y c v T) o=if o=240+y then ai (bh ⟨c,0,bj⟩)else kc s o:=by
 unfold kc;by_cases e:o<240
 .rw[aJ e,aJ e,nJ];unfold pc;rw[fD _ _ _ _ _ bu bu,fD _ _ _ _ _ bu bu];rfl
 .rw[aI e,aI e];by_cases c2:o<246
  .rw[aJ c2,aJ c2];by_cases c3:o=240+y
   .rw[aJ c3,show o-240=y by omega,mA,(pY s y c v T).2.1];rfl
   .rw[aI c3,fD _ _ _ _ _ bu bu,(jS s y c v T bu).2.1]
  .have c4:¬o=240+y:=bu
   rw[aI c2,aI c2,aI c4];by_cases c3:o<250
   .rw[aJ c3,aJ c3,fD _ _ _ _ _ bu bu]
   .rw[aI c3,aI c3,fD _ _ _ _ _ bu bu]
end Kn
section
variable {w w':bD}{UE:Nat}{s:St}
theorem bH.Og(h:bH w UE s){y c:Nat}(hy:y<6){v:Value}{T:Mo.Tb}(t:bP w UE c (s.A 6) T v)(ac:∀i,us s i->s.A i≠c)(ag:∀g,v.ownBlock=bh g->∀i,us s i->s.A i≠g)(lc:UE<=c):
  bH (w.setCell ⟨s.A 0,240+y,bj⟩ (ai (bh ⟨c,0,bj⟩))) UE (Kn.ib s y c v T)/\bE (s.A 0) w (w.setCell ⟨s.A 0,240+y,bj⟩ (ai (bh ⟨c,0,bj⟩))):=by
 obtain⟨C,e,sz⟩:=h.lO;have f:bE (s.A 0) w (w.setCell ⟨s.A 0,240+y,bj⟩ (ai (bh ⟨c,0,bj⟩))):=(bE.refl _ _).setCell _ _;have o:=h.others bS f;have A9:∀i,i<49->(Kn.ib s y c v T).A i=s.A i:=λi hi=>Kn.fD _ _ _ _ _ bu bu;have t':bP (w.setCell ⟨s.A 0,240+y,bj⟩ (ai (bh ⟨c,0,bj⟩))) UE c (s.A 6) T v:=t.same (f.block _ t.lt (ac 0 bS).symm) (λg eg=>f.block _ (t.row.lt g eg).2 (ag g eg 0 bS).symm);have rg:v.ownBlock≠bj->∃g,v.ownBlock=bh g/\v.ownBlock.getD 0=g:=λq=>by
  cases e:v.ownBlock with
  |none=>exact aZ e q
  |some g=>exact⟨g,rfl,rfl⟩
 refine⟨⟨⟨_,by rw[A9 0 bu];exact cE e _ _,by simpa using sz⟩,λi hi=>?_,by rw[A9 1 bu];exact h.sp.same (o 1 bS bu),by rw[A9 2 bu];exact(o 2 bS bu).trans h.gr,by rw[A9 3 bu];exact h.sc.same (o 3 bS bu),by rw[A9 4 bu,A9 5 bu];exact h.bk.same (o 4 bS bu) (o 5 bS bu),by rw[A9 8 bu,A9 6 bu,A9 7 bu];exact h.fi.same (o 8 bS bu),by rw[A9 6 bu];exact h.fo.same (o 6 bS bu),by rw[A9 7 bu];exact h.pi.same (o 7 bS bu),
  λj hj jh=>?_,λj hj jh=>?_,λj hj hh=>?_,λj hj hh g eg=>?_,λi j hi hj eq=>?_,λi hi=>?_⟩,f⟩
 .rw[A9 0 bu,Kn.Pq s y c v T hy i hi];by_cases q:i=240+y
  .subst q;rw[aJ rfl,du e _ _ bu]
  .rw[aI q,da e _ _ _ (bQ q),h.dQ i hi]
 .rw[A9 _ bu,A9 4 bu];exact(h.me j hj jh).same (o _ (Kn.iD hj jh) bu)
 .rw[A9 _ bu];exact(h.bx j hj jh).same (o _ (Kn.jC hj jh) bu)
 .by_cases q:j=y
  .subst q;rw[Kn.mA,A9 6 bu,(Kn.pY s j c v T).1,(Kn.pY s j c v T).2.2];exact t'
  .rw[(Kn.jS s y c v T q).2.1]at hh;rw[Kn.fD _ _ _ _ _ bu bu,A9 6 bu,(Kn.jS s y c v T q).1,(Kn.jS s y c v T q).2.2];exact(h.tb j hj hh).same (o _ (Kn.jL hj hh) bu) (λg eg=>by have:=o _ (Kn.jD hj hh eg) bu;rwa [h.ro j hj hh g eg]at this)
 .by_cases q:j=y
  .subst q;rw[(Kn.pY s j c v T).1]at eg;rw[Kn.nH,eg];rfl
  .rw[(Kn.jS s y c v T q).2.1]at hh;rw[(Kn.jS s y c v T q).1]at eg;rw[Kn.fD _ _ _ _ _ bu bu];exact h.ro j hj hh g eg
 .rcases Kn.vt hi with rfl|⟨rfl,vi⟩|⟨ui,i1,i2⟩<;>rcases Kn.vt hj with rfl|⟨rfl,vj⟩|⟨uj,j1,j2⟩
  .rfl
  .obtain⟨g,g1,g2⟩:=rg vj;rw[Kn.mA,Kn.nH,g2]at eq;exact aZ eq.symm (t.Od g g1)
  .rw[Kn.mA,Kn.fD _ _ _ _ _ j1 j2]at eq;exact aZ eq.symm (ac j uj)
  .obtain⟨g,g1,g2⟩:=rg vi;rw[Kn.mA,Kn.nH,g2]at eq;exact aZ eq (t.Od g g1)
  .rfl
  .obtain⟨g,g1,g2⟩:=rg vi;rw[Kn.nH,g2,Kn.fD _ _ _ _ _ j1 j2]at eq;exact aZ eq.symm (ag g g1 j uj)
  .rw[Kn.mA,Kn.fD _ _ _ _ _ i1 i2]at eq;exact aZ eq (ac i ui)
  .obtain⟨g,g1,g2⟩:=rg vj;rw[Kn.nH,g2,Kn.fD _ _ _ _ _ i1 i2]at eq;exact aZ eq (ag g g1 i ui)
  .rw[Kn.fD _ _ _ _ _ i1 i2,Kn.fD _ _ _ _ _ j1 j2]at eq;exact h.inj i j ui uj eq
 .rcases Kn.vt hi with rfl|⟨rfl,vi⟩|⟨ui,i1,i2⟩
  .rw[Kn.mA];exact lc
  .obtain⟨g,g1,g2⟩:=rg vi;rw[Kn.nH,g2];exact(t.row.lt g g1).1
  .rw[Kn.fD _ _ _ _ _ i1 i2];exact h.low i ui
end
theorem bP.low{w:bD}{B UE b f:Nat}{T:Mo.Tb}{v:Value}(h:bP w B b f T v)(hB:UE<=B):bP w UE b f T v:=by
 refine⟨h.cU,⟨h.row.1,?_⟩,h.rJ⟩;rcases h.row.2 with q|⟨g,cap,cur,e,hb,r⟩
 .exact .inl q
 .exact .inr ⟨g,cap,cur,e,aH hB hb,r⟩
def Kn.j8(k:Kp)(n:Nat)(own:Bool):Int:=if own=true then Sp.iZ k.sp ((Sp.dc k.sp (n:Int):Nat):Int)else 0
def Kn.nC(k:Kp)(n:Nat)(own:Bool):Nat:=if own=true then Sp.mJ k.sp ((Sp.dc k.sp (n:Int):Nat):Int)else Sp.dc k.sp (n:Int)
def Kn.gj(k:Kp)(n:Nat)(own:Bool):Kp:=if own=true/\Kn.j8 k n own=0 then{k with sp:=Sp.gd k.sp ((Sp.dc k.sp (n:Int):Nat):Int),fo:=Mo.mO k.fo (k.tb (Sp.dc k.sp (n:Int))),ht:=λi=>if i=Kn.nC k n own then true else k.ht i,tb:=λi=>if i=Kn.nC k n own then k.tb (Sp.dc k.sp (n:Int))else k.tb i}else k
section
variable (UE N:Nat)(d:Nat->Nat)(s:St)(w:bD)
theorem Je(n z:Nat)(own:Bool)(h:bH w UE s)(hb:UE<=w.heap.size)(hv:VI (λ_=>False) N d s.k)(hn:n<20)(ho:s.k.sp.of n=z+1):
  Calls prog 66 #[ai (bh ⟨s.A 0,0,bj⟩),aa az n,ar own] w λe w'=>∃s',e=bf (ao #[aa az (Kn.nC s.k n own:Int),bG (Kn.j8 s.k n own)])/\s'.k=Kn.gj s.k n own/\bH w' UE s'/\KF s w s' w':=by
 obtain⟨_,z6,zh⟩:=hv.iv.cO hn ho;have z6I:(z:Int)<6:=bu
 have SP:=hJ (fL UE s w (n:Int) h);have iz:Sp.dc s.k.sp (n:Int)=z:=Sp.gM hn ho;have hz:s.k.ht z=true:=by rw[hv.kj.ht z z6];exact zh
 have H:=hJ (aK h (aK hv (aK hz hb)));rw[iz]at SP;cases own
 .have E:Hid (Kn.j8 s.k n false=0/\Kn.nC s.k n false=z/\Kn.gj s.k n false=s.k):=hJ ⟨rfl,iz,by unfold Kn.gj;rw[aI (λq=>by cases q.1)]⟩;rw[E.1,E.2.1,bB];generalize s.A 0=kb at*;go_in
  go_wp2_with fail
  refine sC SP.v ?_;rintro w1 hw;subst w1;go_wp2
  go_ret2
  exact⟨s,rfl,E.2.2.symm,H.1,KF.refl _ _⟩
 .have E0:Kn.j8 s.k n true=Sp.iZ s.k.sp (z:Int):=by unfold Kn.j8;rw[aJ rfl,iz]
  have N0:Kn.nC s.k n true=Sp.mJ s.k.sp (z:Int):=by unfold Kn.nC;rw[aJ rfl,iz]
  have AD:=hJ (uY (s.A 1) (z:Int) s.k.sp d w h.sp hv.iv);have c6:=h.xE;obtain⟨kb,hkb⟩:=hU (s.A 0);have HK:=hJ hkb;obtain⟨p1,hp1⟩:=hU (s.A 1);have HP:=hJ hp1;rw[hkb]at SP c6|-;rw[hp1]at AD c6;by_cases c:Sp.iZ s.k.sp (z:Int)=0
  .obtain⟨f6,fh⟩:Sp.fv s.k.sp<6/\s.k.sp.here (Sp.fv s.k.sp)=false:=by obtain⟨n1,e1,a1,a2,a3,a4,a5,a6⟩:=Sp.qw c;exact⟨a4,a5⟩
   have an:Sp.mJ s.k.sp (z:Int)=Sp.fv s.k.sp:=aJ c;obtain⟨y,hy⟩:=hU (Sp.fv s.k.sp);rw[hy]at f6 fh an;have EK:Hid (Kn.gj s.k n true={s.k with sp:=Sp.gd s.k.sp (z:Int),fo:=Mo.mO s.k.fo (s.k.tb z),ht:=λi=>if i=y then true else s.k.ht i,tb:=λi=>if i=y then s.k.tb z else s.k.tb i}):=hJ (by
    unfold Kn.gj;rw[aJ ⟨rfl,by rw[E0];exact c⟩,N0,an,iz])
   rw[E0,N0,an,c,bB];rw[an,c,bB]at AD;have y6I:(y:Int)<6:=bu
   have YZ:y≠z:=λe=>by rw[e,zh]at fh;cases fh
   go_in
   go_wp2_with fail
   refine sC SP.v ?_;rintro w1 hw;subst w1;go_wp2_with fail
   refine sC AD.v ?_;rintro w1 ⟨t1,f1⟩;have S1:Hid (bH w1 UE {s with k:={s.k with sp:=Sp.gd s.k.sp (z:Int)}}/\KF s w {s with k:={s.k with sp:=Sp.gd s.k.sp (z:Int)}} w1/\UE<=w1.heap.size):=hJ (by
    rw[<-HP.v]at t1 f1;have q:=H.1.x9 t1 f1;exact⟨q.1,q.2,aH H.2.2.2 f1.size⟩)
   go_upto_region 7 with fail
   have KC:Hid (∀W k,bH W UE {s with k:=k}->k.ht z=true->W.cell? ⟨kb,240+z,bj⟩=bh (ai (bh ⟨s.A (49+z),0,bj⟩))):=hJ (λW k hW e=>by
    have q:=hW.Ld z z6 e;rw[show({s with k:=k}:St).A 0=kb from HK.v]at q;exact q)
   have K0:=hJ (KC.v w1 _ S1.1 H.2.2.1);have CP:=hJ (Lo UE (s.A (49+z)) (s.A 6) 102 (s.k.tb z) (s.V z) s.k.fo w1.drew (S1.1.drew.tb z z6 H.2.2.1) S1.1.drew.fo H.2.1.kj.hb bA);obtain⟨tz,htz⟩:=hU (s.A (49+z));rw[htz]at CP K0;have y1:=K0.v;go_region_held3 (λw'=>w'.cell? ⟨kb,240+z,bj⟩=bh (ai (bh ⟨tz,0,bj⟩))) (first|exact K0.v|exact K4.v|exact K5.v) (
    (go_at_call 141;refine CP.mono ?_;rintro e w4 ⟨c,v',rfl,lc,t4,u4,f4⟩;have S4:Hid (bH w4 UE {s with k:={s.k with sp:=Sp.gd s.k.sp (z:Int),fo:=Mo.mO s.k.fo (s.k.tb z)}}/\KF s w {s with k:={s.k with sp:=Sp.gd s.k.sp (z:Int),fo:=Mo.mO s.k.fo (s.k.tb z)}} w4/\bP w4 w1.heap.size c (s.A 6) (s.k.tb z) v'/\w1.heap.size<=c):=hJ (by
      have q:=S1.1.drew.AV u4 f4;exact⟨q.1,S1.2.1.trans ((KF.drew _ _).trans q.2),t4,lc⟩);have K4:Hid (w4.cell? ⟨kb,240+z,bj⟩=bh (ai (bh ⟨tz,0,bj⟩))):=hJ (by
      rw[<-K0.v];exact aV (f4.block kb (by rw[<-HK.v];exact S1.1.lt bS) (by rw[<-HK.v];exact S1.1.ne bS bS bu)));have K5:Hid ((w4.setCell ⟨kb,240+y,bj⟩ (ai (bh ⟨c,0,bj⟩))).cell? ⟨kb,240+z,bj⟩=bh (ai (bh ⟨tz,0,bj⟩))):=hJ (by
      obtain⟨C,e,_⟩:=S4.1.lO;rw[show({s with k:={s.k with sp:=Sp.gd s.k.sp (z:Int),fo:=Mo.mO s.k.fo (s.k.tb z)}}:St).A 0=kb from HK.v]at e;rw[da e _ _ _ bu];exact K4.v);have cy:∃vy,w4.cell? ⟨kb,240+y,bj⟩=bh vy:=(by rw[<-HK.v];exact⟨_,S4.1.dQ (240+y) bu⟩);obtain⟨vy,cy⟩:=cy;have fz:∀o,w4.frozen? ⟨kb,o,bj⟩=false:=(λo=>by rw[<-HK.v];exact S4.1.frozen o)))
   have FIN:Hid (bH (w4.setCell ⟨kb,240+y,bj⟩ (ai (bh ⟨c,0,bj⟩))) UE (Kn.ib {s with k:={s.k with sp:=Sp.gd s.k.sp (z:Int),fo:=Mo.mO s.k.fo (s.k.tb z)}} y c v' (s.k.tb z))/\KF s w (Kn.ib {s with k:={s.k with sp:=Sp.gd s.k.sp (z:Int),fo:=Mo.mO s.k.fo (s.k.tb z)}} y c v' (s.k.tb z)) (w4.setCell ⟨kb,240+y,bj⟩ (ai (bh ⟨c,0,bj⟩)))):=hJ (by
    have lt1:∀i,us s i->s.A i<w1.heap.size:=λi hi=>aD (H.1.lt hi) S1.2.1.gP.size;have q:=S4.1.Og f6 (S4.2.2.1.low S1.2.2) (λi hi=>by have:=lt1 i hi;have:=S4.2.2.2;show s.A i≠c;omega) (λg eg i hi=>by have:=lt1 i hi;have:=(S4.2.2.1.row.lt g eg).1;show s.A i≠g;omega) (aH S1.2.2 S4.2.2.2);rw[show({s with k:={s.k with sp:=Sp.gd s.k.sp (z:Int),fo:=Mo.mO s.k.fo (s.k.tb z)}}:St).A 0=kb from HK.v]at q;refine⟨q.1,S4.2.1.gP.trans (dF.jW q.2 (by rw[<-HK.v];exact⟨0,bS,rfl⟩)),λb ⟨i,hi,eb⟩=>?_,Kn.fD _ _ _ _ _ bu bu⟩;rcases Kn.vt hi with rfl|⟨rfl,vi⟩|⟨ui,i1,i2⟩
    .rw[Kn.mA]at eb;exact .inr (by rw[eb];exact aH S1.2.1.gP.size S4.2.2.2)
    .rw[Kn.nH]at eb;cases e:v'.ownBlock with
     |none=>exact aZ e vi
     |some g=>
      rw[e]at eb;have:=(S4.2.2.1.row.lt g e).1;exact .inr (by rw[eb];exact aH S1.2.1.gP.size this)
    .rw[Kn.fD _ _ _ _ _ i1 i2]at eb;exact .inl ⟨i,ui,eb⟩)
   go_wp2
   go_ret2
   exact⟨rfl,_,EK.symm,FIN.v⟩
  .have E:Hid (Kn.gj s.k n true=s.k/\Sp.gd s.k.sp (z:Int)=s.k.sp):=hJ ⟨by unfold Kn.gj;rw[aI (λq=>c (by rw[<-E0];exact q.2))],aI c⟩;have an:Sp.mJ s.k.sp (z:Int)=0:=aI c;rw[E0,N0,an,bC c];rw[an,bC c]at AD;generalize Sp.iZ s.k.sp (z:Int)=ae at*;go_in
   go_wp2_with fail
   refine sC SP.v ?_;rintro w1 hw;subst w1;go_wp2_with fail
   refine sC AD.v ?_;rintro w1 ⟨t1,f1⟩;have S1:Hid (bH w1 UE s/\KF s w s w1):=hJ (by
    rw[<-HP.v]at t1 f1;rw[E.2]at t1;exact H.1.x9 t1 f1)
   go_wp2
   go_ret2
   exact⟨s,rfl,E.1.symm,S1.v⟩
end
namespace Mv
theorem tF{fr:Nat->Nat}(f:Nat):∀n,(∀x,x<n->fr x=0)->ec fr f n=0
 |0,_=>rfl
 |n+1,h=>by
  show ec fr f n+(if fr n=f+1 then 1 else 0)=0;rw[tF f n (λx hx=>h x bu),h n bu,nJ]
theorem fP.QV{k:Bk}{N:Nat}{me:Nat->Me}(h:fP k N me){i j:Nat}(hi:i<N)(hj:j<N)(h0:∀x,x<16->(me j).fr x=0):fP (eJ (me i) k 16) N (jJ me j (me i)):=by
 refine⟨h.inv,h.nb,h.n8,λa ha n hn=>?_,λf hf=>?_,λf hf=>?_,h.one⟩
 .by_cases c:a=j
  .subst c;rw[fW];exact h.le i hi n hn
  .rw[iW _ _ _ _ c];exact h.le a ha n hn
 .show k.refs f+ec (me i).fr f 16=oJ (jJ me j (me i)) f N;have:=Fu me f j (me i) N;rw[aJ hj,aJ hj,tF f 16 h0]at this;rw[h.ref f hf];omega
 .show k.cW.tk f=true↔1<=k.refs f+ec (me i).fr f 16;rw[h.tk f hf];have:=(h.cL hi).cL f hf;omega
end Mv
namespace Sp
section
variable {t:T}{d:Nat->Nat}{z x:Nat}
theorem BC(hz:z<6)(hh:t.here z=true)(hx:x<20)(h0:t.of x=0):lD t (z:Int) (x:Int)=0/\fK t (z:Int) (x:Int)={CD t (W t (z:Int)) x with of:=te t.of x (z+1)}:=by
 have e:lD t (z:Int) (x:Int)=0:=by
  unfold lD ic;rw[gw hz hh,aJ rfl,oE hx,aJ rfl,hZ,aJ h0]
 refine⟨e,?_⟩;unfold fK;rw[aJ e,hZ,hZ]
theorem ru(hz:z<6)(hh:t.here z=true)(hx:x<20)(h0:t.of x=0)(m:Nat):(fK t (z:Int) (x:Int)).of m=if m=x then z+1 else t.of m:=by rw[(BC hz hh hx h0).2];rfl
theorem kM(hz:z<6)(hh:t.here z=true)(hx:x<20)(h0:t.of x=0):(fK t (z:Int) (x:Int)).here=t.here/\(fK t (z:Int) (x:Int)).par=t.par:=by rw[(BC hz hh hx h0).2];exact⟨rfl,rfl⟩
theorem yZ(hz:z<6)(hh:t.here z=true)(hx:x<20)(h0:t.of x=0)(s p:Nat):(fK t (z:Int) (x:Int)).bR s p=if s∈W t (z:Int)/\p=low t s then x+1 else t.bR s p:=by rw[(BC hz hh hx h0).2];rfl
theorem v7(hI:Inv t d)(hz:z<6)(hh:t.here z=true)(hx:x<20)(h0:t.of x=0){s p:Nat}(hs:s<6)(hw:t.bR s p≠0):(fK t (z:Int) (x:Int)).bR s p=t.bR s p:=by
 rw[yZ hz hh hx h0,aI];rintro⟨_,rfl⟩;exact hw (hI.low hx h0 hs).2.2.1
theorem qp.enter(hI:Inv t d)(hz:z<6)(hh:t.here z=true)(hx:x<20)(h0:t.of x=0)(hH:∀s,s<6->t.here s=true->(∃h,h<20/\t.bR s 1=h+1/\t.of h=s+1)\/(s=z/\∀p,p<21->t.bR s p=0))(r0:t.of 0=1/\t.bR 0 1=1):qp (fK t (z:Int) (x:Int)):=by
 refine⟨λs hs hs2=>?_,?_⟩
 .rw[(kM hz hh hx h0).1]at hs2;rcases hH s hs hs2 with⟨h,a,b,c⟩|⟨rfl,e⟩
  .exact⟨h,a,by rw[v7 hI hz hh hx h0 hs bu];exact b,by rw[ru hz hh hx h0,aI (λq=>by subst q;omega)];exact c⟩
  .have l:=hI.low hx h0 hs;have l1:low t s=1:=by
    by_cases c:low t s=1
    .exact c
    .exact aZ (e 1 bu) (l.2.2.2 1 bu bu)
   refine⟨x,hx,?_,by rw[ru hz hh hx h0,aJ rfl]⟩;have mz:s∈W t (s:Int):=by rw[hI.tree.step hz hh];simp
   rw[yZ hz hh hx h0,aJ ⟨mz,l1.symm⟩]
 .have x0:(0:Nat)≠x:=λq=>by subst q;rw[r0.1]at h0;omega
  rw[ru hz hh hx h0,aI x0,v7 hI hz hh hx h0 bu (by rw[r0.2];omega)];exact r0
theorem add_eq{y:Int}(h:iZ t y=0):gd t y={t with here:=mF t.here (fv t) true,par:=fY t.par (fv t) y}:=by unfold gd;rw[aJ h]
end
end Sp
namespace Mo
theorem nA(F:Fo)(z:Int)(n:Nat):((Tr.dB F z).nd n).kind=(F.nd n).kind:=by
 unfold Tr.dB;split
 .by_cases c:n=z.toNat
  .subst c;rw[Tr.bF]
  .rw[Tr.bM _ _ _ _ c]
 .rfl
theorem LX(F:Fo)(T:Tb)(n:Nat):((mO F T).nd n).kind=(F.nd n).kind:=by
 have:∀(L:List Mt) (G:Fo),((L.foldl ml G).nd n).kind=(G.nd n).kind:=λL=>by
  induction L with
  |nil=>exact λ_=>rfl
  |cons m L ih=>exact λG=>(ih _).trans ((nA _ _ _).trans (nA _ _ _))
 exact(this _ _).trans (nA _ _ _)
theorem Q8{F:Fo}{T:Tb}(h:Tr.Ok F):Tr.Ok (mO F T):=by
 have:∀(L:List Mt) (G:Fo),Tr.Ok G->Tr.Ok (L.foldl ml G):=λL=>by
  induction L with
  |nil=>exact λ_ h=>h
  |cons m L ih=>exact λG h=>ih _ ((h.dB _).dB _)
 exact this _ _ (h.dB _)
theorem JC{L:List Mt}{m:Mt}(h:m∈L)(n:Nat):gG m.1.2 n+gG m.2.2 n<=mc L n:=by
 induction L with
 |nil=>cases h
 |cons x L ih=>
  rw[mw];rcases List.mem_cons.1 h with rfl|h
  .omega
  .have:=ih h;omega
theorem HI.tab{F:Fo}{f:Nat->Nat}{T:Tb}(h:HI F f)(hr:Rg T)(hf:∀n,n<40->tc T n<=f n):Tr.cA F T.rt.2=0/\∀m∈T.ms,Tr.cA F m.1.2=0/\Tr.cA F m.2.2=0:=by
 have key:∀z,vJ z->(∀n,n<40->gG z n<=f n)->Tr.cA F z=0:=λz hz hl=>by
  obtain⟨n,rfl,n40⟩:=hz;unfold Tr.cA;have:=hl n n40;rw[qH]at this;rw[nJ,hZ,aI (h.lv n n40 bu)]
 refine⟨key _ hr.1 (λn hn=>?_),λm hm=>⟨key _ (hr.2 m hm).1 (λn hn=>?_),key _ (hr.2 m hm).2 (λn hn=>?_)⟩⟩
 .have:=hf n hn;unfold tc at this;omega
 .have a:=hf n hn;have b:=JC hm n;unfold tc at a;omega
 .have a:=hf n hn;have b:=JC hm n;unfold tc at a;omega
end Mo
namespace Kn
section
variable {X:Nat->Prop}{N:Nat}{d:Nat->Nat}{k:Kp}
theorem Aj(k:Kp)(k':Kp)(y:Nat)(T:Mo.Tb)(h1:k'.ht=λi=>if i=y then true else k.ht i)(h2:k'.tb=λi=>if i=y then T else k.tb i)(h0:k.ht y=false)(m:Nat):∀s,kv k' m s=kv k m s+(if y<s then Mo.tc T m else 0)
 |0=>by rw[aI (Nat.not_lt_zero _)];rfl
 |s+1=>by
  have ih:=Aj k k' y T h1 h2 h0 m s;show kv k' m s+(if k'.ht s=true then Mo.tc (k'.tb s) m else 0)=kv k m s+(if k.ht s=true then Mo.tc (k.tb s) m else 0)+_;rw[ih];by_cases c:s=y
  .have a:k'.ht s=true:=by rw[h1];exact aJ c
   have b:k'.tb s=T:=by rw[h2];exact aJ c
   subst c;rw[aJ a,b,h0,aI (show¬s<s by omega),aI (show¬false=true by decide),aJ (show s<s+1 by omega)]
  .have a:k'.ht s=k.ht s:=by rw[h1];exact aI c
   have b:k'.tb s=k.tb s:=by rw[h2];exact aI c
   rw[a,b];by_cases e:y<s
   .rw[aJ e,aJ (show y<s+1 by omega)];omega
   .rw[aI e,aI (show¬y<s+1 by omega)];omega
theorem rO{k:Kp}{z:Nat}(m:Nat)(hz:k.ht z=true):∀s,z<s->Mo.tc (k.tb z) m<=kv k m s
 |0,h=>aZ h (Nat.not_lt_zero _)
 |s+1,h=>by
  show _<=kv k m s+(if k.ht s=true then Mo.tc (k.tb s) m else 0);by_cases c:z=s
  .subst c;rw[aJ hz];omega
  .have:=rO m hz s bu;omega
def Cy(k:Kp)(z y:Nat):Kp:={k with sp:=Sp.gd k.sp (z:Int),fo:=Mo.mO k.fo (k.tb z),ht:=λi=>if i=y then true else k.ht i,tb:=λi=>if i=y then k.tb z else k.tb i}
theorem KJ.Oh(h:KJ X N k){z y:Nat}(ea:Sp.iZ k.sp (z:Int)=0)(hy:Sp.fv k.sp=y):KJ X N (Cy k z y):=by
 obtain⟨z',ez,z6,zh,wl,f6,fh,fl⟩:=Sp.qw ea;obtain rfl:z=z':=bu
 rw[hy]at f6 fh;have htz:k.ht z=true:=by rw[h.ht z z6];exact zh
 have hty:k.ht y=false:=by rw[h.ht y f6];exact fh
 have tx:∀m,jq (Cy k z y) m=jq k m+Mo.tc (k.tb z) m:=λm=>by
  have:=Aj k (Cy k z y) y (k.tb z) rfl rfl hty m 6;rw[aJ f6]at this;exact this
 have rg:=h.tb z z6 htz;have hi:Mo.HI k.fo (λn=>Fx.cK k.fi 1 n 24+jq k n):=⟨λn hn=>h.wx.hl n hn,λn hn c kz=>by
  have:=h.wx.z0 n hn kz;rw[h.wx.hl n hn]at this;omega⟩
 have nn:=hi.tab rg.1 (λn _=>by have:Mo.tc (k.tb z) n<=jq k n:=rO n htz 6 z6;omega);have ho:=Mo.Q7 hi nn.1 nn.2;have es:=Sp.add_eq ea;rw[hy]at es;refine⟨?_,h.gr,h.me,?_,h.rf,Mo.Q8 h.ok,λs hs q=>?_,h.st,h.hs,h.lv,λn hn=>?_,λs hs=>?_,h.nm⟩
 .obtain⟨d,hd⟩:=h.sp;exact hd.add _
 .refine⟨h.wx.no,h.wx.kd,λn hn r k1=>?_,h.wx.pn,h.wx.ps,λm hm=>?_,λm hm kz=>?_,h.wx.rd,h.wx.wt⟩
  .have a:=h.wx.nd n hn r k1;exact⟨a.1,by show((Mo.mO k.fo (k.tb z)).nd _).kind=1;rw[Mo.LX];exact a.2⟩
  .show((Mo.mO k.fo (k.tb z)).nd m).held=_;rw[ho.hd m hm,tx m];show _=Fx.cK k.fi 1 m 24+_;omega
  .by_cases c:((Mo.mO k.fo (k.tb z)).nd m).held=0
   .exact c
   .exact aZ kz (ho.lv m hm (by rw[<-ho.hd m hm];omega))
 .have q2:(if s=y then true else k.ht s)=true:=q;show Mo.Rg (if s=y then k.tb z else k.tb s)/\(if s=y then k.tb z else k.tb s).ms.length<=6;by_cases c:s=y
  .rw[aJ c];exact rg
  .rw[aI c]at q2|-;exact h.tb s hs q2
 .show(Sp.gd k.sp (z:Int)).of n≠0↔_;rw[es];exact h.of n hn
 .show(if s=y then true else k.ht s)=(Sp.gd k.sp (z:Int)).here s;rw[es];show _=if s=y then true else k.sp.here s;by_cases c:s=y
  .rw[aJ c,aJ c]
  .rw[aI c,aI c];exact h.ht s hs
theorem BM{n z y:Nat}(hz:Sp.dc k.sp (n:Int)=z)(ea:Sp.iZ k.sp (z:Int)=0)(hy:Sp.fv k.sp=y):gj k n true=Cy k z y/\nC k n true=y/\j8 k n true=0:=by
 have e0:j8 k n true=0:=by unfold j8;rw[aJ rfl,hz];exact ea
 have n0:nC k n true=y:=by
  unfold nC Sp.mJ;rw[aJ rfl,hz,aJ ea,hy]
 refine⟨?_,n0,e0⟩;unfold gj;rw[aJ ⟨rfl,e0⟩,n0,hz];rfl
theorem Ez(k:Kp)(n:Nat):gj k n false=k/\j8 k n false=0:=⟨by unfold gj;rw[aI (λq=>by cases q.1)],rfl⟩
def jo(k:Kp)(fd:Nat->Int):Nat->Kp
 |0=>k
 |j+1=>if fd j= -1 then jo k fd j else{jo k fd j with fi:=Fx.jB (jo k fd j).fi (fd j)}
theorem mE(k:Kp)(fd:Nat->Int):∀j,∃T,jo k fd j={k with fi:=T}
 |0=>⟨k.fi,rfl⟩
 |j+1=>by
  obtain⟨T,e⟩:=mE k fd j;by_cases c:fd j= -1
  .exact⟨T,by show(if fd j= -1 then _ else _)=_;rw[aJ c];exact e⟩
  .exact⟨Fx.jB T (fd j),by show(if fd j= -1 then _ else _)=_;rw[aI c,e]⟩
theorem J1{xx:Nat->Nat}{T:Nat->Fx.Fi}{F:Fo}{S:Nat->Pp.Pi}(h:WX xx T F S)(z:Int):WX xx (Fx.jB T z) F S/\∀n,(Fx.jB T z n).refs<=(T n).refs+1:=by
 unfold Fx.jB;by_cases c:Fx.dj T z=0
 .rw[aJ c];obtain⟨n,rfl,hn,r⟩:=Fx.jZ c;rw[hZ];refine⟨h.jU hn r _ (Nat.succ_ne_zero _) rfl rfl (h.ps n hn),λm=>?_⟩;by_cases e:m=n
  .subst e;rw[Fx.bF];exact aL _
  .rw[Fx.bM _ _ _ _ e];omega
 .rw[aI c];exact⟨h,λ_=>bu⟩
theorem Fp{xx:Nat->Nat}{k:Kp}(h:WX xx k.fi k.fo k.pi)(fd:Nat->Int):∀j,WX xx (jo k fd j).fi k.fo k.pi/\∀n,((jo k fd j).fi n).refs<=(k.fi n).refs+j
 |0=>⟨h,λ_=>aL _⟩
 |j+1=>by
  have ih:=Fp h fd j;show WX xx (if fd j= -1 then jo k fd j else _:Kp).fi k.fo k.pi/\∀n,((if fd j= -1 then jo k fd j else _:Kp).fi n).refs<=_;by_cases c:fd j= -1
  .rw[aJ c];exact⟨ih.1,λn=>by have:=ih.2 n;omega⟩
  .rw[aI c];have a:=J1 ih.1 (fd j);exact⟨a.1,λn=>by have:=a.2 n;have:=ih.2 n;show(Fx.jB (jo k fd j).fi (fd j) n).refs<=_;omega⟩
def eQ(k:Kp)(n:Nat):Pr:={k.p n with par:=(n:Int),box:=Sg.pH (k.p n).box}
def dI(k:Kp)(n:Nat):Kp:=jo {k with bk:=Mv.eJ (k.p n).mem k.bk 16} (k.p n).fd 6
theorem KJ.Uu(h:KJ X N k){n c z:Nat}{m':Wf.M}(hX:¬X c)(hn:n<20)(hc:c<20)(l:Kn.lv k n=true)(hh:(k.p n).has=true)(c0:(k.p c).st=0)(z6:z<6)(zh:k.sp.here z=true)(wk:Wf.iY (Wf.dZ k.sc (c:Int) (k.p n).cN) (c:Int) true m'):KJ X (N+1) (iO (dI k n) c (eQ k n) (z:Int) m'):=by
 obtain⟨T,eT⟩:=mE {k with bk:=Mv.eJ (k.p n).mem k.bk 16} (k.p n).fd 6;have st1:(k.p n).st=1:=by unfold Kn.lv at l;simpa using l
 have nc:n≠c:=λe=>by subst e;omega
 have fh:(k.p c).has=false:=by
  cases e:(k.p c).has
  .rfl
  .have:=h.hs c hc e;omega
 have o0:k.sp.of c=0:=by
  by_cases e:k.sp.of c=0
  .exact e
  .exact aZ c0 ((h.of c hc).1 e)
 have cop:dI k n={k with bk:=Mv.eJ (k.p n).mem k.bk 16,fi:=T}:=eT;have wx:=Fp (k:={k with bk:=Mv.eJ (k.p n).mem k.bk 16}) h.wx (k.p n).fd 6;rw[eT]at wx;rw[cop];have e:∀m,m≠c->(iO {k with bk:=Mv.eJ (k.p n).mem k.bk 16,fi:=T} c (eQ k n) (z:Int) m').p m=k.p m:=λm q=>bM _ _ _ _ q;have e2:(iO {k with bk:=Mv.eJ (k.p n).mem k.bk 16,fi:=T} c (eQ k n) (z:Int) m').p c=eQ k n:=bF _ _ _;refine⟨?_,?_,?_,wx.1,λm hm=>?_,h.ok,h.tb,λm hm=>?_,λm hm=>?_,λm hm=>?_,λm hm=>?_,λs hs=>?_,λm hm=>?_⟩
 .obtain⟨d,hd⟩:=h.sp;exact⟨d,hd.enter _ _⟩
 .obtain⟨Wy,g⟩:=h.gr;exact⟨Wy,g.mono (Nat.le_succ N)⟩
 .rw[show(λm=>((iO {k with bk:=Mv.eJ (k.p n).mem k.bk 16,fi:=T} c (eQ k n) (z:Int) m').p m).mem)=Mv.jJ (λm=>(k.p m).mem) c (k.p n).mem from funext λm=>by
   by_cases q:m=c
   .subst q;rw[e2,Mv.fW];rfl
   .rw[e m q,Mv.iW _ _ _ _ q]]
  exact h.me.QV (i:=n) hn hc (λx _=>by show(k.p c).mem.fr x=0;rw[h.nm c hc fh];rfl)
 .have:=wx.2 m;have:=h.rf m hm;show(T m).refs<=_;have t:(T m).refs<=(k.fi m).refs+6:=wx.2 m;omega
 .by_cases q:m=c
  .subst q;rw[e2];show(k.p n).st<=2;omega
  .rw[e m q];exact h.st m hm
 .by_cases q:m=c
  .subst q;rw[e2];intro _;exact st1
  .rw[e m q];exact h.hs m hm
 .intro hx;by_cases q:m=c
  .subst q;rw[e2];intro _;exact hh
  .rw[e m q];exact h.lv m hm hx
 .show(Sp.fK k.sp (z:Int) (c:Int)).of m≠0↔_;rw[Sp.ru z6 zh hc o0];by_cases q:m=c
  .subst q;rw[e2,aJ rfl];exact⟨λ_=>by show(k.p n).st≠0;omega,λ_=>bu⟩
  .rw[e m q,aI q];exact h.of m hm
 .show k.ht s=(Sp.fK k.sp (z:Int) (c:Int)).here s;rw[(Sp.kM z6 zh hc o0).1];exact h.ht s hs
 .by_cases q:m=c
  .subst q;rw[e2];intro f;have f2:(k.p n).has=false:=f;rw[hh]at f2;cases f2
  .rw[e m q];exact h.nm m hm
end
end Kn
section
variable {s s1:St}{w W W':bD}{rb UE:Nat}
theorem KF.fresh(h:KF s w s1 W)(f:bE rb W W')(hr:w.heap.size<=rb):KF s w s1 W':=⟨⟨f.os.trans h.gP.os,f.tape.trans h.gP.tape,f.output.trans h.gP.output,aH h.gP.size f.size,λb hb hn=>(f.block b (aD hb h.gP.size) bu).trans (h.gP.block b hb hn)⟩,h.sub,h.a0⟩
theorem bH.fresh(h:bH W UE s)(f:bE rb W W')(hn:¬KB s rb):bH W' UE s:=h.same (λi hi=>f.block _ (h.lt hi) (λe=>hn ⟨i,hi,e.symm⟩))
theorem bH.ix(h:bH w UE s)(hr:w.heap.size<=rb):¬KB s rb:=λc=>by have:=h.Tu c;omega
end
def CB(w:bD)(b:Nat)(p c:Int):Prop:=w.heap[b]? =bh (bg #[aa az p,aa az c] 54 (0,0))
theorem CB.lt{w:bD}{b:Nat}{p c:Int}(h:CB w b p c):b<w.heap.size:=(aX.1 h).1
theorem CB.c0{w:bD}{b:Nat}{p c:Int}(h:CB w b p c):w.cell? ⟨b,0,bj⟩=bh (aa az p):=by rw[bO h];rfl
theorem CB.c1{w:bD}{b:Nat}{p c:Int}(h:CB w b p c):w.cell? ⟨b,1,bj⟩=bh (aa az c):=by rw[bO h];rfl
theorem CB.frozen{w:bD}{b:Nat}{p c:Int}(h:CB w b p c)(o:Nat):w.frozen? ⟨b,o,bj⟩=false:=cv h o
theorem CB.same{w w':bD}{b:Nat}{p c:Int}(h:CB w b p c)(e:w'.heap[b]? =w.heap[b]?):CB w' b p c:=e.trans h
theorem CB.set{w:bD}{b:Nat}{p c:Int}(h:CB w b p c)(p' c':Int):CB ((w.setCell ⟨b,0,bj⟩ (aa az p')).setCell ⟨b,1,bj⟩ (aa az c')) b p' c':=cE (cE h 0 _) 1 _
theorem CB.lN(w:bD)(b:Nat)(p' c':Int):bE b w ((w.setCell ⟨b,0,bj⟩ (aa az p')).setCell ⟨b,1,bj⟩ (aa az c')):=((bE.refl _ _).setCell _ _).setCell _ _
def Kn.xt(k:Kp)(z:Int)(p:Nat)(c E:Int)(k':Kp):Prop:=
 (Kn.bT k z≠0/\E=Kn.bT k z/\p=0/\c=0/\k'=k)\/
 (Kn.bT k z=0/\∃n:Nat,z=n/\n<20/\((Kn.iR k n=[]/\E=2/\p=0/\c=0/\k'=k)\/
  (Kn.iR k n≠[]/\(∀m∈Kn.iR k n,Kn.lv k m=true)/\E=8/\p=0/\c=0/\k'=k)\/
  (E=0/\∃(i m:Nat),(Kn.iR k n)[i]? =bh m/\Kn.lv k m=false/\(∀(j x:Nat),j<i->(Kn.iR k n)[j]? =bh x->Kn.lv k x=true)/\p=Sp.gQ k.sp (m:Int) (Sp.dc k.sp (n:Int):Nat)/\c=(k.p m).code/\Kn.jk 6 k m k')))
section
variable (UE N:Nat)(d:Nat->Nat)(s:St)(w:bD)
theorem Jp(hN:N<=900)(z:Int)(h:bH w UE s)(hv:VI (λ_=>False) N d s.k)(h0:(s.k.p 0).par= -1):
  Calls prog 22 #[ai (bh ⟨s.A 0,0,bj⟩),aa az z] w λe w'=>∃(p:Nat) (c E:Int) (k':Kp),e=bf (ao #[au #[aa az (p:Int),aa az c],bG E])/\Kn.xt s.k z p c E k'/\bH w' UE {s with k:=k'}/\KF s w {s with k:=k'} w':=by
 have b0:Below w.heap.size w (w.alloc (bg #[aa az 0,aa az 0] 54)):=(aQ _ _).alloc (aL _) _;have AC:=hJ (dv UE s _ z (h.below b0));have R0:Hid (CB (w.alloc (bg #[aa az 0,aa az 0] 54)) w.heap.size 0 0/\Below w.heap.size w (w.alloc (bg #[aa az 0,aa az 0] 54))):=hJ ⟨heap_alloc_new w _,b0⟩;have H:=hJ (aK h (aK hv (aK h0 hN)));obtain⟨kb,hkb⟩:=hU (s.A 0);have HK:=hJ hkb;rw[hkb]at AC|-;by_cases a:Kn.bT s.k z=0
 .obtain⟨n,rfl,hn,hl⟩:=Kn.fq a;have HA:=hJ a;rw[a,bB]at AC;generalize fJ kb (n:Int) 0=ap at*;have st1:(s.k.p n).st≠0:=by
   have:decide ((s.k.p n).st=1)=true:=hl;have:(s.k.p n).st=1:=by simpa using this
   omega
  obtain⟨y,hy⟩:∃y,s.k.sp.of n=y+1:=⟨s.k.sp.of n-1,by have:=(hv.kj.of n hn).2 st1;omega⟩;have HY:=hJ hy;clear h hv h0 a b0 hl st1 hy;go_in
  go_wp2_with fail
  refine sC AC.v ?_;rintro w1 hw;rw[<-hw]at R0;clear hw AC;have CH:=hJ (s9 UE s w1 n (H.1.below R0.2) (H.2.1.MH hn HY.v));rw[HK.v]at CH;go_wp2_with fail
  refine CH.mono ?_;rintro e w4 ⟨v4,u4,rfl,hb4,hL⟩;clear CH;obtain⟨LC,hLC⟩:=hU (Kn.iR s.k n);rw[hLC]at hL;have HLC:=hJ hLC;have LP:Hid ((∀x∈LC,x<20)/\∀x∈LC,x≠0):=hJ (by
   rw[<-HLC.v];exact⟨Kn.ID H.2.1 hn HY.v,λx hx e=>by have:=Kn.u3 x hx;rw[e,H.2.2.1]at this;omega⟩)
  obtain⟨a1,cp1,hv1⟩:=fG hL.own;obtain⟨NN,hNN⟩:=hU (LC.length);have HNN:=hJ hNN;have NL:NN<=21:=by
   rw[<-hNN,<-HLC.v];exact aH (Kn.yS _ _ _) (Kn.sG _ _)
  have BB:Hid (Below w.heap.size w w4/\CB w4 w.heap.size 0 0/\bH w4 UE s):=hJ (by
   have q:Below w1.heap.size w1 w4:=hb4.trans (hL.cM.mono hb4.size);exact⟨R0.2.trans (q.mono (by have:=R0.1.lt;omega)),R0.1.same (q.block _ R0.1.lt),(H.1.below R0.2).below q⟩)
  have LL:Hid (∀i,i<LC.length->∃gg cap,v4=aj (bh ⟨gg,0,bj⟩) LC.length cap/\w4.cell? ⟨gg,i,bj⟩=bh (aa az ((LC.getD i 0:Nat):Int))):=hJ (λi hi=>by
   obtain⟨gg,cap,hv,hg,hc⟩:=hL.cells bu;refine⟨gg,cap,hv,?_⟩;have q:=hc i hi;rw[show 0+i=i by omega]at q;exact q)
  rw[hNN]at hv1;have HV1:=hJ hv1;rw[hv1];obtain⟨rb,hrb⟩:=hU (w.heap.size);have HR:=hJ hrb;rw[hrb]at BB|-;clear hL hv1 hNN hb4 hLC R0 hrb;by_cases n0:NN=0
  .subst n0;have EL:Hid (LC=[]):=hJ (List.length_eq_zero_iff.1 HNN.v);have x0:=BB.2.1.c0;have x1:=BB.2.1.c1;have xf:=BB.2.1.frozen;go_wp2_with fail
   have S2:Hid (CB ((w4.setCell ⟨rb,0,bj⟩ (aa .i64 0)).setCell ⟨rb,1,bj⟩ (aa .i64 0)) rb 0 0/\bH ((w4.setCell ⟨rb,0,bj⟩ (aa .i64 0)).setCell ⟨rb,1,bj⟩ (aa .i64 0)) UE s/\KF s w s ((w4.setCell ⟨rb,0,bj⟩ (aa .i64 0)).setCell ⟨rb,1,bj⟩ (aa .i64 0))):=hJ ⟨BB.2.1.set 0 0,BB.2.2.fresh (CB.lN _ _ _ _) (H.1.ix (by rw[HR.v];exact aL _)),(KF.below (by rw[HR.v];exact BB.1)).fresh (CB.lN _ _ _ _) (by rw[HR.v];exact aL _)⟩;generalize (w4.setCell ⟨rb,0,bj⟩ (aa .i64 0)).setCell ⟨rb,1,bj⟩ (aa .i64 0)=WF at S2|-;have y0:=S2.1.c0;have y1:=S2.1.c1;refine bodyPost_ret (v:=ao #[au #[aa az 0,aa az 0],aq 100 (aa .i64 2)]) (by simp[results,Tryz.f22,go_sem,y0,y1]) rfl ?_;exact⟨0,0,2,s.k,by rw[bC bA];rfl, .inr ⟨HA.v,n,rfl,hn, .inl ⟨by rw[HLC.v];exact EL.v,rfl,rfl,rfl,rfl⟩⟩,S2.2⟩
  .have nB:((NN:Int)==0)=false:=by simp;omega
   have nI:¬(NN:Int)=0:=bu
   have EL:Hid (LC≠[]):=hJ (λe=>n0 (by rw[<-HNN.v,e];rfl));go_wp2_with fail
   go_loopw [10,32] (λ_ i wr=>∃(k:Nat),i=aa az k/\k<=NN/\wr=w4/\Hid (∀j x,j<k->LC[j]? =bh x->Kn.lv s.k x=true)) (λ_ i _=>NN-(intOf i).toNat)
   case atStart=>exact⟨0,rfl,bu,rfl,hJ (λj _ hj=>aZ hj (Nat.not_lt_zero j))⟩
   case round=>
    obtain⟨k,rfl,hk,hwr,R⟩:=hrel;subst wr;by_cases hlt:k<NN
    .have hltI:(k:Int)<NN:=bu
     have hkL:k<LC.length:=by rw[HNN.v];exact hlt
     obtain⟨m,hm⟩:∃m,LC[k]? =bh m:=⟨_,aW hkL⟩;have m20:m<20:=LP.1 m (bK hm);have m20I:(m:Int)<20:=bu
     obtain⟨gg,cap,hv,hc⟩:=LL.v k hkL;rw[HV1.v]at hv;cases hv;have cm:w4.cell? ⟨gg,k,bj⟩=bh (aa az (m:Int)):=by
      rw[hc];simp[aF,hm]
     obtain⟨tl,htl⟩:=hU (Kn.lv s.k m);have LV:=hJ (iS UE s w4 m BB.2.2 m20 tl htl);rw[HK.v]at LV;have HM:=hJ (aK hm (aK htl (LP.2 m (bK hm))));clear hc hm hkL htl;cases tl
     .have cc:=BB.2.2.NJ m m20;rw[HK.v]at cc;obtain⟨cd,hcd⟩:=hU ((s.k.p m).code);have HCD:=hJ hcd;rw[hcd]at cc;clear hcd;have SP:Hid (∀W,Below w4.heap.size w4 W->Calls prog 62 #[ai (bh ⟨kb,0,bj⟩),aa az n] W λe w'=>e=bf (aa az (Sp.dc s.k.sp (n:Int):Int))/\w'=W):=hJ (λW b=>by rw[<-HK.v];exact fL UE s W (n:Int) (BB.2.2.below b));have PI:Hid (∀W,Below w4.heap.size w4 W->Calls prog 70 #[ai (bh ⟨kb,0,bj⟩),aa az m,aa az (Sp.dc s.k.sp (n:Int):Int)] W λe w'=>e=bf (aa az (Sp.gQ s.k.sp (m:Int) (Sp.dc s.k.sp (n:Int):Nat):Int))/\w'=W):=hJ (λW b=>by rw[<-HK.v];exact pR UE s W (m:Int) _ (BB.2.2.below b) H.2.1.iv.ma);obtain⟨pp,hpp⟩:=hU (Sp.gQ s.k.sp (m:Int) (Sp.dc s.k.sp (n:Int):Nat));have HPP:=hJ hpp;rw[hpp]at PI;obtain⟨ss,hss⟩:=hU (Sp.dc s.k.sp (n:Int));rw[hss]at SP PI;clear hpp hss;go_upto_region 11 with(refine sC LV.v ?_;rintro w5 hw;subst w5)
      have nk:=World.new_ne w4 ⟨kb,m*12+3,bj⟩ cc;go_region_held3 (λw'=>w'.cell? ⟨kb,m*12+3,bj⟩=bh (aa az cd)) (go_keep) (first|(go_at_call 62;refine sC (SP.v _ (by first|exact(aQ _ _).drew|exact(aQ _ _).drew.alloc (aL _) _)) ?_;rintro w5 hw;subst w5)|(go_at_call 70;refine sC (PI.v _ (by first|exact(aQ _ _).drew|exact(aQ _ _).drew.alloc (aL _) _)) ?_;rintro w5 hw;subst w5))
      all_goals
       have S5:Hid (CB (w4.alloc (bg #[aa az pp,aa az cd] 54)).drew w4.heap.size pp cd/\CB (w4.alloc (bg #[aa az pp,aa az cd] 54)).drew rb 0 0/\bH (w4.alloc (bg #[aa az pp,aa az cd] 54)).drew UE s/\KF s w s (w4.alloc (bg #[aa az pp,aa az cd] 54)).drew/\rb<w4.heap.size):=hJ (by
        have b5:Below w4.heap.size w4 (w4.alloc (bg #[aa az pp,aa az cd] 54)).drew:=((aQ _ _).alloc (aL _) _).drew;exact⟨heap_alloc_new w4 _,BB.2.1.same (b5.block _ BB.2.1.lt),BB.2.2.below b5,(KF.below (by rw[HR.v];exact BB.1)).trans (KF.below b5),BB.2.1.lt⟩)
       generalize (w4.alloc (bg #[aa az pp,aa az cd] 54)).drew=W5 at*;generalize w4.heap.size=cb at*;have VN:Hid (Calls prog 73 #[ai (bh ⟨kb,0,bj⟩),aa az m] W5 λe w'=>∃k',e=bf (ao #[])/\Kn.jk 6 s.k m k'/\bH w' UE {s with k:=k'}/\KF s w {s with k:=k'} w'/\CB w' cb pp cd/\CB w' rb 0 0/\KF s W5 {s with k:=k'} w'):=hJ (by
        obtain⟨x,hx⟩:∃x,s.k.sp.of m=x+1:=by
         have q:m∈Kn.iR s.k n:=by rw[HLC.v];exact bK HM.1
         unfold Kn.iR Kn.iQ at q;have y6:=(H.2.1.iv.cO hn HY.v).2;rw[Sp.gM hn HY.v]at q;have q2:=(bX.1 q).1;unfold dL at q2;rw[Sp.gw y6.1 y6.2,aJ rfl,hZ]at q2;obtain⟨i,hi⟩:=List.getElem?_of_mem q2;have q3:=(H.2.1.iv.mem_of y6.1 m20 (Sp.rC hi (λp hp=>H.2.1.iv.oK y p y6.1 hp)).2).1;exact⟨s.k.sp.of m-1,bu⟩
        have q:=DS UE N d hN (λ_=>False) s W5 m x S5.2.2.1 H.2.1 m20 HM.2.2 (λx=>x) hx (λ_ _ _ x=>x.elim);rw[HK.v]at q;refine q.mono ?_;rintro e w6 ⟨k',rfl,vn,ka,kf⟩;have nk1:¬KB s cb:=H.1.ix (by have:=S5.2.2.2.2;rw[HR.v];omega);have nk2:¬KB s rb:=H.1.ix (by rw[HR.v];exact aL _);exact⟨k',rfl,vn,ka,S5.2.2.2.1.trans kf,S5.1.same (kf.jm S5.1.lt nk1),S5.2.1.same (kf.jm S5.2.1.lt nk2),kf⟩)
       clear cc cm nk;go_wp2_with fail
       refine VN.mono ?_;rintro e w6 ⟨k',rfl,vn,ka,kf,cb1,rb1,kf1⟩;have S6:Hid (Kn.xt s.k (n:Int) pp cd 0 k'/\bH w6 UE {s with k:=k'}/\KF s w {s with k:=k'} w6/\CB w6 rb 0 0/\¬KB {s with k:=k'} rb):=hJ ⟨.inr ⟨HA.v,n,rfl,hn, .inr (.inr ⟨rfl,k,m,by rw[HLC.v];exact HM.1,HM.2.1,by rw[HLC.v];exact R.v,HPP.symm,HCD.symm,vn⟩)⟩,ka,kf,rb1,kf1.apart S5.2.1.lt (H.1.ix (by rw[HR.v];exact aL _))⟩;have x0:=rb1.c0;have x1:=rb1.c1;have xf:=rb1.frozen;have u0:=cb1.c0;have u1:=cb1.c1;clear vn ka kf cb1 rb1 kf1 S5 VN;go_wp2_with fail
       have S2:Hid (CB ((w6.setCell ⟨rb,0,bj⟩ (aa az pp)).setCell ⟨rb,1,bj⟩ (aa az cd)) rb pp cd/\bH ((w6.setCell ⟨rb,0,bj⟩ (aa az pp)).setCell ⟨rb,1,bj⟩ (aa az cd)) UE {s with k:=k'}/\KF s w {s with k:=k'} ((w6.setCell ⟨rb,0,bj⟩ (aa az pp)).setCell ⟨rb,1,bj⟩ (aa az cd))):=hJ ⟨S6.2.2.2.1.set pp cd,S6.2.1.fresh (CB.lN _ _ _ _) S6.2.2.2.2,S6.2.2.1.fresh (CB.lN _ _ _ _) (by rw[HR.v];exact aL _)⟩;generalize (w6.setCell ⟨rb,0,bj⟩ (aa az pp)).setCell ⟨rb,1,bj⟩ (aa az cd)=WF at S2|-;have y0:=S2.1.c0;have y1:=S2.1.c1
       (try simp only[Exit.then])
       refine bodyPost_ret (v:=ao #[au #[aa az pp,aa az cd],ay]) (by simp[results,Tryz.f22,go_sem,y0,y1]) rfl ?_;exact⟨pp,cd,0,k',by rw[bB],S6.1,S2.2⟩
     .have R1:Hid (∀j x,j<k+1->LC[j]? =bh x->Kn.lv s.k x=true):=hJ (λj x hj hx=>by
       by_cases e:j=k
       .subst e;rw[HM.1]at hx;cases hx;exact HM.2.1
       .exact R.v j x bu hx)
      go_wp2_with fail
      refine sC LV.v ?_;rintro w5 hw;subst w5;go_wp2
      go_roundw
      case rel=>exact⟨k+1,by go_num,bu,by first|rfl|trivial,R1⟩
      case measure=>simp[intOf];omega
    .obtain rfl:k=NN:=bu
     have AL:Hid (∀x∈LC,Kn.lv s.k x=true):=hJ (λx hx=>by
      obtain⟨j,hj⟩:=List.getElem?_of_mem hx;exact R.v j x (by rw[<-HNN.v];exact(aY.1 hj).1) hj)
     have x0:=BB.2.1.c0;have x1:=BB.2.1.c1;have xf:=BB.2.1.frozen;go_wp2_with fail
     have S2:Hid (CB ((w4.setCell ⟨rb,0,bj⟩ (aa .i64 0)).setCell ⟨rb,1,bj⟩ (aa .i64 0)) rb 0 0/\bH ((w4.setCell ⟨rb,0,bj⟩ (aa .i64 0)).setCell ⟨rb,1,bj⟩ (aa .i64 0)) UE s/\KF s w s ((w4.setCell ⟨rb,0,bj⟩ (aa .i64 0)).setCell ⟨rb,1,bj⟩ (aa .i64 0))):=hJ ⟨BB.2.1.set 0 0,BB.2.2.fresh (CB.lN _ _ _ _) (H.1.ix (by rw[HR.v];exact aL _)),(KF.below (by rw[HR.v];exact BB.1)).fresh (CB.lN _ _ _ _) (by rw[HR.v];exact aL _)⟩;generalize (w4.setCell ⟨rb,0,bj⟩ (aa .i64 0)).setCell ⟨rb,1,bj⟩ (aa .i64 0)=WF at S2|-;have y0:=S2.1.c0;have y1:=S2.1.c1;refine bodyPost_ret (v:=ao #[au #[aa az 0,aa az 0],aq 100 (aa .i64 8)]) (by simp[results,Tryz.f22,go_sem,y0,y1]) rfl ?_;exact⟨0,0,8,s.k,by rw[bC bA];rfl, .inr ⟨HA.v,n,rfl,hn, .inr (.inl ⟨by rw[HLC.v];exact EL.v,by rw[HLC.v];exact AL.v,rfl,rfl,rfl,rfl⟩)⟩,S2.2⟩
 .have FIN:Hid (Kn.xt s.k z 0 0 (Kn.bT s.k z) s.k):=hJ (.inl ⟨a,rfl,rfl,rfl,rfl⟩);have HE:=hJ (bC a);rw[bC a]at AC;clear h hv h0 a b0;generalize fJ kb z (Kn.bT s.k z)=ap at*;go_in
  go_wp2_with fail
  refine sC AC.v ?_;rintro w4 hw;rw[<-hw]at R0;clear hw AC;obtain⟨rb,hrb⟩:=hU (w.heap.size);have HR:=hJ hrb;rw[hrb]at R0|-;have x0:=R0.1.c0;have x1:=R0.1.c1;have xf:=R0.1.frozen;clear hrb;go_wp2_with fail
  have S2:Hid (CB ((w4.setCell ⟨rb,0,bj⟩ (aa .i64 0)).setCell ⟨rb,1,bj⟩ (aa .i64 0)) rb 0 0/\bH ((w4.setCell ⟨rb,0,bj⟩ (aa .i64 0)).setCell ⟨rb,1,bj⟩ (aa .i64 0)) UE s/\KF s w s ((w4.setCell ⟨rb,0,bj⟩ (aa .i64 0)).setCell ⟨rb,1,bj⟩ (aa .i64 0))):=hJ ⟨R0.1.set 0 0,(H.1.below (by rw[HR.v];exact R0.2)).fresh (CB.lN _ _ _ _) (H.1.ix (by rw[HR.v];exact aL _)),(KF.below (by rw[HR.v];exact R0.2)).fresh (CB.lN _ _ _ _) (by rw[HR.v];exact aL _)⟩;generalize (w4.setCell ⟨rb,0,bj⟩ (aa .i64 0)).setCell ⟨rb,1,bj⟩ (aa .i64 0)=WF at S2|-;have y0:=S2.1.c0;have y1:=S2.1.c1;refine bodyPost_ret (v:=ao #[au #[aa az 0,aa az 0],aq 100 (aa az (Kn.bT s.k z))]) (by simp[results,Tryz.f22,go_sem,y0,y1]) rfl ?_;exact⟨0,0,Kn.bT s.k z,s.k,by rw[HE.v];rfl,FIN.v,S2.2⟩
end
def PB(w:bD)(c a b:Nat)(x:Pr):Prop:=w.heap[c]? =bh (bg (dK a b x) 74 (0,0))
section
variable {w w':bD}{c a b:Nat}{x:Pr}
theorem PB.lt(h:PB w c a b x):c<w.heap.size:=(aX.1 h).1
theorem PB.same(h:PB w c a b x)(e:w'.heap[c]? =w.heap[c]?):PB w' c a b x:=e.trans h
theorem PB.cell(h:PB w c a b x)(j:Nat)(hj:j<12):w.cell? ⟨c,j,bj⟩=bh (Kn.eW a b x j):=by rw[bO h,kU a b x j hj]
theorem PB.frozen(h:PB w c a b x)(o:Nat):w.frozen? ⟨c,o,bj⟩=false:=cv h o
theorem PB.range(h:PB w c a b x):w.rangeAt c 0 (dK a b x).toList:=λj hj=>by
 rw[Nat.zero_add,bO h];simp
theorem PB.there(h:PB w c a b x):w.there c 0 12:=λj hj=>⟨by rw[Nat.zero_add,h.cell j hj];rfl,h.frozen _⟩
theorem ve{A:Array Value}{a b:Nat}{x:Pr}(hs:A.size=12)(h:∀j,j<12->A[j]? =bh (Kn.eW a b x j)):A=dK a b x:=by grind [dK,kU,dy]
theorem PB.set(h:PB w c a b x){a' b':Nat}{y:Pr}{i:Nat}{v:Value}(hi:i<12)(hv:∀j,j<12->Kn.eW a' b' y j=if j=i then v else Kn.eW a b x j):PB (w.setCell ⟨c,i,bj⟩ v) c a' b' y:=by
 unfold PB;rw[cE h i v,ve (A:=(dK a b x).setIfInBounds i v) (a:=a') (b:=b') (x:=y) (by simp[dy]) (λj hj=>?_)];grind [PB,cE,ve,dK,dy,kU]
theorem PB.C5(h:PB w c a b x)(n:Int):PB (w.setCell ⟨c,1,bj⟩ (aa az n)) c a b {x with par:=n}:=h.set bu (λj hj=>by
 match j,hj with
 |0,_=>rfl
 |1,_=>rfl
 |j+2,_=>rw[nJ];rfl)
theorem PB.RX(h:PB w c a b x)(hh:x.has=true)(m:Nat):PB (w.setCell ⟨c,4,bj⟩ (ai (bh ⟨m,0,bj⟩))) c m b x:=h.set bu (λj hj=>by
 match j,hj with
 |0,_=>rfl
 |1,_=>rfl
 |2,_=>rfl
 |3,_=>rfl
 |4,_=>show Kn.ptr m x.has=_;rw[hh];rfl
 |j+5,_=>rw[nJ];rfl)
theorem PB.RT(h:PB w c a b x)(hh:x.has=true)(m:Nat):PB (w.setCell ⟨c,5,bj⟩ (ai (bh ⟨m,0,bj⟩))) c a m x:=h.set bu (λj hj=>by
 match j,hj with
 |0,_=>rfl
 |1,_=>rfl
 |2,_=>rfl
 |3,_=>rfl
 |4,_=>rfl
 |5,_=>show Kn.ptr m x.has=_;rw[hh];rfl
 |j+6,_=>rw[nJ];rfl)
theorem PB.box(h:PB w c a b x)(X:Nat->Sg.S1):PB w c a b {x with box:=X}:=h
theorem PB.fds(h:PB w c a b x)(j:Nat)(hj:j<(ly x.fd).size):w.cell? ⟨c,6+j,bj⟩=(ly x.fd)[j]? :=by
 rw[pK]at hj;rw[BG _ j hj,h.cell (6+j) bu];unfold Kn.eW;grind
end
theorem PB.put{w:bD}{c a b:Nat}{x:Pr}(h:PB w c a b x)(a' b':Nat)(y:Pr):PB (w.setCells c 0 (dK a' b' y).toList) c a' b' y:=by
 obtain⟨C',e',sz'⟩:=dY c (dK a' b' y).toList 0 w _ h;unfold PB;rw[e'];have hl:(dK a' b' y).toList.length=12:=by rw[aB,dy]
 have:C'=dK a' b' y:=by
  refine ve (by rw[sz',dy]) (λj hj=>?_);have q:=aS c (dK a' b' y).toList 0 w (λi hi=>by rw[hl]at hi;rw[Nat.zero_add,h.cell i hi];rfl) j bu;rw[Nat.zero_add,bO e']at q;rw[q,<-aW bu,aM,kU _ _ _ j hj]
 rw[this]
namespace Kn
theorem RZ(T:Nat->Fx.Fi)(z:Int)(n:Nat):(Fx.jB T z n).refs<=(T n).refs+1:=by
 unfold Fx.jB;by_cases c:Fx.dj T z=0
 .rw[aJ c];by_cases e:n=z.toNat
  .subst e;rw[Fx.bF];exact aL _
  .rw[Fx.bM _ _ _ _ e];omega
 .rw[aI c];omega
theorem Fm(k:Kp)(fd:Nat->Int)(n:Nat):∀j,((jo k fd j).fi n).refs<=(k.fi n).refs+j
 |0=>aL _
 |j+1=>by
  have ih:=Fm k fd n j;show((if fd j= -1 then jo k fd j else _:Kp).fi n).refs<=_;split
  .omega
  grind [jo,RZ,Fx.jB]
end Kn
theorem bH.Hs{w w':bD}{UE:Nat}{s:St}(h:bH w UE s){T:Nat->Fx.Fi}(u:dR w' (s.A 8) (s.A 6) (s.A 7) T)(f:bE (s.A 8) w w'):bH w' UE {s with k:={s.k with fi:=T}}/\KF s w {s with k:={s.k with fi:=T}} w':=by
 have o:=h.others bS f;refine⟨⟨by rw[o 0 bS bu];exact h.lO,λx hx=>(aV (o 0 bS bu)).trans (h.dQ x hx),h.sp.same (o 1 bS bu),(o 2 bS bu).trans h.gr,h.sc.same (o 3 bS bu),h.bk.same (o 4 bS bu) (o 5 bS bu),u,h.fo.same (o 6 bS bu),h.pi.same (o 7 bS bu),
  λn hn hh=>(h.me n hn hh).same (o _ (Kn.iD hn hh) bu),λn hn hh=>(h.bx n hn hh).same (o _ (Kn.jC hn hh) bu),
  λn hn hh=>(h.tb n hn hh).same (o _ (Kn.jL hn hh) bu) (λg eg=>by have:=o _ (Kn.jD hn hh eg) bu;rwa [h.ro n hn hh g eg]at this),h.ro,h.inj,h.low⟩,KF.one _ bS f rfl (λ_ hi=>hi)⟩
theorem bH.RB{w:bD}{UE:Nat}{s:St}(h:bH w UE s){n:Nat}(hn:n<20):w.rangeAt (s.A 0) (n*12) (dK (s.A (9+n)) (s.A (29+n)) (s.k.p n)).toList:=λj v hv=>by
 rw[aM]at hv;have hj:j<12:=by grind [dy,kU]
 rw[kU _ _ _ j hj]at hv;rw[h.cP n j hn hj];exact hv
structure CO (UE:Nat)(s:St)(w:bD)(n rb c mb bb:Nat)(k:Kp)(W:bD):Prop where
 kk:bH W UE {s with k:=k}
 kf:KF s w {s with k:=k} W
 pb:PB W c mb bb (Kn.eQ s.k n)
 rs:PB W rb 0 0 Pr.no
 um:cY W mb (s.A 4) (s.k.p n).mem
 ub:CX W bb (Sg.pH (s.k.p n).box)
 ge:w.heap.size<=rb/\w.heap.size<=c/\w.heap.size<=mb/\w.heap.size<=bb
 ne:mb≠bb/\rb≠c/\rb≠mb/\rb≠bb/\c≠mb/\c≠bb
theorem CO.step{UE:Nat}{s:St}{w:bD}{n rb c mb bb:Nat}{k k':Kp}{W W':bD}(h:CO UE s w n rb c mb bb k W)(f:bE (s.A 8) W W')(kk:bH W' UE {s with k:=k'})(kf:KF {s with k:=k} W {s with k:=k'} W')(l8:s.A 8<w.heap.size):CO UE s w n rb c mb bb k' W':=
 ⟨kk,h.kf.trans kf,h.pb.same (f.block _ h.pb.lt (by have:=h.ge;omega)),h.rs.same (f.block _ h.rs.lt (by have:=h.ge;omega)),h.um.same (f.block _ h.um.lt (by have:=h.ge;omega)),h.ub.same (f.block _ h.ub.lt (by have:=h.ge;omega)),h.ge,h.ne⟩
section
variable (UE:Nat)(s:St)(w:bD)
theorem GF(n:Nat)(h:bH w UE s)(hn:n<20)(hh:(s.k.p n).has=true)(hW:Mv.fP s.k.bk 20 (λm=>(s.k.p m).mem))(hr:∀f,f<24->(s.k.fi f).refs<2^50):
  Calls prog 69 #[ai (bh ⟨s.A 0,0,bj⟩),aa az n] w λe w'=>∃mb bb,e=bf (au (dK mb bb (Kn.eQ s.k n)))/\bH w' UE {s with k:=Kn.dI s.k n}/\KF s w {s with k:=Kn.dI s.k n} w'/\cY w' mb (s.A 4) (s.k.p n).mem/\CX w' bb (Sg.pH (s.k.p n).box)/\w.heap.size<=mb/\w.heap.size<=bb/\mb≠bb:=by
 have hnI:(n:Int)<20:=bu
 obtain⟨kb,hkb⟩:=hU (s.A 0);have HK:=hJ hkb;obtain⟨A,hA⟩:=hU (dK (s.A (9+n)) (s.A (29+n)) (s.k.p n));have HA:=hJ hA;have b0:Below w.heap.size w (w.alloc (bg #[aa az 0,aa az 0,aa az 0,aa az 0,ai bj,ai bj,aa az 0,aa az 0,aa az 0,aa az 0,aa az 0,aa az 0] 74)):=(aQ _ _).alloc (aL _) _;have N1:((w.alloc (bg #[aa az 0,aa az 0,aa az 0,aa az 0,ai bj,ai bj,aa az 0,aa az 0,aa az 0,aa az 0,aa az 0,aa az 0] 74)).alloc (bg #[aa az 0,aa az 0,aa az 0,aa az 0,ai bj,ai bj,aa az 0,aa az 0,aa az 0,aa az 0,aa az 0,aa az 0] 74)).heap[w.heap.size+1]? =bh (bg #[aa az 0,aa az 0,aa az 0,aa az 0,ai bj,ai bj,aa az 0,aa az 0,aa az 0,aa az 0,aa az 0,aa az 0] 74 (0,0)):=by
  have:=heap_alloc_new (w.alloc (bg #[aa az 0,aa az 0,aa az 0,aa az 0,ai bj,ai bj,aa az 0,aa az 0,aa az 0,aa az 0,aa az 0,aa az 0] 74)) (bg #[aa az 0,aa az 0,aa az 0,aa az 0,ai bj,ai bj,aa az 0,aa az 0,aa az 0,aa az 0,aa az 0,aa az 0] 74);rw[show(w.alloc (bg #[aa az 0,aa az 0,aa az 0,aa az 0,ai bj,ai bj,aa az 0,aa az 0,aa az 0,aa az 0,aa az 0,aa az 0] 74)).heap.size=w.heap.size+1 by simp]at this;exact this
 have b1:Below w.heap.size w ((w.alloc (bg #[aa az 0,aa az 0,aa az 0,aa az 0,ai bj,ai bj,aa az 0,aa az 0,aa az 0,aa az 0,aa az 0,aa az 0] 74)).alloc (bg #[aa az 0,aa az 0,aa az 0,aa az 0,ai bj,ai bj,aa az 0,aa az 0,aa az 0,aa az 0,aa az 0,aa az 0] 74)):=b0.alloc b0.size _;have R0:Hid ((w.alloc (bg #[aa az 0,aa az 0,aa az 0,aa az 0,ai bj,ai bj,aa az 0,aa az 0,aa az 0,aa az 0,aa az 0,aa az 0] 74)).rangeAt kb (n*12) A.toList):=hJ (by rw[<-hkb,<-hA];exact(h.below b0).RB hn);have SL:Hid ((prog.info? 74).map (·.size)=bh A.toList.length):=hJ (by rw[<-hA,aB,dy];kernel_rfl);have SZ:Hid ((prog.info? 74).map (·.size)=bh A.size):=hJ (by rw[<-hA,dy];kernel_rfl);have TH:Hid (((w.alloc (bg #[aa az 0,aa az 0,aa az 0,aa az 0,ai bj,ai bj,aa az 0,aa az 0,aa az 0,aa az 0,aa az 0,aa az 0] 74)).alloc (bg #[aa az 0,aa az 0,aa az 0,aa az 0,ai bj,ai bj,aa az 0,aa az 0,aa az 0,aa az 0,aa az 0,aa az 0] 74)).there (w.heap.size+1) 0 A.size):=hJ (by rw[<-hA,dy];exact PB.there (a:=0) (b:=0) (x:=Pr.no) (by unfold PB;rw[xV];exact N1));have H1:Hid (A.all (·.oneCell')=true):=hJ (by rw[<-hA];exact pA _ _ _);have F0:Hid (PB (((w.alloc (bg #[aa az 0,aa az 0,aa az 0,aa az 0,ai bj,ai bj,aa az 0,aa az 0,aa az 0,aa az 0,aa az 0,aa az 0] 74)).alloc (bg #[aa az 0,aa az 0,aa az 0,aa az 0,ai bj,ai bj,aa az 0,aa az 0,aa az 0,aa az 0,aa az 0,aa az 0] 74)).setCells (w.heap.size+1) 0 A.toList) (w.heap.size+1) (s.A (9+n)) (s.A (29+n)) (s.k.p n)/\PB (((w.alloc (bg #[aa az 0,aa az 0,aa az 0,aa az 0,ai bj,ai bj,aa az 0,aa az 0,aa az 0,aa az 0,aa az 0,aa az 0] 74)).alloc (bg #[aa az 0,aa az 0,aa az 0,aa az 0,ai bj,ai bj,aa az 0,aa az 0,aa az 0,aa az 0,aa az 0,aa az 0] 74)).setCells (w.heap.size+1) 0 A.toList) w.heap.size 0 0 Pr.no/\Below w.heap.size w (((w.alloc (bg #[aa az 0,aa az 0,aa az 0,aa az 0,ai bj,ai bj,aa az 0,aa az 0,aa az 0,aa az 0,aa az 0,aa az 0] 74)).alloc (bg #[aa az 0,aa az 0,aa az 0,aa az 0,ai bj,ai bj,aa az 0,aa az 0,aa az 0,aa az 0,aa az 0,aa az 0] 74)).setCells (w.heap.size+1) 0 A.toList)):=hJ (by
  have fr:bE (w.heap.size+1) ((w.alloc (bg #[aa az 0,aa az 0,aa az 0,aa az 0,ai bj,ai bj,aa az 0,aa az 0,aa az 0,aa az 0,aa az 0,aa az 0] 74)).alloc (bg #[aa az 0,aa az 0,aa az 0,aa az 0,ai bj,ai bj,aa az 0,aa az 0,aa az 0,aa az 0,aa az 0,aa az 0] 74)) (((w.alloc (bg #[aa az 0,aa az 0,aa az 0,aa az 0,ai bj,ai bj,aa az 0,aa az 0,aa az 0,aa az 0,aa az 0,aa az 0] 74)).alloc (bg #[aa az 0,aa az 0,aa az 0,aa az 0,ai bj,ai bj,aa az 0,aa az 0,aa az 0,aa az 0,aa az 0,aa az 0] 74)).setCells (w.heap.size+1) 0 A.toList):=bE.setCells _ _ (bE.refl _ _);refine⟨?_,?_,fr.below b1 bu b1.size⟩
  .obtain⟨C',e',sz'⟩:=dY (w.heap.size+1) A.toList 0 _ _ N1;unfold PB;rw[e',hA];have sz:C'.size=12:=by rw[sz'];rfl
   have:C'=A:=by
    rw[<-hA];refine ve sz (λj hj=>?_);have q:=aS (w.heap.size+1) A.toList 0 ((w.alloc (bg #[aa az 0,aa az 0,aa az 0,aa az 0,ai bj,ai bj,aa az 0,aa az 0,aa az 0,aa az 0,aa az 0,aa az 0] 74)).alloc (bg #[aa az 0,aa az 0,aa az 0,aa az 0,ai bj,ai bj,aa az 0,aa az 0,aa az 0,aa az 0,aa az 0,aa az 0] 74)) (λi hi=>by rw[bO N1];rw[aB,<-hA,dy]at hi;simp;omega) j (by rw[aB,<-hA,dy];exact hj);rw[Nat.zero_add,bO e']at q;rw[q,<-aW (by rw[aB,<-hA,dy];exact hj),aM,<-hA,kU _ _ _ j hj]
   rw[this]
  .unfold PB;rw[xV,fr.block w.heap.size (by simp;omega) bu];have:=heap_alloc_new w (bg #[aa az 0,aa az 0,aa az 0,aa az 0,ai bj,ai bj,aa az 0,aa az 0,aa az 0,aa az 0,aa az 0,aa az 0] 74);rw[show((w.alloc (bg #[aa az 0,aa az 0,aa az 0,aa az 0,ai bj,ai bj,aa az 0,aa az 0,aa az 0,aa az 0,aa az 0,aa az 0] 74)).alloc (bg #[aa az 0,aa az 0,aa az 0,aa az 0,ai bj,ai bj,aa az 0,aa az 0,aa az 0,aa az 0,aa az 0,aa az 0] 74)).heap[w.heap.size]? =(w.alloc (bg #[aa az 0,aa az 0,aa az 0,aa az 0,ai bj,ai bj,aa az 0,aa az 0,aa az 0,aa az 0,aa az 0,aa az 0] 74)).heap[w.heap.size]? from((aQ _ _).alloc (aL _) (bg #[aa az 0,aa az 0,aa az 0,aa az 0,ai bj,ai bj,aa az 0,aa az 0,aa az 0,aa az 0,aa az 0,aa az 0] 74):Below (w.alloc (bg #[aa az 0,aa az 0,aa az 0,aa az 0,ai bj,ai bj,aa az 0,aa az 0,aa az 0,aa az 0,aa az 0,aa az 0] 74)).heap.size (w.alloc (bg #[aa az 0,aa az 0,aa az 0,aa az 0,ai bj,ai bj,aa az 0,aa az 0,aa az 0,aa az 0,aa az 0,aa az 0] 74)) ((w.alloc (bg #[aa az 0,aa az 0,aa az 0,aa az 0,ai bj,ai bj,aa az 0,aa az 0,aa az 0,aa az 0,aa az 0,aa az 0] 74)).alloc (bg #[aa az 0,aa az 0,aa az 0,aa az 0,ai bj,ai bj,aa az 0,aa az 0,aa az 0,aa az 0,aa az 0,aa az 0] 74))).block w.heap.size (by simp)]
   exact this)
 have H:=hJ (aK h (aK hh (aK hW hr)));rw[hkb];clear h hh hW hr hA hkb b0 N1 b1;go_in
 go_upto_region 2 with(first|(refine wpList_load_mid rfl 74 _ rfl kb (n*12) rfl A.toList _ R0.v Tryz.underlying74 rfl SL.v ?_;rw[Array.toArray_toList])|(refine wpList_store_mid rfl 74 _ _ rfl (w.heap.size+1) 0 A rfl rfl TH.v SZ.v H1.v ?_))
 obtain⟨rb,hrb⟩:=hU (w.heap.size);have HR:=hJ hrb;refine cG (λW=>PB W (w.heap.size+1) (s.A (9+n)) (s.A (29+n)) (s.k.p n)/\PB W w.heap.size 0 0 Pr.no/\Below w.heap.size w W) F0.v ?_;intro W1 hW1;have S1:=hJ hW1;clear hW1 F0 R0 SL SZ TH H1;rw[hrb]at S1|-;clear hrb;have y1:=S1.1.cell 1 bu;have yf:=S1.1.frozen;have y1':W1.cell? ⟨rb+1,1,bj⟩=bh (aa az (s.k.p n).par):=y1;generalize (s.k.p n).par=pv at y1';clear y1;go_upto_region 3 with fail
 have F1:Hid (PB (W1.setCell ⟨rb+1,1,bj⟩ (aa az n)) (rb+1) (s.A (9+n)) (s.A (29+n)) {s.k.p n with par:=(n:Int)}/\PB (W1.setCell ⟨rb+1,1,bj⟩ (aa az n)) rb 0 0 Pr.no/\Below rb w (W1.setCell ⟨rb+1,1,bj⟩ (aa az n))):=hJ (by
  have fr:bE (rb+1) W1 (W1.setCell ⟨rb+1,1,bj⟩ (aa az n)):=(bE.refl _ _).setCell _ _;refine⟨S1.1.C5 _,S1.2.1.same (fr.block rb S1.2.1.lt bu),fr.below S1.2.2 bu (bI S1.2.1.lt)⟩)
 refine cG (λW=>PB W (rb+1) (s.A (9+n)) (s.A (29+n)) {s.k.p n with par:=(n:Int)}/\PB W rb 0 0 Pr.no/\Below rb w W) F1.v ?_;intro W2 hW2;have S2:=hJ hW2;clear hW2 F1 S1 y1' yf;have K2:Hid (bH W2 UE s):=hJ (H.1.below (by rw[HR.v];exact S2.2.2));obtain⟨m9,hm9⟩:=hU (s.A (9+n));obtain⟨b29,hb29⟩:=hU (s.A (29+n));have HM:=hJ (aK hm9 hb29);have LT:Hid (∀i,us s i->s.A i<rb):=hJ (λi hi=>by rw[<-HR.v];exact H.1.lt hi);have y4:W2.cell? ⟨rb+1,4,bj⟩=bh (ai (bh ⟨m9,0,bj⟩)):=by
  rw[S2.1.cell 4 bu,<-hm9];show bh (Kn.ptr _ (s.k.p n).has)=_;rw[H.2.1];rfl
 have y5:W2.cell? ⟨rb+1,5,bj⟩=bh (ai (bh ⟨b29,0,bj⟩)):=by
  rw[S2.1.cell 5 bu,<-hb29];show bh (Kn.ptr _ (s.k.p n).has)=_;rw[H.2.1];rfl
 have FK:=hJ (Kr (s.A (9+n)) (s.A 4) (s.A 5) (s.k.p n).mem s.k.bk W2.drew ⟨K2.drew.me n hn H.2.1,K2.drew.bk,K2.ne (Kn.iD hn H.2.1) bS bu,K2.ne (Kn.iD hn H.2.1) bS bu⟩ (λi hi=>H.2.2.1.le n hn i hi) (λf hf=>by have:=H.2.2.1.refl f hf;omega));have A4:Hid (∀w4,cY w4 W2.drew.heap.size (s.A 4) (s.k.p n).mem->UB w4 (s.A (9+n)) (s.A 4) (s.A 5) (s.k.p n).mem (Mv.eJ (s.k.p n).mem s.k.bk 16)->bE (s.A 4) W2.drew w4->bH w4 UE {s with k:={s.k with bk:=Mv.eJ (s.k.p n).mem s.k.bk 16}}/\KF s w {s with k:={s.k with bk:=Mv.eJ (s.k.p n).mem s.k.bk 16}} w4/\PB w4 (rb+1) m9 b29 {s.k.p n with par:=(n:Int)}/\PB w4 rb 0 0 Pr.no/\rb+1<W2.heap.size/\W2.heap.size<w4.heap.size):=hJ (λw4 u1 u2 f=>by
  have q:=K2.drew.SM u2.bk (iP.left (iP.refl _ _ _) f);have l4:=LT.v 4 bS;refine⟨q.1,(KF.below (by rw[HR.v];exact S2.2.2)).trans ((KF.drew _ _).trans q.2),?_,S2.2.1.same (f.block rb S2.2.1.lt bu),S2.1.lt,u1.lt⟩;have:=S2.1.same (f.block (rb+1) S2.1.lt bu);rw[hm9,hb29]at this;exact this)
 obtain⟨mb,hmb⟩:=hU (W2.heap.size);have HMB:=hJ hmb;have hmd:W2.drew.heap.size=mb:=hmb;rw[hmd,hm9]at FK;rw[hmd,hmb,hm9]at A4;have CC:Hid (∀w4,bH w4 UE {s with k:={s.k with bk:=Mv.eJ (s.k.p n).mem s.k.bk 16}}->Calls prog 145 #[ai (bh ⟨b29,0,bj⟩)] w4 λe w'=>e=bf (ai (bh ⟨w4.heap.size,0,bj⟩))/\CX w' w4.heap.size (Sg.pH (s.k.p n).box)/\Below w4.heap.size w4 w'/\w4.heap.size<w'.heap.size):=hJ (λw4 hk=>by rw[<-hb29];exact IF _ _ _ (hk.bx n hn H.2.1));have FIN:Hid (∀w4 w5,cY w4 mb (s.A 4) (s.k.p n).mem->(bH w4 UE {s with k:={s.k with bk:=Mv.eJ (s.k.p n).mem s.k.bk 16}}/\KF s w {s with k:={s.k with bk:=Mv.eJ (s.k.p n).mem s.k.bk 16}} w4/\PB w4 (rb+1) m9 b29 {s.k.p n with par:=(n:Int)}/\PB w4 rb 0 0 Pr.no/\rb+1<mb/\mb<w4.heap.size)->CX w5 w4.heap.size (Sg.pH (s.k.p n).box)->Below w4.heap.size w4 w5->CO UE s w n rb (rb+1) mb w4.heap.size {s.k with bk:=Mv.eJ (s.k.p n).mem s.k.bk 16} ((w5.setCell ⟨rb+1,4,bj⟩ (ai (bh ⟨mb,0,bj⟩))).setCell ⟨rb+1,5,bj⟩ (ai (bh ⟨w4.heap.size,0,bj⟩)))):=hJ (λw4 w5 u1 a cx bl=>by
  obtain⟨a1,a2,a3,a4,a5,a6⟩:=a;have fr:bE (rb+1) w5 ((w5.setCell ⟨rb+1,4,bj⟩ (ai (bh ⟨mb,0,bj⟩))).setCell ⟨rb+1,5,bj⟩ (ai (bh ⟨w4.heap.size,0,bj⟩))):=((bE.refl _ _).setCell _ _).setCell _ _;have p5:=(a3.same (bl.block _ a3.lt));have nk:¬KB ({s with k:={s.k with bk:=Mv.eJ (s.k.p n).mem s.k.bk 16}}:St) (rb+1):=λ⟨i,hi,e⟩=>by have:=LT.v i hi;have e2:rb+1=s.A i:=e;omega
  refine⟨(a1.below bl).fresh fr nk,(a2.trans (KF.below bl)).fresh fr (by rw[HR.v];omega),?_,(a4.same (bl.block _ a4.lt)).same (fr.block rb (aD a4.lt bl.size) bu),(u1.below bl).same (fr.block mb (aD a6 bl.size) bu),cx.same (fr.block w4.heap.size cx.lt bu),⟨by rw[HR.v];omega,by rw[HR.v];omega,by rw[HR.v];omega,by rw[HR.v];omega⟩,bu,bu,bu,bu,bu,bu⟩;exact((p5.RX (by exact H.2.1) mb).RT (by exact H.2.1) w4.heap.size).box _)
 clear hm9 hb29 hmb hmd S2;go_cut [15]from 16 to 24 (λ_ wc=>∃bb,Hid (CO UE s w n rb (rb+1) mb bb {s.k with bk:=Mv.eJ (s.k.p n).mem s.k.bk 16} wc))
 case first=>
  go_region_with (first|(go_at_call 144;refine FK.mono ?_;rintro e w4 ⟨rfl,u1,u2,f4⟩;have S4:=hJ (aK u1 (A4.v w4 u1 u2 f4));clear u1 u2 f4;have z5:w4.cell? ⟨rb+1,5,bj⟩=bh (ai (bh ⟨b29,0,bj⟩)):=(by rw[S4.2.2.2.1.cell 5 bu];show bh (Kn.ptr _ (s.k.p n).has)=_;rw[H.2.1];rfl))|(go_at_call 145;refine(CC.v _ S4.2.1).mono ?_;rintro e w5 ⟨rfl,cx,bl,l5⟩;have S5:=hJ (aK (FIN.v w4 w5 S4.1 S4.2 cx bl) (S4.2.2.2.1.same (bl.block _ S4.2.2.2.1.lt)));clear cx bl l5;have v4:=S5.2.cell 4 bu;have v5:=S5.2.cell 5 bu;have vf:=S5.2.frozen))
  all_goals
   have F5:Hid (CO UE s w n rb (rb+1) mb w4.heap.size {s.k with bk:=Mv.eJ (s.k.p n).mem s.k.bk 16} ((w5.setCell ⟨rb+1,4,bj⟩ (ai (bh ⟨mb,0,bj⟩))).setCell ⟨rb+1,5,bj⟩ (ai (bh ⟨w4.heap.size,0,bj⟩)))):=hJ S5.1;generalize (w5.setCell ⟨rb+1,4,bj⟩ (ai (bh ⟨mb,0,bj⟩))).setCell ⟨rb+1,5,bj⟩ (ai (bh ⟨w4.heap.size,0,bj⟩))=W6 at F5|-
   first|(go_wp2_with fail;go_meet)|go_meet
   case rel=>exact⟨_,F5⟩
 case rest=>
  obtain⟨bb,S3⟩:=hcut;clear FIN CC A4 FK y4 y5 K2;obtain⟨fd,hfd⟩:=hU ((s.k.p n).fd);have HFD:=hJ hfd;have LD:Hid (∀j,j<(ly fd).size->wc.cell? ⟨rb+1,6+j,bj⟩=(ly fd)[j]?):=hJ (λj hj=>by
   have q:=S3.pb.fds j (by show j<(ly (s.k.p n).fd).size;rw[hfd];exact hj);rw[show(Kn.eQ s.k n).fd=fd from hfd]at q;exact q)
  have hsz:Hid ((prog.info? 72).map (·.size)=bh (ly fd).size):=hJ (by rw[pK];kernel_rfl);have L8:Hid (s.A 8<w.heap.size):=hJ (H.1.lt bS);clear hfd;go_wp2_with (refine iX rfl 72 _ rfl (rb+1) 6 rfl (ly fd) 6 3 LD.v bw hsz.v ?_)
  go_loopw [7,26] (λ_ i wr=>∃(j:Nat),i=aa az j/\j<=6/\Hid (CO UE s w n rb (rb+1) mb bb (Kn.jo {s.k with bk:=Mv.eJ (s.k.p n).mem s.k.bk 16} fd j) wr)) (λ_ i _=>6-(intOf i).toNat)
  case atStart=>exact⟨0,rfl,bu,S3⟩
  case round=>
   clear S3 LD;obtain⟨j,rfl,hj6,S⟩:=hrel;by_cases hlt:j<6
   .have hltI:(j:Int)<6:=bu
    have hix:=wg fd j hlt wr;have SU:Hid (Kn.jo {s.k with bk:=Mv.eJ (s.k.p n).mem s.k.bk 16} fd (j+1)=if fd j= -1 then Kn.jo {s.k with bk:=Mv.eJ (s.k.p n).mem s.k.bk 16} fd j else{Kn.jo {s.k with bk:=Mv.eJ (s.k.p n).mem s.k.bk 16} fd j with fi:=Fx.jB (Kn.jo {s.k with bk:=Mv.eJ (s.k.p n).mem s.k.bk 16} fd j).fi (fd j)}):=hJ rfl;have RL:Hid (∀f,f<24->((Kn.jo {s.k with bk:=Mv.eJ (s.k.p n).mem s.k.bk 16} fd j).fi f).refs<2^60):=hJ (λf hf=>by
     have a:=Kn.Fm {s.k with bk:=Mv.eJ (s.k.p n).mem s.k.bk 16} fd f j;have b:=H.2.2.2 f hf;have c:((Kn.jo {s.k with bk:=Mv.eJ (s.k.p n).mem s.k.bk 16} fd j).fi f).refs<=(s.k.fi f).refs+j:=a;have e1:(2:Nat)^50=1125899906842624:=by decide
     have e2:(2:Nat)^60=1152921504606846976:=by decide
     omega)
    generalize Kn.jo {s.k with bk:=Mv.eJ (s.k.p n).mem s.k.bk 16} fd j=kj at*;obtain⟨z,hz⟩:=hU (fd j);rw[hz]at SU hix;clear hz;by_cases hz1:z= -1
    .subst hz1;rw[aJ rfl]at SU;go_wp2
     go_roundw
     case rel=>exact⟨j+1,by go_num,bu,by rw[SU.v];exact S⟩
     case measure=>simp[intOf];omega
    .rw[aI hz1]at SU;have zB:(z== -1)=false:=by simpa using hz1
     have c8:=S.kk.sY;rw[show({s with k:=kj}:St).A 0=kb from HK.v]at c8;have XS:=hJ (yG (s.A 8) (s.A 6) (s.A 7) z kj.fi wr S.kk.fi RL.v);have c8':wr.cell? ⟨kb,252,bj⟩=bh (ai (bh ⟨s.A 8,0,bj⟩)):=c8;clear c8;obtain⟨a8,ha8⟩:=hU (s.A 8);have HA8:=hJ ha8;rw[ha8]at XS c8';clear ha8;go_wp2_with fail
     refine XS.mono ?_;rintro e w5 ⟨rfl,u5,f5⟩;generalize bG (Fx.dj kj.fi z)=ev;have S5:Hid (CO UE s w n rb (rb+1) mb bb {kj with fi:=Fx.jB kj.fi z} w5):=hJ (by
      rw[<-HA8.v]at u5 f5;have q:=S.kk.Hs u5 f5;exact S.step f5 q.1 q.2 L8.v)
     clear u5 f5 c8';go_wp2
     go_roundw
     case rel=>exact⟨j+1,by go_num,bu,by rw[SU.v];exact S5⟩
     case measure=>simp[intOf];omega
   .obtain rfl:j=6:=bu
    obtain⟨B,hB⟩:=hU (dK mb bb (Kn.eQ s.k n));have HB:=hJ hB;have RG:Hid (wr.rangeAt (rb+1) 0 B.toList):=hJ (by rw[<-hB];exact S.pb.range);have SL:Hid ((prog.info? 74).map (·.size)=bh B.toList.length):=hJ (by rw[<-hB,aB,dy];kernel_rfl);have SZ:Hid ((prog.info? 74).map (·.size)=bh B.size):=hJ (by rw[<-hB,dy];kernel_rfl);have TH:Hid (wr.there rb 0 B.size):=hJ (by rw[<-hB,dy];exact S.rs.there);have H1:Hid (B.all (·.oneCell')=true):=hJ (by rw[<-hB];exact pA _ _ _);have F6:Hid (PB (wr.setCells rb 0 B.toList) rb mb bb (Kn.eQ s.k n)/\bH (wr.setCells rb 0 B.toList) UE {s with k:=Kn.dI s.k n}/\KF s w {s with k:=Kn.dI s.k n} (wr.setCells rb 0 B.toList)/\cY (wr.setCells rb 0 B.toList) mb (s.A 4) (s.k.p n).mem/\CX (wr.setCells rb 0 B.toList) bb (Sg.pH (s.k.p n).box)):=hJ (by
     have fr:bE rb wr (wr.setCells rb 0 B.toList):=bE.setCells _ _ (bE.refl _ _);have e:Kn.jo {s.k with bk:=Mv.eJ (s.k.p n).mem s.k.bk 16} fd 6=Kn.dI s.k n:=by unfold Kn.dI;rw[HFD.v]
     have q:=S.v;rw[e]at q;refine⟨by rw[<-hB];exact S.rs.put _ _ _,q.kk.fresh fr (λ⟨i,hi,e⟩=>?_),q.kf.fresh fr (by have:=q.ge;omega),q.um.same (fr.block _ q.um.lt (by have:=q.ne;omega)),q.ub.same (fr.block _ q.ub.lt (by have:=q.ne;omega))⟩;have a:=q.kf.sub rb ⟨i,hi,e⟩;have g:=q.ge;rcases a with a|a
     .have:=H.1.Tu a;omega
     .have e2:rb=s.A i:=e;have k0:us s i:=by
       have hi2:=hi;obtain⟨T,eT⟩:=Kn.mE {s.k with bk:=Mv.eJ (s.k.p n).mem s.k.bk 16} fd 6;have e3:Kn.dI s.k n={s.k with bk:=Mv.eJ (s.k.p n).mem s.k.bk 16,fi:=T}:=by rw[<-eT];unfold Kn.dI;rw[HFD.v]
       rw[e3]at hi2;exact hi2
      have:=H.1.lt k0;omega)
    have GE:=hJ (aK S.ge S.ne);clear hB S;go_wp2_with (first|(refine wpList_load_mid rfl 74 _ rfl (rb+1) 0 rfl B.toList _ RG.v Tryz.underlying74 rfl SL.v ?_;rw[Array.toArray_toList])|(refine wpList_store_mid rfl 74 _ _ rfl rb 0 B rfl rfl TH.v SZ.v H1.v ?_))
    generalize wr.setCells rb 0 B.toList=WF at F6|-;have g0:=F6.1.cell 0 bu;have g1:=F6.1.cell 1 bu;have g2:=F6.1.cell 2 bu;have g3:=F6.1.cell 3 bu;have g4:=F6.1.cell 4 bu;have g5:=F6.1.cell 5 bu;have g6:=F6.1.cell 6 bu;have g7:=F6.1.cell 7 bu;have g8:=F6.1.cell 8 bu;have g9:=F6.1.cell 9 bu;have g10:=F6.1.cell 10 bu;have g11:=F6.1.cell 11 bu
    (try simp only[Exit.then])
    refine bodyPost_ret (v:=au #[Kn.eW mb bb (Kn.eQ s.k n) 0,Kn.eW mb bb (Kn.eQ s.k n) 1,Kn.eW mb bb (Kn.eQ s.k n) 2,Kn.eW mb bb (Kn.eQ s.k n) 3,Kn.eW mb bb (Kn.eQ s.k n) 4,Kn.eW mb bb (Kn.eQ s.k n) 5,Kn.eW mb bb (Kn.eQ s.k n) 6,Kn.eW mb bb (Kn.eQ s.k n) 7,Kn.eW mb bb (Kn.eQ s.k n) 8,Kn.eW mb bb (Kn.eQ s.k n) 9,Kn.eW mb bb (Kn.eQ s.k n) 10,Kn.eW mb bb (Kn.eQ s.k n) 11]) (by simp[results,Tryz.f69,go_sem,g0,g1,g2,g3,g4,g5,g6,g7,g8,g9,g10,g11]) rfl ?_;exact⟨mb,bb,rfl,F6.2.1,F6.2.2.1,F6.2.2.2.1,F6.2.2.2.2,GE.1.2.2.1,GE.1.2.2.2,GE.2.1⟩

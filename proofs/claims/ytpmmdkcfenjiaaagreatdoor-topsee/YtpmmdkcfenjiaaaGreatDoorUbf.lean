import Derived.Test.YtpmmdkcfenjiaaaGreatDoorUbe
set_option maxRecDepth 100000
set_option maxHeartbeats 20000000
set_option linter.unusedVariables false
set_option linter.unusedSimpArgs false
namespace Go.Proofs.YtpmmdkcfenjiaaaGreatDoor
open Value renaming int->aa,pointer->ai,slice->aj,string->ak,tuple->ao,bool->ar,agg->au
open IntKind renaming i64->az,u64->bd
open Ending renaming returned->bf
open Obj renaming cells->bg
open Option renaming some->bh,none->bj
open Tryz (prog)
open Go.RowKit
open Fx (Fi)
open Tr (Fo Nd)
open Pp (Pi)
open Mo (Wh Mt)
open Mv (Me Bk)
open Kn (Pr Kp St us KB KJ VI EI KH)
theorem Tr.TV{F:Fo}(h:Tr.Ok F)(z:Int)(i:Nat):((Tr.qW F z).getD i ⟨#[]⟩).size<=8:=by
 rw[aF];cases e:(Tr.qW F z)[i]? with
 |none=>exact aC _
 |some s=>
  have m:=bK e;unfold Tr.qW at m;by_cases c:Tr.cD F z 2=0
  .rw[aJ c]at m;obtain⟨n,rfl,n40,_,k2⟩:=Tr.eZ c;simp only[rh,Tr.ta,List.mem_map,List.mem_mergeSort,List.mem_range,hZ]at m;obtain⟨_,⟨_,⟨j,hj,rfl⟩,rfl⟩,rfl⟩:=m;have:=h.nb n j n40 k2 hj;unfold Tr.fM at this;simp only[Bool.and_eq_true,decide_eq_true_eq]at this;exact this.1.1.1.2
  .rw[aI c]at m;cases m
section
variable (UE N:Nat)(d:Nat->Nat)(s:St)(w:bD)
theorem GP(z:Int)(p:bU)(h:bH w UE s)(hj:KJ (λ_=>False) N s.k):
  Calls prog 133 #[ai (bh ⟨s.A 0,0,bj⟩),aa az z,ak p] w λe w'=>∃u E L,e=bf (ao #[u,bG E])/\(L.length<=8/\∀i,(L.getD i ⟨#[]⟩).size<=8)/\(∀c,c<w.heap.size->TL c L u w')/\Below w.heap.size w w':=by
 have WK:=hJ (tO UE N s w z p h hj);have LI:Hid (∀V (x:Int),Below w.heap.size w V->Calls prog 213 #[ai (bh ⟨s.A 6,0,bj⟩),aa az x] V λe w'=>∃u E L,e=bf (ao #[u,bG E])/\(L.length<=8/\∀i,(L.getD i ⟨#[]⟩).size<=8)/\(∀c,c<w.heap.size->TL c L u w')/\Below w.heap.size w w'):=hJ (λV x b=>(J8 (s.A 6) x s.k.fo V (h.below b).fo hj.ok.sz).mono (by rintro _ w' ⟨u,rfl,o⟩;exact⟨u,_,_,rfl,⟨Tr.Mp hj.ok.sz x,Tr.TV hj.ok x⟩,λc hc=>o.tl (aD hc b.size),b.trans (o.cM.mono b.size)⟩));have C6:Hid (∀V,Below w.heap.size w V->V.cell? ⟨s.A 0,250,bj⟩=bh (ai (bh ⟨s.A 6,0,bj⟩))):=hJ (λV b=>(h.below b).vD);generalize s.A 0=kb at*;generalize s.A 6=a6 at*;go_in
 go_wp2_with fail
 refine WK.mono ?_;rintro e w1 ⟨x,E,rfl,b1⟩;by_cases E0:E=0
 .subst E0;rw[bB];have c6:=C6.v _ b1;go_wp2_with fail
  refine(LI.v _ _ b1).mono ?_;rintro e w2 ⟨u,E,L,rfl,S2⟩;have S2:=hJ S2;go_wp2
  go_ret2
  exact⟨u,E,L,rfl,S2.v⟩
 .have E1:=hJ (bC E0);rw[bC E0];go_wp2
  go_ret2
  exact⟨_,E,[],Oo E1.v,⟨by simp,λ_=>aC _⟩,λ_ _=>⟨bj,0,rfl,λc=>by cases c⟩,b1⟩
theorem Ji(z:Int)(p:bU)(h:bH w UE s)(hj:KJ (λ_=>False) N s.k):
  Calls prog 134 #[ai (bh ⟨s.A 0,0,bj⟩),aa az z,ak p] w λe w'=>∃(o1 o2 o3 o4 E:Int),e=bf (ao #[au #[aa az o1,aa az o2,aa az o3,aa az o4],bG E])/\Below w.heap.size w w':=by
 have B0:=hJ ((aQ w.heap.size w).alloc (aL _) (bg #[aa az 0,aa az 0,aa az 0,aa az 0] 156));have WK:=hJ (tO UE N s _ z p (h.below B0.v) hj);have OF:Hid (∀V (x:Int),Below w.heap.size w V->Calls prog 214 #[ai (bh ⟨s.A 6,0,bj⟩),aa az x] V λe w'=>∃(o1 o2 o3 o4 E:Int),e=bf (ao #[au #[aa az o1,aa az o2,aa az o3,aa az o4],bG E])/\Below V.heap.size V w'):=hJ (λV x b=>(pB (s.A 6) x s.k.fo V (h.below b).fo).mono (by
  rintro _ w' ⟨rfl,o⟩;obtain⟨o1,o2,o3,o4,e,_⟩:=Mo.JI s.k.fo x;exact⟨o1,o2,o3,o4,_,by rw[e],o⟩))
 have C6:Hid (∀V,Below w.heap.size w V->V.cell? ⟨s.A 0,250,bj⟩=bh (ai (bh ⟨s.A 6,0,bj⟩))):=hJ (λV b=>(h.below b).vD);generalize s.A 0=kb at*;generalize s.A 6=a6 at*;go_in
 go_wp2_with fail
 refine WK.mono ?_;rintro e w1 ⟨x,E,rfl,b1⟩;obtain⟨hc,hf⟩:=xv b1;have hz:w.heap.size<w1.heap.size:=by have:=b1.size;simp at this;omega
 have b1:=B0.trans (b1.mono B0.size);by_cases E0:E=0
 .subst E0;rw[bB];have c6:=C6.v _ b1;go_wp2_with fail
  refine(OF.v _ _ b1).mono ?_;rintro e w2 ⟨o1,o2,o3,o4,E,rfl,b2⟩;obtain⟨hc2,hf2⟩:=xv b2;have b2:=b1.trans (b2.mono b1.size);go_wp2_with fail
  exact bodyPost_ret (v:=ao #[au #[aa az o1,aa az o2,aa az o3,aa az o4],bG E]) (by simp[results,Tryz.results134,go_sem,hc2,hc,hz]) rfl ⟨o1,o2,o3,o4,E,rfl,((((b2.setCell (aL _) _).setCell (aL _) _).setCell (aL _) _).setCell (aL _) _)⟩
 .have E1:=hJ (bC E0);rw[bC E0];go_wp2_with fail
  exact bodyPost_ret (v:=ao #[au #[aa az 0,aa az 0,aa az 0,aa az 0],bG E]) (by simp[results,Tryz.results134,go_sem,hc,E1.v]) rfl ⟨0,0,0,0,E,rfl,((((b1.setCell (aL _) _).setCell (aL _) _).setCell (aL _) _).setCell (aL _) _)⟩
end
section
variable (UE N:Nat)(d:Nat->Nat)(s:St)(w:bD)
theorem Lq(x:gD)(h:bH w UE s)(hh:KH N d s.k)(hN:N<880)(hb:UE<=w.heap.size)(hs:x.s.size<2^59):
  Calls prog 56 #[ai (bh ⟨s.A 0,0,bj⟩),au #[ak x.kind,aa az x.a,aa az x.b,aa az x.c,aa bd x.key,ar x.on,ak x.s,ak x.t]] w λe w'=>∃(n m E:Int) (t:bU) (s':St),e=bf (au #[aa az n,aa az m,aa az E,ak t])/\Kn.AZ s.k x s'.k/\bH w' UE s'/\KF s w s' w':=by
 have H:=hJ (aK h (aK hh (aK hN (aK hb hs))));obtain⟨kb,hk⟩:=hU (s.A 0);have HK:=hJ hk;rw[hk];clear h hh hN hb hk hs;go_in
 go_upto_block 0 with fail
 refine cG (λW=>AW UE s w (w.heap.size+1) s 0 0 ⟨#[]⟩ W/\zD W w.heap.size x) (AW.start H.1 x) ?_;rintro W ⟨aw,ab⟩;have S:=hJ (aK aw ab);have q1:=ab.at 1 bu;have q2:=ab.at 2 bu;have q3:=ab.at 3 bu;have q5:=ab.at 5 bu;have q6:=ab.at 6 bu;have q7:=ab.at 7 bu;have y5:=aw.a5;simp only[gD.cell]at q1 q2 q3 q5 q6 q7;clear aw ab;go_cut [6]from 7 to 222 (λer wc=>∃(E n m:Int) (t:bU) (s1:St),er=bG E/\Hid (Kn.AZ s.k x s1.k/\AW UE s w (w.heap.size+1) s1 n m t wc))
 case first=>
  by_cases t0:(x.kind.toList==[111,112,101,110])=true
  .as_aux_lemma=>
   have CT:=hJ (λu=>Jj UE N s W x.a x.s x.on u S.1.kk H.2.1.ki.vi.kj);simp only[HK.v]at CT;go_wp2_with fail
   refine(CT.v _).mono ?_;rintro e w5 ⟨v,s',rfl,⟨y,E,rfl,r5⟩,k5,f5⟩;have S5:=hJ (aK r5 (S.1.step (s2:=s') k5 f5));have y0:=S5.2.a5.at 0 _ rfl;have fz:=cv S5.2.a5;clear r5 k5 f5 CT q1 q2 q3 q5 q6 q7 y5;go_wp2
   go_meet
   case rel=>exact⟨_,_,_,_,_,rfl, .inl (⟨_,y,E,rfl,S5.1⟩),S5.2.jT _⟩
  have t0:(x.kind.toList==[111,112,101,110])=false:=by simpa using t0
  by_cases t1:(x.kind.toList==[99,108,111,115,101])=true
  .as_aux_lemma=>
   have CT:=hJ (DI UE s W N x.a x.b S.1.kk H.2.1.ki.vi.kj (by have:=H.2.2.1;omega));rw[HK.v]at CT;go_wp2_with fail
   refine CT.mono ?_;rintro e w5 ⟨rfl,k5,f5⟩;have S5:=hJ (aK trivial (S.1.step (s2:={s with k:=Kn.pd s.k x.a x.b}) k5 f5));clear k5 f5 CT q1 q2 q3 q5 q6 q7 y5;go_wp2
   go_meet
   case rel=>exact⟨_,_,_,_,_,rfl, .inr (.inl (rfl)),S5.2⟩
  have t1:(x.kind.toList==[99,108,111,115,101])=false:=by simpa using t1
  by_cases t2:(x.kind.toList==[100,117,112])=true
  .as_aux_lemma=>
   have CT:=hJ (L4 UE s W x.a x.b S.1.kk (λn hn=>by have:=H.2.1.ki.vi.kj.rf n hn;have:=H.2.2.1;have e1:(2:Nat)^60=1152921504606846976:=bA;omega));rw[HK.v]at CT;go_wp2_with fail
   refine CT.mono ?_;rintro e w5 ⟨v,s',rfl,⟨y,E,rfl,r5⟩,k5,f5⟩;have S5:=hJ (aK r5 (S.1.step (s2:=s') k5 f5));have y0:=S5.2.a5.at 0 _ rfl;have fz:=cv S5.2.a5;clear r5 k5 f5 CT q1 q2 q3 q5 q6 q7 y5;go_wp2
   go_meet
   case rel=>exact⟨_,_,_,_,_,rfl, .inr (.inr (.inl (⟨_,y,E,rfl,S5.1⟩))),S5.2.jT _⟩
  have t2:(x.kind.toList==[100,117,112])=false:=by simpa using t2
  by_cases t3:(x.kind.toList==[112,105,112,101])=true
  .as_aux_lemma=>
   have CT:=hJ (GU UE s W x.a S.1.kk);rw[HK.v]at CT;go_wp2_with fail
   refine CT.mono ?_;rintro e w5 ⟨A,C,E,k',rfl,r5,k5,f5⟩;have S5:=hJ (aK r5 (S.1.step (s2:={s with k:=k'}) k5 f5));have y0:=S5.2.a5.at 0 _ rfl;have y1:=S5.2.a5.at 1 _ rfl;have fz:=cv S5.2.a5;clear r5 k5 f5 CT q1 q2 q3 q5 q6 q7 y5;go_wp2
   go_meet
   case rel=>exact⟨_,_,_,_,_,rfl, .inr (.inr (.inr (.inl (⟨A,C,E,S5.1⟩)))),(S5.2.jT _).CZ _⟩
  have t3:(x.kind.toList==[112,105,112,101])=false:=by simpa using t3
  by_cases t4:(x.kind.toList==[114,101,97,100])=true
  .as_aux_lemma=>
   have CT:=hJ (GV UE s W x.a x.b x.c S.1.kk H.2.1.ki.vi.kj.ok.fz H.2.1.ki.vi.kj.wx.pz);rw[HK.v]at CT;go_wp2_with fail
   refine CT.mono ?_;rintro e w5 ⟨rfl,k5,f5⟩;have S5:=hJ (aK trivial (S.1.step (s2:={s with k:=Kn.pf s.k x.a x.b x.c}) k5 f5));have y3:=S5.2.a5.at 3 _ rfl;have fz:=cv S5.2.a5;clear k5 f5 CT q1 q2 q3 q5 q6 q7 y5;go_wp2
   go_meet
   case rel=>exact⟨_,_,_,_,_,rfl, .inr (.inr (.inr (.inr (.inl (rfl))))),S5.2.lJ _⟩
  have t4:(x.kind.toList==[114,101,97,100])=false:=by simpa using t4
  by_cases t5:(x.kind.toList==[119,114,105,116,101])=true
  .as_aux_lemma=>
   have CT:=hJ (DL UE N d s W (by have:=H.2.2.1;omega) x.a x.b x.s S.1.kk H.2.2.2.2 H.2.1.ki.vi.kj.wx.pz (λ_=>(H.2.1.Dy _ _).ki));rw[HK.v]at CT;go_wp2_with fail
   refine CT.mono ?_;rintro e w5 ⟨A,E,k',rfl,r5,k5,f5⟩;have S5:=hJ (aK r5 (S.1.step (s2:={s with k:=k'}) k5 f5));have y0:=S5.2.a5.at 0 _ rfl;have fz:=cv S5.2.a5;clear r5 k5 f5 CT q1 q2 q3 q5 q6 q7 y5;go_wp2
   go_meet
   case rel=>exact⟨_,_,_,_,_,rfl, .inr (.inr (.inr (.inr (.inr (.inl (⟨A,E,S5.1⟩)))))),S5.2.jT _⟩
  have t5:(x.kind.toList==[119,114,105,116,101])=false:=by simpa using t5
  by_cases t6:(x.kind.toList==[115,101,101,107])=true
  .as_aux_lemma=>
   have CT:=hJ (Jl UE s W x.a x.b x.c S.1.kk);rw[HK.v]at CT;go_wp2_with fail
   refine CT.mono ?_;rintro e w5 ⟨v,s',rfl,⟨E,rfl,r5⟩,k5,f5⟩;have S5:=hJ (aK r5 (S.1.step (s2:=s') k5 f5));clear r5 k5 f5 CT q1 q2 q3 q5 q6 q7 y5;go_wp2
   go_meet
   case rel=>exact⟨_,_,_,_,_,rfl,S5.1.elim (λe=> .inr (.inr (.inr (.inr (.inr (.inr (.inr (.inr (.inr (.inr (e))))))))))) (λe=> .inr (.inr (.inr (.inr (.inr (.inr (.inl (e)))))))),S5.2⟩
  have t6:(x.kind.toList==[115,101,101,107])=false:=by simpa using t6
  by_cases t7:(x.kind.toList==[109,107,100,105,114])=true
  .as_aux_lemma=>
   have CT:=hJ (GO UE N s W x.a x.s S.1.kk H.2.1.ki.vi.kj);rw[HK.v]at CT;go_wp2_with fail
   refine CT.mono ?_;rintro e w5 ⟨v,s',rfl,⟨E,G,rfl,r5⟩,k5,f5⟩;have S5:=hJ (aK r5 (S.1.step (s2:=s') k5 f5));clear r5 k5 f5 CT q1 q2 q3 q5 q6 q7 y5;go_wp2
   go_meet
   case rel=>exact⟨_,_,_,_,_,rfl, .inr (.inr (.inr (.inr (.inr (.inr (.inr (.inl (⟨_,E,G,rfl,S5.1⟩)))))))),S5.2⟩
  have t7:(x.kind.toList==[109,107,100,105,114])=false:=by simpa using t7
  by_cases t8:(x.kind.toList==[114,101,109,111,118,101])=true
  .as_aux_lemma=>
   have CT:=hJ (Md UE N s W x.a x.s S.1.kk H.2.1.ki.vi.kj);rw[HK.v]at CT;go_wp2_with fail
   refine CT.mono ?_;rintro e w5 ⟨v,s',rfl,⟨E,G,rfl,r5⟩,k5,f5⟩;have S5:=hJ (aK r5 (S.1.step (s2:=s') k5 f5));clear r5 k5 f5 CT q1 q2 q3 q5 q6 q7 y5;go_wp2
   go_meet
   case rel=>exact⟨_,_,_,_,_,rfl, .inr (.inr (.inr (.inr (.inr (.inr (.inr (.inl (⟨_,E,G,rfl,S5.1⟩)))))))),S5.2⟩
  have t8:(x.kind.toList==[114,101,109,111,118,101])=false:=by simpa using t8
  by_cases t9:(x.kind.toList==[109,111,118,101])=true
  .as_aux_lemma=>
   have CT:=hJ (Mb UE N s W x.a x.s x.t S.1.kk H.2.1.ki.vi.kj);rw[HK.v]at CT;go_wp2_with fail
   refine CT.mono ?_;rintro e w5 ⟨v,s',rfl,⟨E,G,rfl,r5⟩,k5,f5⟩;have S5:=hJ (aK r5 (S.1.step (s2:=s') k5 f5));clear r5 k5 f5 CT q1 q2 q3 q5 q6 q7 y5;go_wp2
   go_meet
   case rel=>exact⟨_,_,_,_,_,rfl, .inr (.inr (.inr (.inr (.inr (.inr (.inr (.inl (⟨_,E,G,rfl,S5.1⟩)))))))),S5.2⟩
  have t9:(x.kind.toList==[109,111,118,101])=false:=by simpa using t9
  by_cases t10:(x.kind.toList==[108,105,110,107])=true
  .as_aux_lemma=>
   have CT:=hJ (L5 UE N s W x.a x.s x.t S.1.kk H.2.1.ki.vi.kj);rw[HK.v]at CT;go_wp2_with fail
   refine CT.mono ?_;rintro e w5 ⟨v,s',rfl,⟨E,G,rfl,r5⟩,k5,f5⟩;have S5:=hJ (aK r5 (S.1.step (s2:=s') k5 f5));clear r5 k5 f5 CT q1 q2 q3 q5 q6 q7 y5;go_wp2
   go_meet
   case rel=>exact⟨_,_,_,_,_,rfl, .inr (.inr (.inr (.inr (.inr (.inr (.inr (.inl (⟨_,E,G,rfl,S5.1⟩)))))))),S5.2⟩
  have t10:(x.kind.toList==[108,105,110,107])=false:=by simpa using t10
  by_cases t11:(x.kind.toList==[98,105,110,100])=true
  .as_aux_lemma=>
   have CT:=hJ (Jb UE N s W x.a x.s x.t S.1.kk (aH H.2.2.2.1 S.1.kf.gP.size) H.2.1.ki.vi.kj);rw[HK.v]at CT;go_wp2_with fail
   refine CT.mono ?_;rintro e w5 ⟨v,s',rfl,⟨E,rfl,r5⟩,k5,f5⟩;have S5:=hJ (aK r5 (S.1.step (s2:=s') k5 f5));clear r5 k5 f5 CT q1 q2 q3 q5 q6 q7 y5;go_wp2
   go_meet
   case rel=>exact⟨_,_,_,_,_,rfl, .inr (.inr (.inr (.inr (.inr (.inr (.inr (.inr (.inl (⟨_,E,rfl,S5.1⟩))))))))),S5.2⟩
  have t11:(x.kind.toList==[98,105,110,100])=false:=by simpa using t11
  by_cases t12:(x.kind.toList==[117,110,98,105,110,100])=true
  .as_aux_lemma=>
   have CT:=hJ (DQ UE N s W x.a x.s S.1.kk H.2.1.ki.vi.kj);rw[HK.v]at CT;go_wp2_with fail
   refine CT.mono ?_;rintro e w5 ⟨v,s',rfl,⟨E,rfl,r5⟩,k5,f5⟩;have S5:=hJ (aK r5 (S.1.step (s2:=s') k5 f5));clear r5 k5 f5 CT q1 q2 q3 q5 q6 q7 y5;go_wp2
   go_meet
   case rel=>exact⟨_,_,_,_,_,rfl, .inr (.inr (.inr (.inr (.inr (.inr (.inr (.inr (.inl (⟨_,E,rfl,S5.1⟩))))))))),S5.2⟩
  have t12:(x.kind.toList==[117,110,98,105,110,100])=false:=by simpa using t12
  by_cases t13:(x.kind.toList==[110,97,109,101,115])=true
  .as_aux_lemma=>
   have CT:=hJ (GP UE N s W x.a x.s S.1.kk H.2.1.ki.vi.kj);rw[HK.v]at CT;go_wp2_with fail
   refine CT.mono ?_;rintro e w5 ⟨u,E,L,rfl,⟨l8,n8⟩,tl,b5⟩;have N8:=hJ n8;clear n8;obtain⟨ua,uc,rfl,ub⟩:=tl (w.heap.size+1+1) S.1.a5.lt;have S5:Hid (AW UE s w (w.heap.size+1) s 0 0 ⟨#[]⟩ w5/\zD w5 w.heap.size x/\TL (w.heap.size+1+1) L (aj ua L.length uc) w5):=hJ ⟨S.1.below b5,(b5.block _ (aX.1 S.2).1).trans S.2,ua,uc,rfl,ub⟩;clear tl ub b5 CT q1 q2 q3 q5 q6 q7 y5 S;obtain⟨c,hc⟩:=hU (w.heap.size+1);have HC:=hJ hc;rw[hc]at S5|-;obtain⟨ba,hba⟩:=hU (w.heap.size);have HB:Hid (w.heap.size=ba/\c=ba+1):=hJ ⟨hba,by rw[<-hba,hc]⟩;rw[hba]at S5|-;clear hc hba;go_wp2_with fail
   go_loopw [9] (λi wr=>∃(j:Nat) (t:bU),i=aa az j/\j<=L.length/\Hid (AW UE s w c s 0 0 t wr/\zD wr ba x/\TL (c+1) L (aj ua L.length uc) wr/\t.size<=9*j)) (λi _=>L.length-(intOf i).toNat)
   case atStart=>exact⟨0,_,rfl,aC _,S5.1,S5.2.1,S5.2.2,aC _⟩
   case round=>
    clear S5;obtain⟨j,t,rfl,hj,S⟩:=hrel;by_cases hlt:j<L.length
    .have hltI:(j:Int)<(L.length:Int):=bu
     obtain⟨a2,c2,e2,tt⟩:=S.2.2.1;cases e2;obtain⟨g,rfl,gb,gl,gc⟩:=tt bu;have y3:=S.1.a5.at 3 _ rfl;have fz:=cv S.1.a5;have c1:=gc j hlt;have NX:Hid (∀z,AW UE s w c s 0 0 z ((wr.setCell ⟨c+1,3,bj⟩ (ak z)).drew)/\zD ((wr.setCell ⟨c+1,3,bj⟩ (ak z)).drew) ba x/\TL (c+1) L (aj (bh ⟨g,0,bj⟩) L.length uc) ((wr.setCell ⟨c+1,3,bj⟩ (ak z)).drew)):=hJ (λz=>⟨(S.1.lJ z).below ⟨rfl,rfl,rfl,aL _,λ_ _=>rfl⟩,(dJ _ _ _ _ (by have:=HB.2;omega)).trans S.2.1,S.2.2.1.lN (((bE.refl _ _).setCell _ _).drew)⟩);have z1:=S.2.2.2;have z2:=N8.v j;generalize L.getD j ⟨#[]⟩=nm at*;have z3:¬9223372036854775807<t.size+nm.size:=bu
     have z4:¬9223372036854775807<t.size+nm.size+1:=bu
     have Z:=hJ (aK z1 z2);clear gc tt z1 z2;go_wp2_with fail
     go_region
     go_wp2
     go_roundw
     case rel=>exact⟨j+1,_,by go_num,bu,(NX.v _).1,(NX.v _).2.1,(NX.v _).2.2,by have:=Z.v;simp only[ByteArray.size_append];show _+1<=_;omega⟩
     case measure=>simp[intOf];omega
    .have hltI:¬(j:Int)<(L.length:Int):=bu
     have CT:=hJ (Ji UE N s wr x.a x.s S.1.kk H.2.1.ki.vi.kj);rw[HK.v]at CT;have q1:=S.2.1.at 1 bu;have q6:=S.2.1.at 6 bu;simp only[gD.cell]at q1 q6;go_wp2_with fail
     refine CT.mono ?_;rintro e w6 ⟨o1,o2,o3,o4,E2,rfl,b6⟩;have S6:Hid (AW UE s w c s 0 0 t w6):=hJ (S.1.below b6);clear b6 q1 q6 S CT;generalize bG E2=ev2;have y0:=S6.a5.at 0 _ rfl;have fz:=cv S6.a5;have lt6:=S6.a5.lt;go_wp2_with fail
     have e1:=HB.1;have e2:=HC.v;subst e1;subst e2;go_meet
     case rel=>exact⟨_,_,_,_,s,rfl, .inr (.inr (.inr (.inr (.inr (.inr (.inr (.inr (.inr (.inr (rfl)))))))))),(S6.jT _).below ((aQ _ _).alloc (aL _) _)⟩
  have t13:(x.kind.toList==[110,97,109,101,115])=false:=by simpa using t13
  by_cases t14:(x.kind.toList==[112,108,97,110,116])=true
  .as_aux_lemma=>
   have CT:=hJ (GZ UE N s W S.1.kk H.2.1.ki.vi.kj);rw[HK.v]at CT;go_wp2_with fail
   refine CT.mono ?_;rintro e w5 ⟨v,s',rfl,⟨T,E,G,rfl,r5⟩,k5,f5⟩;have S5:=hJ (aK r5 (S.1.step (s2:=s') k5 f5));have y0:=S5.2.a5.at 0 _ rfl;have fz:=cv S5.2.a5;clear r5 k5 f5 CT q1 q2 q3 q5 q6 q7 y5;go_wp2
   go_meet
   case rel=>exact⟨_,_,_,_,_,rfl, .inr (.inr (.inr (.inr (.inr (.inr (.inr (.inr (.inr (.inl (⟨T,E,G,S5.1⟩)))))))))),S5.2.jT _⟩
  have t14:(x.kind.toList==[112,108,97,110,116])=false:=by simpa using t14
  by_cases t15:(x.kind.toList==[112,105,118,111,116])=true
  .as_aux_lemma=>
   have CT:=hJ (GY UE N s W x.a x.b S.1.kk H.2.1.ki.vi.kj);rw[HK.v]at CT;go_wp2_with fail
   refine CT.mono ?_;rintro e w5 ⟨v,s',rfl,⟨E,rfl,r5⟩,k5,f5⟩;have S5:=hJ (aK r5 (S.1.step (s2:=s') k5 f5));clear r5 k5 f5 CT q1 q2 q3 q5 q6 q7 y5;go_wp2
   go_meet
   case rel=>exact⟨_,_,_,_,_,rfl, .inr (.inr (.inr (.inr (.inr (.inr (.inr (.inr (.inl (⟨_,E,rfl,S5.1⟩))))))))),S5.2⟩
  have t15:(x.kind.toList==[112,105,118,111,116])=false:=by simpa using t15
  go_wp2
  go_meet
  case rel=>exact⟨0,_,_,_,s,bB.symm, .inr (.inr (.inr (.inr (.inr (.inr (.inr (.inr (.inr (.inr (rfl)))))))))),S.1⟩
 case rest=>
  clear q1 q2 q3 q5 q6 q7 y5 S;obtain⟨E,n,m,t,s1,rfl,T⟩:=hcut;have NB:=hJ (n7 E wc);go_wp2_with fail
  refine cr NB.v ?_;obtain⟨c,hc⟩:=hU (w.heap.size+1);rw[hc]at T|-;have y0:=T.2.a5.at 0 _ rfl;have y1:=T.2.a5.at 1 _ rfl;have y2:=T.2.a5.at 2 _ rfl;have y3:=T.2.a5.at 3 _ rfl;have z0:=T.2.a4.at 0 _ rfl;have z1:=T.2.a4.at 1 _ rfl;have z2:=T.2.a4.at 2 _ rfl;have z3:=T.2.a4.at 3 _ rfl;have f5:=cv T.2.a5;have f4:=cv T.2.a4;have FI:=hJ (T.2.fin E);clear hc;go_wp2_with fail
  exact bodyPost_ret (v:=au #[aa az n,aa az m,aa az E,ak t]) (by simp[results,Tryz.results56,go_sem,z0,z1,z2,z3]) rfl ⟨n,m,E,t,s1,rfl,T.1,FI.v⟩
end
section
variable (UE N:Nat)(d:Nat->Nat)(s:St)(w:bD)
theorem OJ(x:gD)(h:bH w UE s)(hh:KH N d s.k)(hN:N<880)(hb:UE<=w.heap.size)(hs:x.s.size<2^59):
  Calls prog 12 #[ai (bh ⟨s.A 0,0,bj⟩),au #[ak x.kind,aa az x.a,aa az x.b,aa az x.c,aa bd x.key,ar x.on,ak x.s,ak x.t]] w λe w'=>∃(n m E:Int) (t:bU) (s':St),e=bf (au #[aa az n,aa az m,aa az E,ak t])/\(Kn.vQ N s.k x n E s'.k\/Kn.NK x/\Kn.AZ s.k x s'.k)/\bH w' UE s'/\KF s w s' w':=by
 have H:=hJ (aK h (aK hh (aK hN (aK hb hs))));obtain⟨kb,hk⟩:=hU (s.A 0);have HK:=hJ hk;rw[hk];go_in
 go_upto_block 0 with fail
 refine cG (λW=>AW UE s w (w.heap.size+1) s 0 0 ⟨#[]⟩ W/\zD W w.heap.size x) (AW.start H.1 x) ?_;rintro W ⟨aw,ab⟩;have S:=hJ (aK aw ab);have q1:=ab.at 1 bu;have q2:=ab.at 2 bu;have q3:=ab.at 3 bu;have q5:=ab.at 5 bu;have q0:=ab.at 0 bu;have q4:=ab.at 4 bu;have q6:=ab.at 6 bu;have q7:=ab.at 7 bu;have y5:=aw.a5;simp only[gD.cell]at q0 q1 q2 q3 q4 q5 q6 q7;have GE:Hid (w.heap.size+1=w.heap.size+1):=hJ rfl;go_cut [6]from 7 to 218 (λer wc=>∃(E n m:Int) (s1:St),er=bG E/\Hid (Kn.vQ N s.k x n E s1.k/\AW UE s w (w.heap.size+1) s1 n m ⟨#[]⟩ wc))
 case first=>
  by_cases t0:(x.kind.toList==[102,111,114,107])=true
  .as_aux_lemma=>
   have CT:=hJ (Jd UE N d s W (by have:=H.2.2.1;omega) x.a x.on S.1.kk (aH H.2.2.2.1 S.1.kf.gP.size) H.2.1.ki.vi);rw[HK.v]at CT;go_wp2_with fail
   refine CT.mono ?_;rintro e w5 ⟨p,E,s',rfl,r5,k5,f5⟩;have S5:=hJ (aK r5 (S.1.step (s2:=s') k5 f5));have y0:=S5.2.a5.at 0 _ rfl;have fz:=cv S5.2.a5;go_wp2
   go_meet
   case rel=>exact⟨_,_,_,_,rfl, .inl ⟨t0,p,rfl,S5.1⟩,S5.2.jT _⟩
  have t0:(x.kind.toList==[102,111,114,107])=false:=by simpa using t0
  by_cases t1:(x.kind.toList==[101,120,105,116])=true
  .as_aux_lemma=>
   have CT:=hJ (Jc UE N d s W (by have:=H.2.2.1;omega) x.a x.b S.1.kk H.2.1.ki);rw[HK.v]at CT;go_wp2_with fail
   refine CT.mono ?_;rintro e w5 ⟨k',rfl,r5,k5,f5⟩;have S5:=hJ (aK r5 (S.1.step (s2:={s with k:=k'}) k5 f5));go_wp2
   go_meet
   case rel=>exact⟨_,_,_,_,rfl, .ot (.of t1 rfl) (.inl ⟨t1,S5.1⟩),S5.2⟩
  have t1:(x.kind.toList==[101,120,105,116])=false:=by simpa using t1
  by_cases t2:(x.kind.toList==[119,97,105,116])=true
  .as_aux_lemma=>
   have CT:=hJ (Jp UE N d s W (by have:=H.2.2.1;omega) x.a S.1.kk H.2.1.ki.vi H.2.1.p0);rw[HK.v]at CT;go_wp2_with fail
   refine CT.mono ?_;rintro e w5 ⟨p,c,E,k',rfl,r5,k5,f5⟩;have S5:=hJ (aK r5 (S.1.step (s2:={s with k:=k'}) k5 f5));have y0:=S5.2.a5.at 0 _ rfl;have y1:=S5.2.a5.at 1 _ rfl;have l5:=S5.2.a5.lt;have fz:=cv S5.2.a5;go_wp2
   go_meet
   case rel=>exact⟨_,_,_,_,rfl, .ot (.of t2 rfl) (.inr (.inl ⟨p,c,E,S5.1⟩)),((S5.2.jT _).CZ _).below ((aQ _ _).alloc (aL _) _)⟩
  have t2:(x.kind.toList==[119,97,105,116])=false:=by simpa using t2
  by_cases t3:(x.kind.toList==[115,105,103,110,97,108])=true
  .as_aux_lemma=>
   have CT:=hJ (Cb UE N d s W (by have:=H.2.2.1;omega) x.a x.b x.c S.1.kk H.2.1.ki (λa b=>H.2.1.ki.vi.RQ a b));rw[HK.v]at CT;go_wp2_with fail
   refine CT.mono ?_;rintro e w5 ⟨k',rfl,r5,k5,f5⟩;have S5:=hJ (aK r5 (S.1.step (s2:={s with k:=k'}) k5 f5));go_wp2
   go_meet
   case rel=>exact⟨_,_,_,_,rfl, .ot (.of t3 rfl) (.inr (.inr (.inl S5.1))),S5.2⟩
  have t3:(x.kind.toList==[115,105,103,110,97,108])=false:=by simpa using t3
  by_cases t4:(x.kind.toList==[104,111,108,100])=true
  .as_aux_lemma=>
   have CT:=hJ (GS UE N d s W (by have:=H.2.2.1;omega) x.a x.b x.on S.1.kk H.2.1.ki);rw[HK.v]at CT;go_wp2_with fail
   refine CT.mono ?_;rintro e w5 ⟨E,k',rfl,r5,k5,f5⟩;have S5:=hJ (aK r5 (S.1.step (s2:={s with k:=k'}) k5 f5));go_wp2
   go_meet
   case rel=>exact⟨_,_,_,_,rfl, .ot (.of t4 rfl) (.inr (.inr (.inr (.inl ⟨E,S5.1⟩)))),S5.2⟩
  have t4:(x.kind.toList==[104,111,108,100])=false:=by simpa using t4
  by_cases t5:(x.kind.toList==[104,111,119])=true
  .as_aux_lemma=>
   have CT:=hJ (Jh UE N d s W (by have:=H.2.2.1;omega) x.a x.b x.c S.1.kk H.2.1.ki);rw[HK.v]at CT;go_wp2_with fail
   refine CT.mono ?_;rintro e w5 ⟨E,k',rfl,r5,k5,f5⟩;have S5:=hJ (aK r5 (S.1.step (s2:={s with k:=k'}) k5 f5));go_wp2
   go_meet
   case rel=>exact⟨_,_,_,_,rfl, .ot (.of t5 rfl) (.inr (.inr (.inr (.inr (.inl ⟨E,S5.1⟩))))),S5.2⟩
  have t5:(x.kind.toList==[104,111,119])=false:=by simpa using t5
  by_cases t6:(x.kind.toList==[116,97,107,101])=true
  .as_aux_lemma=>
   have CT:=hJ (GW UE s W x.a S.1.kk (λn hn l=>H.2.1.ki.has hn l));rw[HK.v]at CT;go_wp2_with fail
   refine CT.mono ?_;rintro e w5 ⟨m,E,k',rfl,r5,k5,f5⟩;have S5:=hJ (aK r5 (S.1.step (s2:={s with k:=k'}) k5 f5));have y0:=S5.2.a5.at 0 _ rfl;have fz:=cv S5.2.a5;go_wp2
   go_meet
   case rel=>exact⟨_,_,_,_,rfl, .ot (.of t6 rfl) (.inr (.inr (.inr (.inr (.inr (.inl ⟨m,E,S5.1⟩)))))),S5.2.jT _⟩
  have t6:(x.kind.toList==[116,97,107,101])=false:=by simpa using t6
  by_cases t7:(x.kind.toList==[109,97,112])=true
  .as_aux_lemma=>
   have CT:=hJ (Ma UE N s W x.a x.b x.c x.on S.1.kk H.2.1.ki.vi.kj);rw[HK.v]at CT;go_wp2_with fail
   refine CT.mono ?_;rintro e w5 ⟨v,s',rfl,r5,k5,f5⟩;have r6:(∃E,v=bG E)/\Kn.Bb N s.k x s'.k:=by
    rcases r5 with⟨n,_,hn,l,rfl,e⟩|⟨_,rfl,e⟩
    .exact⟨⟨_,rfl⟩, .inr (.inr (.inr (.inr (.inr (.inr (.inl ⟨n,_,hn,l,Mv.Px _ _ _ _,e⟩))))))⟩
    .exact⟨⟨_,rfl⟩, .inr (.inr (.inr (.inr (.inr (.inr (.inr (.inr (.inr (.inr (e))))))))))⟩
   obtain⟨⟨E,rfl⟩,r7⟩:=r6;have S5:=hJ (aK r7 (S.1.step (s2:=s') k5 f5));go_wp2
   go_meet
   case rel=>exact⟨_,_,_,_,rfl, .ot (.of t7 rfl) (S5.1),S5.2⟩
  have t7:(x.kind.toList==[109,97,112])=false:=by simpa using t7
  by_cases t8:(x.kind.toList==[112,114,111,116,101,99,116])=true
  .as_aux_lemma=>
   have CT:=hJ (Jk UE N s W x.a x.b x.c x.on S.1.kk H.2.1.ki.vi.kj);rw[HK.v]at CT;go_wp2_with fail
   refine CT.mono ?_;rintro e w5 ⟨v,s',rfl,r5,k5,f5⟩;have r6:(∃E,v=bG E)/\Kn.Bb N s.k x s'.k:=by
    rcases r5 with⟨n,_,hn,l,rfl,e⟩|⟨_,rfl,e⟩
    .exact⟨⟨_,rfl⟩, .inr (.inr (.inr (.inr (.inr (.inr (.inl ⟨n,_,hn,l,Mv.P3 _ _ _ _,e⟩))))))⟩
    .exact⟨⟨_,rfl⟩, .inr (.inr (.inr (.inr (.inr (.inr (.inr (.inr (.inr (.inr (e))))))))))⟩
   obtain⟨⟨E,rfl⟩,r7⟩:=r6;have S5:=hJ (aK r7 (S.1.step (s2:=s') k5 f5));go_wp2
   go_meet
   case rel=>exact⟨_,_,_,_,rfl, .ot (.of t8 rfl) (S5.1),S5.2⟩
  have t8:(x.kind.toList==[112,114,111,116,101,99,116])=false:=by simpa using t8
  by_cases t9:(x.kind.toList==[117,110,109,97,112])=true
  .as_aux_lemma=>
   have CT:=hJ (DJ UE N s W x.a x.b x.c S.1.kk H.2.1.ki.vi.kj (by obtain⟨Wy,t⟩:=H.2.1.ki.vi.kj.gr;exact t.small (by have:=H.2.2.1;omega)));rw[HK.v]at CT;go_wp2_with fail
   refine CT.mono ?_;rintro e w5 ⟨v,s',rfl,r5,k5,f5⟩;have r6:∃E,v=bG E/\∀a,Kn.vQ N s.k x a E s'.k:=by
    rcases r5 with⟨n,a,hn,l,rfl,e⟩|⟨ne,rfl,e⟩
    .exact⟨_,rfl,λ_=> .inr (.inl ⟨t9, .inl ⟨n,a,hn,l,rfl,e⟩⟩)⟩
    .exact⟨_,rfl,λ_=> .inr (.inl ⟨t9, .inr ⟨Kn.vS ne,e⟩⟩)⟩
   obtain⟨E,rfl,r7⟩:=r6;have S5:=hJ (aK r7 (S.1.step (s2:=s') k5 f5));go_wp2
   go_meet
   case rel=>exact⟨_,_,_,_,rfl,S5.1 _,S5.2⟩
  have t9:(x.kind.toList==[117,110,109,97,112])=false:=by simpa using t9
  by_cases t10:(x.kind.toList==[108,111,97,100])=true
  .as_aux_lemma=>
   have CT:=hJ (Jg UE N d s W x.a x.b (BW UE N d s W (by have:=H.2.2.1;omega) S.1.kk H.2.1) (by have:=H.2.2.1;omega) S.1.kk H.2.1);rw[HK.v]at CT;go_wp2_with fail
   refine CT.mono ?_;rintro e w5 ⟨v,s',rfl,⟨u,y,rfl,r5,ub⟩,k5,f5⟩;obtain⟨E,rfl⟩:∃E,y=bG E:=by obtain⟨E,e,_⟩:=r5;exact⟨E,e⟩
   have S5:=hJ (aK (aK r5 ub) (S.1.step (s2:=s') k5 f5));have y0:=S5.2.a5.at 0 _ rfl;have fz:=cv S5.2.a5;go_wp2
   go_meet
   case rel=>exact⟨_,wrap64 u,_,_,rfl, .inr (.inr (.inl ⟨t10,u, .inr (IntWalk.i64_left u).symm,S5.1.1,λe=>S5.1.2 (by rw[e];rfl)⟩)),S5.2.jT _⟩
  have t10:(x.kind.toList==[108,111,97,100])=false:=by simpa using t10
  by_cases t11:(x.kind.toList==[115,116,111,114,101])=true
  .as_aux_lemma=>
   have CT:=hJ (λu=>G5 UE N d s W x.a x.b u (BW UE N d s W (by have:=H.2.2.1;omega) S.1.kk H.2.1) (by have:=H.2.2.1;omega) S.1.kk H.2.1);simp only[HK.v]at CT;go_wp2_with fail
   refine(CT.v _).mono ?_;rintro e w5 ⟨y,s',rfl,r5,k5,f5⟩;obtain⟨E,rfl⟩:∃E,y=bG E:=by obtain⟨E,e,_⟩:=r5;exact⟨E,e⟩
   have S5:=hJ (aK r5 (S.1.step (s2:=s') k5 f5));go_wp2
   go_meet
   case rel=>exact⟨_,_,_,_,rfl, .inr (.inr (.inr (.inl ⟨t11,S5.1⟩))),S5.2⟩
  have t11:(x.kind.toList==[115,116,111,114,101])=false:=by simpa using t11
  by_cases t12:(x.kind.toList==[97,100,100])=true
  .as_aux_lemma=>
   have CT:=hJ (Ja UE N s W x.a x.b S.1.kk H.2.1.ki.vi.kj);rw[HK.v]at CT;go_wp2_with fail
   refine CT.mono ?_;rintro e w5 ⟨v,s',rfl,⟨⟨y,E,rfl⟩,r5⟩,k5,f5⟩;have S5:=hJ (aK r5 (S.1.step (s2:=s') k5 f5));have y0:=S5.2.a5.at 0 _ rfl;have fz:=cv S5.2.a5;go_wp2
   go_meet
   case rel=>exact⟨_,_,_,_,rfl, .ot (.of t12 rfl) (.inr (.inr (.inr (.inr (.inr (.inr (.inr (.inl S5.1)))))))),S5.2.jT _⟩
  have t12:(x.kind.toList==[97,100,100])=false:=by simpa using t12
  by_cases t13:(x.kind.toList==[100,114,111,112])=true
  .as_aux_lemma=>
   have CT:=hJ (GG UE N s W (by have:=H.2.2.1;omega) x.a S.1.kk H.2.1.ki.vi.kj);rw[HK.v]at CT;go_wp2_with fail
   refine CT.mono ?_;rintro e w5 ⟨v,s',rfl,⟨⟨E,rfl⟩,r5⟩,k5,f5⟩;have S5:=hJ (aK r5 (S.1.step (s2:=s') k5 f5));go_wp2
   go_meet
   case rel=>exact⟨_,_,_,_,rfl, .ot (.of t13 rfl) (.inr (.inr (.inr (.inr (.inr (.inr (.inr (.inl S5.1)))))))),S5.2⟩
  have t13:(x.kind.toList==[100,114,111,112])=false:=by simpa using t13
  by_cases t14:(x.kind.toList==[108,105,109,105,116])=true
  .as_aux_lemma=>
   have CT:=hJ (GI UE N s W x.a x.b x.c S.1.kk H.2.1.ki.vi.kj);rw[HK.v]at CT;go_wp2_with fail
   refine CT.mono ?_;rintro e w5 ⟨v,s',rfl,⟨⟨E,rfl⟩,r5⟩,k5,f5⟩;have S5:=hJ (aK r5 (S.1.step (s2:=s') k5 f5));go_wp2
   go_meet
   case rel=>exact⟨_,_,_,_,rfl, .inr (.inr (.inr (.inr (.inl ⟨t14,S5.1⟩)))),S5.2⟩
  have t14:(x.kind.toList==[108,105,109,105,116])=false:=by simpa using t14
  by_cases t15:(x.kind.toList==[106,111,105,110])=true
  .as_aux_lemma=>
   have CT:=hJ (Jf UE N s W (by have:=H.2.2.1;omega) x.a x.b S.1.kk H.2.1.ki.vi.kj);rw[HK.v]at CT;go_wp2_with fail
   refine CT.mono ?_;rintro e w5 ⟨y,s',rfl,r5,k5,f5⟩;obtain⟨E,rfl⟩:∃E,y=bG E:=by obtain⟨E,e,_⟩:=r5;exact⟨E,e⟩
   have S5:=hJ (aK r5 (S.1.step (s2:=s') k5 f5));go_wp2
   go_meet
   case rel=>exact⟨_,_,_,_,rfl, .ot (.of t15 rfl) (.inr (.inr (.inr (.inr (.inr (.inr (.inr (.inr (.inl ⟨_,S5.1⟩))))))))),S5.2⟩
  have t15:(x.kind.toList==[106,111,105,110])=false:=by simpa using t15
  by_cases t16:(x.kind.toList==[115,108,101,101,112])=true
  .as_aux_lemma=>
   have CT:=hJ (G3 UE s W x.a x.on S.1.kk);rw[HK.v]at CT;go_wp2_with fail
   refine CT.mono ?_;rintro e w5 ⟨y,s',rfl,r5,k5,f5⟩;obtain⟨E,rfl⟩:∃E,y=bG E:=by obtain⟨E,_,e,_⟩:=r5;exact⟨E,e⟩
   have S5:=hJ (aK r5 (S.1.step (s2:=s') k5 f5));go_wp2
   go_meet
   case rel=>exact⟨_,_,_,_,rfl, .ot (.of t16 rfl) (.inr (.inr (.inr (.inr (.inr (.inr (.inr (.inr (.inr (.inl ⟨_,S5.1⟩)))))))))),S5.2⟩
  have t16:(x.kind.toList==[115,108,101,101,112])=false:=by simpa using t16
  by_cases t17:(x.kind.toList==[102,114,101,101,122,101])=true
  .as_aux_lemma=>
   have CT:=hJ (DG UE N s W x.a x.on S.1.kk H.2.1.ki.vi.kj);rw[HK.v]at CT;go_wp2_with fail
   refine CT.mono ?_;rintro e w5 ⟨v,s',rfl,⟨⟨E,rfl⟩,r5⟩,k5,f5⟩;have S5:=hJ (aK r5 (S.1.step (s2:=s') k5 f5));go_wp2
   go_meet
   case rel=>exact⟨_,_,_,_,rfl, .ot (.of t17 rfl) (.inr (.inr (.inr (.inr (.inr (.inr (.inr (.inl S5.1)))))))),S5.2⟩
  have t17:(x.kind.toList==[102,114,101,101,122,101])=false:=by simpa using t17
  by_cases t18:(x.kind.toList==[113,117,111,116,97])=true
  .as_aux_lemma=>
   have CT:=hJ (G0 UE N s W x.a x.b x.c S.1.kk H.2.1.ki.vi.kj);rw[HK.v]at CT;go_wp2_with fail
   refine CT.mono ?_;rintro e w5 ⟨v,s',rfl,⟨⟨E,rfl⟩,r5⟩,k5,f5⟩;have S5:=hJ (aK r5 (S.1.step (s2:=s') k5 f5));go_wp2
   go_meet
   case rel=>exact⟨_,_,_,_,rfl, .ot (.of t18 rfl) (.inr (.inr (.inr (.inr (.inr (.inr (.inr (.inl S5.1)))))))),S5.2⟩
  have t18:(x.kind.toList==[113,117,111,116,97])=false:=by simpa using t18
  by_cases t19:(x.kind.toList==[116,105,99,107])=true
  .as_aux_lemma=>
   have CT:=hJ (zX UE s W S.1.kk);rw[HK.v]at CT;go_wp2_with fail
   refine CT.mono ?_;rintro e w5 ⟨r,m,rfl,r5,k5,f5⟩;have S5:=hJ (aK r5 (S.1.step (s2:={s with k:={s.k with sc:=m}}) k5 f5));have y0:=S5.2.a5.at 0 _ rfl;have fz:=cv S5.2.a5;go_wp2
   go_meet
   case rel=>exact⟨_,_,_,_,bB.symm, .inr (.inr (.inr (.inr (.inr (.inl ⟨t19,m,S5.1,rfl⟩))))),S5.2.jT _⟩
  have t19:(x.kind.toList==[116,105,99,107])=false:=by simpa using t19
  have nk:Kn.NK x:=λl hl=>by
   unfold Kn.wk at hl;simp only[List.mem_cons,List.not_mem_nil,or_false]at hl;rcases hl with rfl|rfl|rfl|rfl|rfl|rfl<;>assumption
  have NK:=hJ nk
  as_aux_lemma=>
   have CT:=hJ (Lq UE N d s W x S.1.kk H.2.1 H.2.2.1 (aH H.2.2.2.1 S.1.kf.gP.size) H.2.2.2.2);rw[HK.v]at CT;go_wp2_with fail
   refine CT.mono ?_;rintro e w5 ⟨n,m,E,t,s',rfl,r5,k5,f5⟩;have S5:=hJ (aK r5 (S.1.step (s2:=s') k5 f5));obtain⟨c,hc⟩:=hU (w.heap.size+1);rw[hc]at S5|-;have z0:=S5.2.a4.at 0 _ rfl;have z1:=S5.2.a4.at 1 _ rfl;have z2:=S5.2.a4.at 2 _ rfl;have z3:=S5.2.a4.at 3 _ rfl;have f4:=cv S5.2.a4;have FI:=hJ (S5.2.TM n m E t);go_wp2_with fail
   exact bodyPost_ret (v:=au #[aa az n,aa az m,aa az E,ak t]) (by simp[results,Tryz.results12,go_sem,z0,z1,z2,z3]) rfl ⟨n,m,E,t,s',rfl, .inr ⟨NK.v,S5.1⟩,FI.v⟩
 case rest=>
  obtain⟨E,n,m,s1,rfl,T⟩:=hcut;have NB:=hJ (n7 E wc);go_wp2_with fail
  refine cr NB.v ?_;obtain⟨c,hc⟩:=hU (w.heap.size+1);rw[hc]at T|-;have y0:=T.2.a5.at 0 _ rfl;have y1:=T.2.a5.at 1 _ rfl;have y2:=T.2.a5.at 2 _ rfl;have y3:=T.2.a5.at 3 _ rfl;have z0:=T.2.a4.at 0 _ rfl;have z1:=T.2.a4.at 1 _ rfl;have z2:=T.2.a4.at 2 _ rfl;have z3:=T.2.a4.at 3 _ rfl;have f5:=cv T.2.a5;have f4:=cv T.2.a4;have FI:=hJ (T.2.fin E);go_wp2_with fail
  exact bodyPost_ret (v:=au #[aa az n,aa az m,aa az E,ak ⟨#[]⟩]) (by simp[results,Tryz.results12,go_sem,z0,z1,z2,z3]) rfl ⟨n,m,E,_,s1,rfl, .inl T.1,FI.v⟩

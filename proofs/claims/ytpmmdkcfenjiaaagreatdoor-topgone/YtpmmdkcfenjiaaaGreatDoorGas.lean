import Derived.Test.YtpmmdkcfenjiaaaGreatDoorGar
set_option maxRecDepth 100000
set_option maxHeartbeats 20000000
set_option linter.unusedVariables false
set_option linter.unusedSimpArgs false
namespace Go.Proofs.YtpmmdkcfenjiaaaGreatDoor
open Value renaming int->aa,pointer->ai,slice->aj,string->ak,tuple->ao,agg->au
open IntKind renaming i64->az
open Ending renaming returned->bf
open Option renaming some->bj,none->bu
open Bool renaming true->bw,false->bA
open Tryz (prog)
open Go.RowKit
open Fx (Fi)
open Tr (Fo Nd)
open Pp (Pi)
open Mo (Wh Mt)
open Mv (Me Bk)
open Kn (Pr Kp St us KB KJ VI EI KH)
theorem Tr.VJ{F:Fo}(h:Tr.Ok F)(z:Int)(i:Nat):((Tr.sd F z).getD i ⟨#[]⟩).size<=8:=by
 rw[aF];cases e:(Tr.sd F z)[i]? with
 |none=>exact aC _
 |some s=>
  have m:=bK e;unfold Tr.sd at m;by_cases c:Tr.cL F z 2=0
  .rw[aJ c]at m;obtain⟨n,rfl,n40,_,k2⟩:=Tr.fB c;simp only[sr,Tr.uy,List.mem_map,List.mem_mergeSort,List.mem_range,hU]at m;obtain⟨_,⟨_,⟨j,hj,rfl⟩,rfl⟩,rfl⟩:=m;have:=h.nb n j n40 k2 hj;unfold Tr.gd at this;simp only[Bool.and_eq_true,decide_eq_true_eq]at this;exact this.1.1.1.2
  .rw[aI c]at m;cases m
section
variable (Wr N:Nat)(d:Nat->Nat)(s:St)(w:bD)
theorem IW(z:Int)(p:bU)(h:bP w Wr s)(hj:KJ (λ_=>False) N s.k):
  Calls prog 133 #[ai (bj ⟨s.A 0,0,bu⟩),aa az z,ak p] w λe w'=>∃u E L,e=bf (ao #[u,bN E])/\(L.length<=8/\∀i,(L.getD i ⟨#[]⟩).size<=8)/\(∀c,c<w.heap.size->TL c L u w')/\Below w.heap.size w w':=by
 have WK:=hZ (uT Wr N s w z p h hj);have LI:Hid (∀V (x:Int),Below w.heap.size w V->Calls prog 213 #[ai (bj ⟨s.A 6,0,bu⟩),aa az x] V λe w'=>∃u E L,e=bf (ao #[u,bN E])/\(L.length<=8/\∀i,(L.getD i ⟨#[]⟩).size<=8)/\(∀c,c<w.heap.size->TL c L u w')/\Below w.heap.size w w'):=hZ (λV x b=>(Ml (s.A 6) x s.k.fo V (h.below b).fo hj.ok.sz).mono (by rintro _ w' ⟨u,rfl,o⟩;exact⟨u,_,_,rfl,⟨Tr.OJ hj.ok.sz x,Tr.VJ hj.ok x⟩,λc hc=>o.tl (aD hc b.size),b.trans (o.cZ.mono b.size)⟩));have C6:Hid (∀V,Below w.heap.size w V->V.cell? ⟨s.A 0,250,bu⟩=bj (ai (bj ⟨s.A 6,0,bu⟩))):=hZ (λV b=>(h.below b).uI);generalize s.A 0=kb at*;generalize s.A 6=a6 at*;go_in
 go_wp2_with fail
 refine WK.mono ?_;rintro e w1 ⟨x,E,rfl,b1⟩;by_cases E0:E=0
 .subst E0;rw[bF];have c6:=C6.v _ b1;go_wp2_with fail
  refine(LI.v _ _ b1).mono ?_;rintro e w2 ⟨u,E,L,rfl,S2⟩;have S2:=hZ S2;go_wp2
  go_ret2
  exact⟨u,E,L,rfl,S2.v⟩
 .have E1:=hZ (bM E0);rw[bM E0];go_wp2
  go_ret2
  exact⟨_,E,[],Qm E1.v,⟨by simp,λ_=>aC _⟩,λ_ _=>⟨bu,0,rfl,λc=>by cases c⟩,b1⟩
theorem K8(z:Int)(p:bU)(h:bP w Wr s)(hj:KJ (λ_=>False) N s.k):
  Calls prog 134 #[ai (bj ⟨s.A 0,0,bu⟩),aa az z,ak p] w λe w'=>∃(o1 o2 o3 o4 E:Int),e=bf (ao #[au #[aa az o1,aa az o2,aa az o3,aa az o4],bN E])/\Below w.heap.size w w':=by
 have B0:=hZ ((aQ w.heap.size w).alloc (aL _) (.cells #[aa az 0,aa az 0,aa az 0,aa az 0] 156));have WK:=hZ (uT Wr N s _ z p (h.below B0.v) hj);have OF:Hid (∀V (x:Int),Below w.heap.size w V->Calls prog 214 #[ai (bj ⟨s.A 6,0,bu⟩),aa az x] V λe w'=>∃(o1 o2 o3 o4 E:Int),e=bf (ao #[au #[aa az o1,aa az o2,aa az o3,aa az o4],bN E])/\Below V.heap.size V w'):=hZ (λV x b=>(qw (s.A 6) x s.k.fo V (h.below b).fo).mono (by
  rintro _ w' ⟨rfl,o⟩;obtain⟨o1,o2,o3,o4,e,_⟩:=Mo.Ly s.k.fo x;exact⟨o1,o2,o3,o4,_,by rw[e],o⟩))
 have C6:Hid (∀V,Below w.heap.size w V->V.cell? ⟨s.A 0,250,bu⟩=bj (ai (bj ⟨s.A 6,0,bu⟩))):=hZ (λV b=>(h.below b).uI);generalize s.A 0=kb at*;generalize s.A 6=a6 at*;go_in
 go_wp2_with fail
 refine WK.mono ?_;rintro e w1 ⟨x,E,rfl,b1⟩;obtain⟨hc,hf⟩:=yD b1;have hz:w.heap.size<w1.heap.size:=by have:=b1.size;simp at this;omega
 have b1:=B0.trans (b1.mono B0.size);by_cases E0:E=0
 .subst E0;rw[bF];have c6:=C6.v _ b1;go_wp2_with fail
  refine(OF.v _ _ b1).mono ?_;rintro e w2 ⟨o1,o2,o3,o4,E,rfl,b2⟩;obtain⟨hc2,hf2⟩:=yD b2;have b2:=b1.trans (b2.mono b1.size);go_wp2_with fail
  exact bodyPost_ret (v:=ao #[au #[aa az o1,aa az o2,aa az o3,aa az o4],bN E]) (by simp[results,Tryz.results134,go_sem,hc2,hc,hz]) rfl ⟨o1,o2,o3,o4,E,rfl,((((b2.setCell (aL _) _).setCell (aL _) _).setCell (aL _) _).setCell (aL _) _)⟩
 .have E1:=hZ (bM E0);rw[bM E0];go_wp2_with fail
  exact bodyPost_ret (v:=ao #[au #[aa az 0,aa az 0,aa az 0,aa az 0],bN E]) (by simp[results,Tryz.results134,go_sem,hc,E1.v]) rfl ⟨0,0,0,0,E,rfl,((((b1.setCell (aL _) _).setCell (aL _) _).setCell (aL _) _).setCell (aL _) _)⟩
end
section
variable (Wr N:Nat)(d:Nat->Nat)(s:St)(w:bD)
theorem NJ(x:fU)(h:bP w Wr s)(hh:KH N d s.k)(hN:N<880)(hb:Wr<=w.heap.size)(hs:x.s.size<2^59):
  Calls prog 56 #[ai (bj ⟨s.A 0,0,bu⟩),au #[ak x.kind,aa az x.a,aa az x.b,aa az x.c,aa .u64 x.key, .bool x.on,ak x.s,ak x.t]] w λe w'=>∃(n m E:Int) (t:bU) (s':St),e=bf (au #[aa az n,aa az m,aa az E,ak t])/\Kn.rV s.k x s'.k/\bP w' Wr s'/\KF s w s' w':=by
 have H:=hZ (aK h (aK hh (aK hN (aK hb hs))));obtain⟨kb,hk⟩:=nJ (s.A 0);have HK:=hZ hk;rw[hk];clear h hh hN hb hk hs;go_in
 go_upto_block 0 with fail
 refine cM (λW=>AW Wr s w (w.heap.size+1) s 0 0 ⟨#[]⟩ W/\Ba W w.heap.size x) (AW.start H.1 x) ?_;rintro W ⟨aw,ab⟩;have S:=hZ (aK aw ab);have q1:=ab.at 1 bB;have q2:=ab.at 2 bB;have q3:=ab.at 3 bB;have q5:=ab.at 5 bB;have q6:=ab.at 6 bB;have q7:=ab.at 7 bB;have y5:=aw.a5;simp only[fU.cell]at q1 q2 q3 q5 q6 q7;clear aw ab;go_cut [6]from 7 to 222 (λer wc=>∃(E n m:Int) (t:bU) (s1:St),er=bN E/\Hid (Kn.rV s.k x s1.k/\AW Wr s w (w.heap.size+1) s1 n m t wc))
 case first=>
  by_cases t0:(x.kind.toList==[111,112,101,110])=bw
  .as_aux_lemma=>
   have CT:=hZ (λu=>K9 Wr N s W x.a x.s x.on u S.1.kk H.2.1.ki.vi.kj);simp only[HK.v]at CT;go_wp2_with fail
   refine(CT.v _).mono ?_;rintro e w5 ⟨v,s',rfl,⟨y,E,rfl,r5⟩,k5,f5⟩;have S5:=hZ (aK r5 (S.1.step (s2:=s') k5 f5));have y0:=S5.2.a5.at 0 _ rfl;have fz:=cE S5.2.a5;clear r5 k5 f5 CT q1 q2 q3 q5 q6 q7 y5;go_wp2
   go_meet
   case rel=>exact⟨_,_,_,_,_,rfl, .inl (⟨_,y,E,rfl,S5.1⟩),S5.2.kT _⟩
  have t0:(x.kind.toList==[111,112,101,110])=bA:=by simpa using t0
  by_cases t1:(x.kind.toList==[99,108,111,115,101])=bw
  .as_aux_lemma=>
   have CT:=hZ (wV Wr s W N x.a x.b S.1.kk H.2.1.ki.vi.kj (by have:=H.2.2.1;omega));rw[HK.v]at CT;go_wp2_with fail
   refine CT.mono ?_;rintro e w5 ⟨rfl,k5,f5⟩;have S5:=hZ (aK trivial (S.1.step (s2:={s with k:=Kn.iZ s.k x.a x.b}) k5 f5));clear k5 f5 CT q1 q2 q3 q5 q6 q7 y5;go_wp2
   go_meet
   case rel=>exact⟨_,_,_,_,_,rfl, .inr (.inl (rfl)),S5.2⟩
  have t1:(x.kind.toList==[99,108,111,115,101])=bA:=by simpa using t1
  by_cases t2:(x.kind.toList==[100,117,112])=bw
  .as_aux_lemma=>
   have CT:=hZ (On Wr s W x.a x.b S.1.kk (λn hn=>by have:=H.2.1.ki.vi.kj.rf n hn;have:=H.2.2.1;have e1:(2:Nat)^60=1152921504606846976:=bE;omega));rw[HK.v]at CT;go_wp2_with fail
   refine CT.mono ?_;rintro e w5 ⟨v,s',rfl,⟨y,E,rfl,r5⟩,k5,f5⟩;have S5:=hZ (aK r5 (S.1.step (s2:=s') k5 f5));have y0:=S5.2.a5.at 0 _ rfl;have fz:=cE S5.2.a5;clear r5 k5 f5 CT q1 q2 q3 q5 q6 q7 y5;go_wp2
   go_meet
   case rel=>exact⟨_,_,_,_,_,rfl, .inr (.inr (.inl (⟨_,y,E,rfl,S5.1⟩))),S5.2.kT _⟩
  have t2:(x.kind.toList==[100,117,112])=bA:=by simpa using t2
  by_cases t3:(x.kind.toList==[112,105,112,101])=bw
  .as_aux_lemma=>
   have CT:=hZ (I0 Wr s W x.a S.1.kk);rw[HK.v]at CT;go_wp2_with fail
   refine CT.mono ?_;rintro e w5 ⟨A,C,E,k',rfl,r5,k5,f5⟩;have S5:=hZ (aK r5 (S.1.step (s2:={s with k:=k'}) k5 f5));have y0:=S5.2.a5.at 0 _ rfl;have y1:=S5.2.a5.at 1 _ rfl;have fz:=cE S5.2.a5;clear r5 k5 f5 CT q1 q2 q3 q5 q6 q7 y5;go_wp2
   go_meet
   case rel=>exact⟨_,_,_,_,_,rfl, .inr (.inr (.inr (.inl (⟨A,C,E,S5.1⟩)))),(S5.2.kT _).Eu _⟩
  have t3:(x.kind.toList==[112,105,112,101])=bA:=by simpa using t3
  by_cases t4:(x.kind.toList==[114,101,97,100])=bw
  .as_aux_lemma=>
   have CT:=hZ (I1 Wr s W x.a x.b x.c S.1.kk H.2.1.ki.vi.kj.ok.fz H.2.1.ki.vi.kj.wx.pz);rw[HK.v]at CT;go_wp2_with fail
   refine CT.mono ?_;rintro e w5 ⟨rfl,k5,f5⟩;have S5:=hZ (aK trivial (S.1.step (s2:={s with k:=Kn.ow s.k x.a x.b x.c}) k5 f5));have y3:=S5.2.a5.at 3 _ rfl;have fz:=cE S5.2.a5;clear k5 f5 CT q1 q2 q3 q5 q6 q7 y5;go_wp2
   go_meet
   case rel=>exact⟨_,_,_,_,_,rfl, .inr (.inr (.inr (.inr (.inl (rfl))))),S5.2.mf _⟩
  have t4:(x.kind.toList==[114,101,97,100])=bA:=by simpa using t4
  by_cases t5:(x.kind.toList==[119,114,105,116,101])=bw
  .as_aux_lemma=>
   have CT:=hZ (FE Wr N d s W (by have:=H.2.2.1;omega) x.a x.b x.s S.1.kk H.2.2.2.2 H.2.1.ki.vi.kj.wx.pz (λ_=>(H.2.1.zN _ _).ki));rw[HK.v]at CT;go_wp2_with fail
   refine CT.mono ?_;rintro e w5 ⟨A,E,k',rfl,r5,k5,f5⟩;have S5:=hZ (aK r5 (S.1.step (s2:={s with k:=k'}) k5 f5));have y0:=S5.2.a5.at 0 _ rfl;have fz:=cE S5.2.a5;clear r5 k5 f5 CT q1 q2 q3 q5 q6 q7 y5;go_wp2
   go_meet
   case rel=>exact⟨_,_,_,_,_,rfl, .inr (.inr (.inr (.inr (.inr (.inl (⟨A,E,S5.1⟩)))))),S5.2.kT _⟩
  have t5:(x.kind.toList==[119,114,105,116,101])=bA:=by simpa using t5
  by_cases t6:(x.kind.toList==[115,101,101,107])=bw
  .as_aux_lemma=>
   have CT:=hZ (Lb Wr s W x.a x.b x.c S.1.kk);rw[HK.v]at CT;go_wp2_with fail
   refine CT.mono ?_;rintro e w5 ⟨v,s',rfl,⟨E,rfl,r5⟩,k5,f5⟩;have S5:=hZ (aK r5 (S.1.step (s2:=s') k5 f5));clear r5 k5 f5 CT q1 q2 q3 q5 q6 q7 y5;go_wp2
   go_meet
   case rel=>exact⟨_,_,_,_,_,rfl,S5.1.elim (λe=> .inr (.inr (.inr (.inr (.inr (.inr (.inr (.inr (.inr (.inr (e))))))))))) (λe=> .inr (.inr (.inr (.inr (.inr (.inr (.inl (e)))))))),S5.2⟩
  have t6:(x.kind.toList==[115,101,101,107])=bA:=by simpa using t6
  by_cases t7:(x.kind.toList==[109,107,100,105,114])=bw
  .as_aux_lemma=>
   have CT:=hZ (IV Wr N s W x.a x.s S.1.kk H.2.1.ki.vi.kj);rw[HK.v]at CT;go_wp2_with fail
   refine CT.mono ?_;rintro e w5 ⟨v,s',rfl,⟨E,G,rfl,r5⟩,k5,f5⟩;have S5:=hZ (aK r5 (S.1.step (s2:=s') k5 f5));clear r5 k5 f5 CT q1 q2 q3 q5 q6 q7 y5;go_wp2
   go_meet
   case rel=>exact⟨_,_,_,_,_,rfl, .inr (.inr (.inr (.inr (.inr (.inr (.inr (.inl (⟨_,E,G,rfl,S5.1⟩)))))))),S5.2⟩
  have t7:(x.kind.toList==[109,107,100,105,114])=bA:=by simpa using t7
  by_cases t8:(x.kind.toList==[114,101,109,111,118,101])=bw
  .as_aux_lemma=>
   have CT:=hZ (Ov Wr N s W x.a x.s S.1.kk H.2.1.ki.vi.kj);rw[HK.v]at CT;go_wp2_with fail
   refine CT.mono ?_;rintro e w5 ⟨v,s',rfl,⟨E,G,rfl,r5⟩,k5,f5⟩;have S5:=hZ (aK r5 (S.1.step (s2:=s') k5 f5));clear r5 k5 f5 CT q1 q2 q3 q5 q6 q7 y5;go_wp2
   go_meet
   case rel=>exact⟨_,_,_,_,_,rfl, .inr (.inr (.inr (.inr (.inr (.inr (.inr (.inl (⟨_,E,G,rfl,S5.1⟩)))))))),S5.2⟩
  have t8:(x.kind.toList==[114,101,109,111,118,101])=bA:=by simpa using t8
  by_cases t9:(x.kind.toList==[109,111,118,101])=bw
  .as_aux_lemma=>
   have CT:=hZ (Ot Wr N s W x.a x.s x.t S.1.kk H.2.1.ki.vi.kj);rw[HK.v]at CT;go_wp2_with fail
   refine CT.mono ?_;rintro e w5 ⟨v,s',rfl,⟨E,G,rfl,r5⟩,k5,f5⟩;have S5:=hZ (aK r5 (S.1.step (s2:=s') k5 f5));clear r5 k5 f5 CT q1 q2 q3 q5 q6 q7 y5;go_wp2
   go_meet
   case rel=>exact⟨_,_,_,_,_,rfl, .inr (.inr (.inr (.inr (.inr (.inr (.inr (.inl (⟨_,E,G,rfl,S5.1⟩)))))))),S5.2⟩
  have t9:(x.kind.toList==[109,111,118,101])=bA:=by simpa using t9
  by_cases t10:(x.kind.toList==[108,105,110,107])=bw
  .as_aux_lemma=>
   have CT:=hZ (Oo Wr N s W x.a x.s x.t S.1.kk H.2.1.ki.vi.kj);rw[HK.v]at CT;go_wp2_with fail
   refine CT.mono ?_;rintro e w5 ⟨v,s',rfl,⟨E,G,rfl,r5⟩,k5,f5⟩;have S5:=hZ (aK r5 (S.1.step (s2:=s') k5 f5));clear r5 k5 f5 CT q1 q2 q3 q5 q6 q7 y5;go_wp2
   go_meet
   case rel=>exact⟨_,_,_,_,_,rfl, .inr (.inr (.inr (.inr (.inr (.inr (.inr (.inl (⟨_,E,G,rfl,S5.1⟩)))))))),S5.2⟩
  have t10:(x.kind.toList==[108,105,110,107])=bA:=by simpa using t10
  by_cases t11:(x.kind.toList==[98,105,110,100])=bw
  .as_aux_lemma=>
   have CT:=hZ (KU Wr N s W x.a x.s x.t S.1.kk (aH H.2.2.2.1 S.1.kf.ia.size) H.2.1.ki.vi.kj);rw[HK.v]at CT;go_wp2_with fail
   refine CT.mono ?_;rintro e w5 ⟨v,s',rfl,⟨E,rfl,r5⟩,k5,f5⟩;have S5:=hZ (aK r5 (S.1.step (s2:=s') k5 f5));clear r5 k5 f5 CT q1 q2 q3 q5 q6 q7 y5;go_wp2
   go_meet
   case rel=>exact⟨_,_,_,_,_,rfl, .inr (.inr (.inr (.inr (.inr (.inr (.inr (.inr (.inl (⟨_,E,rfl,S5.1⟩))))))))),S5.2⟩
  have t11:(x.kind.toList==[98,105,110,100])=bA:=by simpa using t11
  by_cases t12:(x.kind.toList==[117,110,98,105,110,100])=bw
  .as_aux_lemma=>
   have CT:=hZ (FN Wr N s W x.a x.s S.1.kk H.2.1.ki.vi.kj);rw[HK.v]at CT;go_wp2_with fail
   refine CT.mono ?_;rintro e w5 ⟨v,s',rfl,⟨E,rfl,r5⟩,k5,f5⟩;have S5:=hZ (aK r5 (S.1.step (s2:=s') k5 f5));clear r5 k5 f5 CT q1 q2 q3 q5 q6 q7 y5;go_wp2
   go_meet
   case rel=>exact⟨_,_,_,_,_,rfl, .inr (.inr (.inr (.inr (.inr (.inr (.inr (.inr (.inl (⟨_,E,rfl,S5.1⟩))))))))),S5.2⟩
  have t12:(x.kind.toList==[117,110,98,105,110,100])=bA:=by simpa using t12
  by_cases t13:(x.kind.toList==[110,97,109,101,115])=bw
  .as_aux_lemma=>
   have CT:=hZ (IW Wr N s W x.a x.s S.1.kk H.2.1.ki.vi.kj);rw[HK.v]at CT;go_wp2_with fail
   refine CT.mono ?_;rintro e w5 ⟨u,E,L,rfl,⟨l8,n8⟩,tl,b5⟩;have N8:=hZ n8;clear n8;obtain⟨ua,uc,rfl,ub⟩:=tl (w.heap.size+1+1) S.1.a5.lt;have S5:Hid (AW Wr s w (w.heap.size+1) s 0 0 ⟨#[]⟩ w5/\Ba w5 w.heap.size x/\TL (w.heap.size+1+1) L (aj ua L.length uc) w5):=hZ ⟨S.1.below b5,(b5.block _ (aX.1 S.2).1).trans S.2,ua,uc,rfl,ub⟩;clear tl ub b5 CT q1 q2 q3 q5 q6 q7 y5 S;obtain⟨c,hc⟩:=nJ (w.heap.size+1);have HC:=hZ hc;rw[hc]at S5|-;obtain⟨ba,hba⟩:=nJ (w.heap.size);have HB:Hid (w.heap.size=ba/\c=ba+1):=hZ ⟨hba,by rw[<-hba,hc]⟩;rw[hba]at S5|-;clear hc hba;go_wp2_with fail
   go_loopw [9] (λi wr=>∃(j:Nat) (t:bU),i=aa az j/\j<=L.length/\Hid (AW Wr s w c s 0 0 t wr/\Ba wr ba x/\TL (c+1) L (aj ua L.length uc) wr/\t.size<=9*j)) (λi _=>L.length-(intOf i).toNat)
   case atStart=>exact⟨0,_,rfl,aC _,S5.1,S5.2.1,S5.2.2,aC _⟩
   case round=>
    clear S5;obtain⟨j,t,rfl,hj,S⟩:=hrel;by_cases hlt:j<L.length
    .have hltI:(j:Int)<(L.length:Int):=bB
     obtain⟨a2,c2,e2,tt⟩:=S.2.2.1;cases e2;obtain⟨g,rfl,gb,gl,gc⟩:=tt bB;have y3:=S.1.a5.at 3 _ rfl;have fz:=cE S.1.a5;have c1:=gc j hlt;have NX:Hid (∀z,AW Wr s w c s 0 0 z ((wr.setCell ⟨c+1,3,bu⟩ (ak z)).drew)/\Ba ((wr.setCell ⟨c+1,3,bu⟩ (ak z)).drew) ba x/\TL (c+1) L (aj (bj ⟨g,0,bu⟩) L.length uc) ((wr.setCell ⟨c+1,3,bu⟩ (ak z)).drew)):=hZ (λz=>⟨(S.1.mf z).below ⟨rfl,rfl,rfl,aL _,λ_ _=>rfl⟩,(dR _ _ _ _ (by have:=HB.2;omega)).trans S.2.1,S.2.2.1.mV (((bH.refl _ _).setCell _ _).drew)⟩);have z1:=S.2.2.2;have z2:=N8.v j;generalize L.getD j ⟨#[]⟩=nm at*;have z3:¬9223372036854775807<t.size+nm.size:=bB
     have z4:¬9223372036854775807<t.size+nm.size+1:=bB
     have Z:=hZ (aK z1 z2);clear gc tt z1 z2;go_wp2_with fail
     go_region
     go_wp2
     go_roundw
     case rel=>exact⟨j+1,_,by go_num,bB,(NX.v _).1,(NX.v _).2.1,(NX.v _).2.2,by have:=Z.v;simp only[ByteArray.size_append];show _+1<=_;omega⟩
     case measure=>simp[intOf];omega
    .have hltI:¬(j:Int)<(L.length:Int):=bB
     have CT:=hZ (K8 Wr N s wr x.a x.s S.1.kk H.2.1.ki.vi.kj);rw[HK.v]at CT;have q1:=S.2.1.at 1 bB;have q6:=S.2.1.at 6 bB;simp only[fU.cell]at q1 q6;go_wp2_with fail
     refine CT.mono ?_;rintro e w6 ⟨o1,o2,o3,o4,E2,rfl,b6⟩;have S6:Hid (AW Wr s w c s 0 0 t w6):=hZ (S.1.below b6);clear b6 q1 q6 S CT;generalize bN E2=ev2;have y0:=S6.a5.at 0 _ rfl;have fz:=cE S6.a5;have lt6:=S6.a5.lt;go_wp2_with fail
     have e1:=HB.1;have e2:=HC.v;subst e1;subst e2;go_meet
     case rel=>exact⟨_,_,_,_,s,rfl, .inr (.inr (.inr (.inr (.inr (.inr (.inr (.inr (.inr (.inr (rfl)))))))))),(S6.kT _).below ((aQ _ _).alloc (aL _) _)⟩
  have t13:(x.kind.toList==[110,97,109,101,115])=bA:=by simpa using t13
  by_cases t14:(x.kind.toList==[112,108,97,110,116])=bw
  .as_aux_lemma=>
   have CT:=hZ (I5 Wr N s W S.1.kk H.2.1.ki.vi.kj);rw[HK.v]at CT;go_wp2_with fail
   refine CT.mono ?_;rintro e w5 ⟨v,s',rfl,⟨T,E,G,rfl,r5⟩,k5,f5⟩;have S5:=hZ (aK r5 (S.1.step (s2:=s') k5 f5));have y0:=S5.2.a5.at 0 _ rfl;have fz:=cE S5.2.a5;clear r5 k5 f5 CT q1 q2 q3 q5 q6 q7 y5;go_wp2
   go_meet
   case rel=>exact⟨_,_,_,_,_,rfl, .inr (.inr (.inr (.inr (.inr (.inr (.inr (.inr (.inr (.inl (⟨T,E,G,S5.1⟩)))))))))),S5.2.kT _⟩
  have t14:(x.kind.toList==[112,108,97,110,116])=bA:=by simpa using t14
  by_cases t15:(x.kind.toList==[112,105,118,111,116])=bw
  .as_aux_lemma=>
   have CT:=hZ (I4 Wr N s W x.a x.b S.1.kk H.2.1.ki.vi.kj);rw[HK.v]at CT;go_wp2_with fail
   refine CT.mono ?_;rintro e w5 ⟨v,s',rfl,⟨E,rfl,r5⟩,k5,f5⟩;have S5:=hZ (aK r5 (S.1.step (s2:=s') k5 f5));clear r5 k5 f5 CT q1 q2 q3 q5 q6 q7 y5;go_wp2
   go_meet
   case rel=>exact⟨_,_,_,_,_,rfl, .inr (.inr (.inr (.inr (.inr (.inr (.inr (.inr (.inl (⟨_,E,rfl,S5.1⟩))))))))),S5.2⟩
  have t15:(x.kind.toList==[112,105,118,111,116])=bA:=by simpa using t15
  go_wp2
  go_meet
  case rel=>exact⟨0,_,_,_,s,bF.symm, .inr (.inr (.inr (.inr (.inr (.inr (.inr (.inr (.inr (.inr (rfl)))))))))),S.1⟩
 case rest=>
  clear q1 q2 q3 q5 q6 q7 y5 S;obtain⟨E,n,m,t,s1,rfl,T⟩:=hcut;have NB:=hZ (rZ E wc);go_wp2_with fail
  refine cG NB.v ?_;obtain⟨c,hc⟩:=nJ (w.heap.size+1);rw[hc]at T|-;have y0:=T.2.a5.at 0 _ rfl;have y1:=T.2.a5.at 1 _ rfl;have y2:=T.2.a5.at 2 _ rfl;have y3:=T.2.a5.at 3 _ rfl;have z0:=T.2.a4.at 0 _ rfl;have z1:=T.2.a4.at 1 _ rfl;have z2:=T.2.a4.at 2 _ rfl;have z3:=T.2.a4.at 3 _ rfl;have f5:=cE T.2.a5;have f4:=cE T.2.a4;have FI:=hZ (T.2.fin E);clear hc;go_wp2_with fail
  exact bodyPost_ret (v:=au #[aa az n,aa az m,aa az E,ak t]) (by simp[results,Tryz.results56,go_sem,z0,z1,z2,z3]) rfl ⟨n,m,E,t,s1,rfl,T.1,FI.v⟩
end
section
variable (Wr N:Nat)(d:Nat->Nat)(s:St)(w:bD)
theorem QJ(x:fU)(h:bP w Wr s)(hh:KH N d s.k)(hN:N<880)(hb:Wr<=w.heap.size)(hs:x.s.size<2^59):
  Calls prog 12 #[ai (bj ⟨s.A 0,0,bu⟩),au #[ak x.kind,aa az x.a,aa az x.b,aa az x.c,aa .u64 x.key, .bool x.on,ak x.s,ak x.t]] w λe w'=>∃(n m E:Int) (t:bU) (s':St),e=bf (au #[aa az n,aa az m,aa az E,ak t])/\(Kn.td N s.k x n E s'.k\/Kn.NK x/\Kn.rV s.k x s'.k)/\bP w' Wr s'/\KF s w s' w':=by
 have H:=hZ (aK h (aK hh (aK hN (aK hb hs))));obtain⟨kb,hk⟩:=nJ (s.A 0);have HK:=hZ hk;rw[hk];go_in
 go_upto_block 0 with fail
 refine cM (λW=>AW Wr s w (w.heap.size+1) s 0 0 ⟨#[]⟩ W/\Ba W w.heap.size x) (AW.start H.1 x) ?_;rintro W ⟨aw,ab⟩;have S:=hZ (aK aw ab);have q1:=ab.at 1 bB;have q2:=ab.at 2 bB;have q3:=ab.at 3 bB;have q5:=ab.at 5 bB;have q0:=ab.at 0 bB;have q4:=ab.at 4 bB;have q6:=ab.at 6 bB;have q7:=ab.at 7 bB;have y5:=aw.a5;simp only[fU.cell]at q0 q1 q2 q3 q4 q5 q6 q7;have GE:Hid (w.heap.size+1=w.heap.size+1):=hZ rfl;go_cut [6]from 7 to 218 (λer wc=>∃(E n m:Int) (s1:St),er=bN E/\Hid (Kn.td N s.k x n E s1.k/\AW Wr s w (w.heap.size+1) s1 n m ⟨#[]⟩ wc))
 case first=>
  by_cases t0:(x.kind.toList==[102,111,114,107])=bw
  .as_aux_lemma=>
   have CT:=hZ (KV Wr N d s W (by have:=H.2.2.1;omega) x.a x.on S.1.kk (aH H.2.2.2.1 S.1.kf.ia.size) H.2.1.ki.vi);rw[HK.v]at CT;go_wp2_with fail
   refine CT.mono ?_;rintro e w5 ⟨p,E,s',rfl,r5,k5,f5⟩;have S5:=hZ (aK r5 (S.1.step (s2:=s') k5 f5));have y0:=S5.2.a5.at 0 _ rfl;have fz:=cE S5.2.a5;go_wp2
   go_meet
   case rel=>exact⟨_,_,_,_,rfl, .inl ⟨t0,p,rfl,S5.1⟩,S5.2.kT _⟩
  have t0:(x.kind.toList==[102,111,114,107])=bA:=by simpa using t0
  by_cases t1:(x.kind.toList==[101,120,105,116])=bw
  .as_aux_lemma=>
   have CT:=hZ (Bp Wr N d s W (by have:=H.2.2.1;omega) x.a x.b S.1.kk H.2.1.ki);rw[HK.v]at CT;go_wp2_with fail
   refine CT.mono ?_;rintro e w5 ⟨k',rfl,r5,k5,f5⟩;have S5:=hZ (aK r5 (S.1.step (s2:={s with k:=k'}) k5 f5));go_wp2
   go_meet
   case rel=>exact⟨_,_,_,_,rfl, .ot (.of t1 rfl) (.inl ⟨t1,S5.1⟩),S5.2⟩
  have t1:(x.kind.toList==[101,120,105,116])=bA:=by simpa using t1
  by_cases t2:(x.kind.toList==[119,97,105,116])=bw
  .as_aux_lemma=>
   have CT:=hZ (Bv Wr N d s W (by have:=H.2.2.1;omega) x.a S.1.kk H.2.1.ki.vi H.2.1.p0);rw[HK.v]at CT;go_wp2_with fail
   refine CT.mono ?_;rintro e w5 ⟨p,c,E,k',rfl,r5,k5,f5⟩;have S5:=hZ (aK r5 (S.1.step (s2:={s with k:=k'}) k5 f5));have y0:=S5.2.a5.at 0 _ rfl;have y1:=S5.2.a5.at 1 _ rfl;have l5:=S5.2.a5.lt;have fz:=cE S5.2.a5;go_wp2
   go_meet
   case rel=>exact⟨_,_,_,_,rfl, .ot (.of t2 rfl) (.inr (.inl ⟨p,c,E,S5.1⟩)),((S5.2.kT _).Eu _).below ((aQ _ _).alloc (aL _) _)⟩
  have t2:(x.kind.toList==[119,97,105,116])=bA:=by simpa using t2
  by_cases t3:(x.kind.toList==[115,105,103,110,97,108])=bw
  .as_aux_lemma=>
   have CT:=hZ (DB Wr N d s W (by have:=H.2.2.1;omega) x.a x.b x.c S.1.kk H.2.1.ki (λa b=>H.2.1.ki.vi.Jv a b));rw[HK.v]at CT;go_wp2_with fail
   refine CT.mono ?_;rintro e w5 ⟨k',rfl,r5,k5,f5⟩;have S5:=hZ (aK r5 (S.1.step (s2:={s with k:=k'}) k5 f5));go_wp2
   go_meet
   case rel=>exact⟨_,_,_,_,rfl, .ot (.of t3 rfl) (.inr (.inr (.inl S5.1))),S5.2⟩
  have t3:(x.kind.toList==[115,105,103,110,97,108])=bA:=by simpa using t3
  by_cases t4:(x.kind.toList==[104,111,108,100])=bw
  .as_aux_lemma=>
   have CT:=hZ (IY Wr N d s W (by have:=H.2.2.1;omega) x.a x.b x.on S.1.kk H.2.1.ki);rw[HK.v]at CT;go_wp2_with fail
   refine CT.mono ?_;rintro e w5 ⟨E,k',rfl,r5,k5,f5⟩;have S5:=hZ (aK r5 (S.1.step (s2:={s with k:=k'}) k5 f5));go_wp2
   go_meet
   case rel=>exact⟨_,_,_,_,rfl, .ot (.of t4 rfl) (.inr (.inr (.inr (.inl ⟨E,S5.1⟩)))),S5.2⟩
  have t4:(x.kind.toList==[104,111,108,100])=bA:=by simpa using t4
  by_cases t5:(x.kind.toList==[104,111,119])=bw
  .as_aux_lemma=>
   have CT:=hZ (K7 Wr N d s W (by have:=H.2.2.1;omega) x.a x.b x.c S.1.kk H.2.1.ki);rw[HK.v]at CT;go_wp2_with fail
   refine CT.mono ?_;rintro e w5 ⟨E,k',rfl,r5,k5,f5⟩;have S5:=hZ (aK r5 (S.1.step (s2:={s with k:=k'}) k5 f5));go_wp2
   go_meet
   case rel=>exact⟨_,_,_,_,rfl, .ot (.of t5 rfl) (.inr (.inr (.inr (.inr (.inl ⟨E,S5.1⟩))))),S5.2⟩
  have t5:(x.kind.toList==[104,111,119])=bA:=by simpa using t5
  by_cases t6:(x.kind.toList==[116,97,107,101])=bw
  .as_aux_lemma=>
   have CT:=hZ (I2 Wr s W x.a S.1.kk (λn hn l=>H.2.1.ki.has hn l));rw[HK.v]at CT;go_wp2_with fail
   refine CT.mono ?_;rintro e w5 ⟨m,E,k',rfl,r5,k5,f5⟩;have S5:=hZ (aK r5 (S.1.step (s2:={s with k:=k'}) k5 f5));have y0:=S5.2.a5.at 0 _ rfl;have fz:=cE S5.2.a5;go_wp2
   go_meet
   case rel=>exact⟨_,_,_,_,rfl, .ot (.of t6 rfl) (.inr (.inr (.inr (.inr (.inr (.inl ⟨m,E,S5.1⟩)))))),S5.2.kT _⟩
  have t6:(x.kind.toList==[116,97,107,101])=bA:=by simpa using t6
  by_cases t7:(x.kind.toList==[109,97,112])=bw
  .as_aux_lemma=>
   have CT:=hZ (Oq Wr N s W x.a x.b x.c x.on S.1.kk H.2.1.ki.vi.kj);rw[HK.v]at CT;go_wp2_with fail
   refine CT.mono ?_;rintro e w5 ⟨v,s',rfl,r5,k5,f5⟩;have r6:(∃E,v=bN E)/\Kn.xg N s.k x s'.k:=by
    rcases r5 with⟨n,_,hn,l,rfl,e⟩|⟨_,rfl,e⟩
    .exact⟨⟨_,rfl⟩, .inr (.inr (.inr (.inr (.inr (.inr (.inl ⟨n,_,hn,l,Mv.RQ _ _ _ _,e⟩))))))⟩
    .exact⟨⟨_,rfl⟩, .inr (.inr (.inr (.inr (.inr (.inr (.inr (.inr (.inr (.inr (e))))))))))⟩
   obtain⟨⟨E,rfl⟩,r7⟩:=r6;have S5:=hZ (aK r7 (S.1.step (s2:=s') k5 f5));go_wp2
   go_meet
   case rel=>exact⟨_,_,_,_,rfl, .ot (.of t7 rfl) (S5.1),S5.2⟩
  have t7:(x.kind.toList==[109,97,112])=bA:=by simpa using t7
  by_cases t8:(x.kind.toList==[112,114,111,116,101,99,116])=bw
  .as_aux_lemma=>
   have CT:=hZ (La Wr N s W x.a x.b x.c x.on S.1.kk H.2.1.ki.vi.kj);rw[HK.v]at CT;go_wp2_with fail
   refine CT.mono ?_;rintro e w5 ⟨v,s',rfl,r5,k5,f5⟩;have r6:(∃E,v=bN E)/\Kn.xg N s.k x s'.k:=by
    rcases r5 with⟨n,_,hn,l,rfl,e⟩|⟨_,rfl,e⟩
    .exact⟨⟨_,rfl⟩, .inr (.inr (.inr (.inr (.inr (.inr (.inl ⟨n,_,hn,l,Mv.Sc _ _ _ _,e⟩))))))⟩
    .exact⟨⟨_,rfl⟩, .inr (.inr (.inr (.inr (.inr (.inr (.inr (.inr (.inr (.inr (e))))))))))⟩
   obtain⟨⟨E,rfl⟩,r7⟩:=r6;have S5:=hZ (aK r7 (S.1.step (s2:=s') k5 f5));go_wp2
   go_meet
   case rel=>exact⟨_,_,_,_,rfl, .ot (.of t8 rfl) (S5.1),S5.2⟩
  have t8:(x.kind.toList==[112,114,111,116,101,99,116])=bA:=by simpa using t8
  by_cases t9:(x.kind.toList==[117,110,109,97,112])=bw
  .as_aux_lemma=>
   have CT:=hZ (wW Wr N s W x.a x.b x.c S.1.kk H.2.1.ki.vi.kj (by obtain⟨Wy,t⟩:=H.2.1.ki.vi.kj.gr;exact t.small (by have:=H.2.2.1;omega)));rw[HK.v]at CT;go_wp2_with fail
   refine CT.mono ?_;rintro e w5 ⟨v,s',rfl,r5,k5,f5⟩;have r6:∃E,v=bN E/\∀a,Kn.td N s.k x a E s'.k:=by
    rcases r5 with⟨n,a,hn,l,rfl,e⟩|⟨ne,rfl,e⟩
    .exact⟨_,rfl,λ_=> .inr (.inl ⟨t9, .inl ⟨n,a,hn,l,rfl,e⟩⟩)⟩
    .exact⟨_,rfl,λ_=> .inr (.inl ⟨t9, .inr ⟨Kn.xh ne,e⟩⟩)⟩
   obtain⟨E,rfl,r7⟩:=r6;have S5:=hZ (aK r7 (S.1.step (s2:=s') k5 f5));go_wp2
   go_meet
   case rel=>exact⟨_,_,_,_,rfl,S5.1 _,S5.2⟩
  have t9:(x.kind.toList==[117,110,109,97,112])=bA:=by simpa using t9
  by_cases t10:(x.kind.toList==[108,111,97,100])=bw
  .as_aux_lemma=>
   have CT:=hZ (K6 Wr N d s W x.a x.b (Dy Wr N d s W (by have:=H.2.2.1;omega) S.1.kk H.2.1) (by have:=H.2.2.1;omega) S.1.kk H.2.1);rw[HK.v]at CT;go_wp2_with fail
   refine CT.mono ?_;rintro e w5 ⟨v,s',rfl,⟨u,y,rfl,r5,ub⟩,k5,f5⟩;obtain⟨E,rfl⟩:∃E,y=bN E:=by obtain⟨E,e,_⟩:=r5;exact⟨E,e⟩
   have S5:=hZ (aK (aK r5 ub) (S.1.step (s2:=s') k5 f5));have y0:=S5.2.a5.at 0 _ rfl;have fz:=cE S5.2.a5;go_wp2
   go_meet
   case rel=>exact⟨_,wrap64 u,_,_,rfl, .inr (.inr (.inl ⟨t10,u, .inr (IntWalk.i64_left u).symm,S5.1.1,λe=>S5.1.2 (by rw[e];rfl)⟩)),S5.2.kT _⟩
  have t10:(x.kind.toList==[108,111,97,100])=bA:=by simpa using t10
  by_cases t11:(x.kind.toList==[115,116,111,114,101])=bw
  .as_aux_lemma=>
   have CT:=hZ (λu=>I8 Wr N d s W x.a x.b u (Dy Wr N d s W (by have:=H.2.2.1;omega) S.1.kk H.2.1) (by have:=H.2.2.1;omega) S.1.kk H.2.1);simp only[HK.v]at CT;go_wp2_with fail
   refine(CT.v _).mono ?_;rintro e w5 ⟨y,s',rfl,r5,k5,f5⟩;obtain⟨E,rfl⟩:∃E,y=bN E:=by obtain⟨E,e,_⟩:=r5;exact⟨E,e⟩
   have S5:=hZ (aK r5 (S.1.step (s2:=s') k5 f5));go_wp2
   go_meet
   case rel=>exact⟨_,_,_,_,rfl, .inr (.inr (.inr (.inl ⟨t11,S5.1⟩))),S5.2⟩
  have t11:(x.kind.toList==[115,116,111,114,101])=bA:=by simpa using t11
  by_cases t12:(x.kind.toList==[97,100,100])=bw
  .as_aux_lemma=>
   have CT:=hZ (KT Wr N s W x.a x.b S.1.kk H.2.1.ki.vi.kj);rw[HK.v]at CT;go_wp2_with fail
   refine CT.mono ?_;rintro e w5 ⟨v,s',rfl,⟨⟨y,E,rfl⟩,r5⟩,k5,f5⟩;have S5:=hZ (aK r5 (S.1.step (s2:=s') k5 f5));have y0:=S5.2.a5.at 0 _ rfl;have fz:=cE S5.2.a5;go_wp2
   go_meet
   case rel=>exact⟨_,_,_,_,rfl, .ot (.of t12 rfl) (.inr (.inr (.inr (.inr (.inr (.inr (.inr (.inl S5.1)))))))),S5.2.kT _⟩
  have t12:(x.kind.toList==[97,100,100])=bA:=by simpa using t12
  by_cases t13:(x.kind.toList==[100,114,111,112])=bw
  .as_aux_lemma=>
   have CT:=hZ (IN Wr N s W (by have:=H.2.2.1;omega) x.a S.1.kk H.2.1.ki.vi.kj);rw[HK.v]at CT;go_wp2_with fail
   refine CT.mono ?_;rintro e w5 ⟨v,s',rfl,⟨⟨E,rfl⟩,r5⟩,k5,f5⟩;have S5:=hZ (aK r5 (S.1.step (s2:=s') k5 f5));go_wp2
   go_meet
   case rel=>exact⟨_,_,_,_,rfl, .ot (.of t13 rfl) (.inr (.inr (.inr (.inr (.inr (.inr (.inr (.inl S5.1)))))))),S5.2⟩
  have t13:(x.kind.toList==[100,114,111,112])=bA:=by simpa using t13
  by_cases t14:(x.kind.toList==[108,105,109,105,116])=bw
  .as_aux_lemma=>
   have CT:=hZ (IQ Wr N s W x.a x.b x.c S.1.kk H.2.1.ki.vi.kj);rw[HK.v]at CT;go_wp2_with fail
   refine CT.mono ?_;rintro e w5 ⟨v,s',rfl,⟨⟨E,rfl⟩,r5⟩,k5,f5⟩;have S5:=hZ (aK r5 (S.1.step (s2:=s') k5 f5));go_wp2
   go_meet
   case rel=>exact⟨_,_,_,_,rfl, .inr (.inr (.inr (.inr (.inl ⟨t14,S5.1⟩)))),S5.2⟩
  have t14:(x.kind.toList==[108,105,109,105,116])=bA:=by simpa using t14
  by_cases t15:(x.kind.toList==[106,111,105,110])=bw
  .as_aux_lemma=>
   have CT:=hZ (KZ Wr N s W (by have:=H.2.2.1;omega) x.a x.b S.1.kk H.2.1.ki.vi.kj);rw[HK.v]at CT;go_wp2_with fail
   refine CT.mono ?_;rintro e w5 ⟨y,s',rfl,r5,k5,f5⟩;obtain⟨E,rfl⟩:∃E,y=bN E:=by obtain⟨E,e,_⟩:=r5;exact⟨E,e⟩
   have S5:=hZ (aK r5 (S.1.step (s2:=s') k5 f5));go_wp2
   go_meet
   case rel=>exact⟨_,_,_,_,rfl, .ot (.of t15 rfl) (.inr (.inr (.inr (.inr (.inr (.inr (.inr (.inr (.inl ⟨_,S5.1⟩))))))))),S5.2⟩
  have t15:(x.kind.toList==[106,111,105,110])=bA:=by simpa using t15
  by_cases t16:(x.kind.toList==[115,108,101,101,112])=bw
  .as_aux_lemma=>
   have CT:=hZ (I7 Wr s W x.a x.on S.1.kk);rw[HK.v]at CT;go_wp2_with fail
   refine CT.mono ?_;rintro e w5 ⟨y,s',rfl,r5,k5,f5⟩;obtain⟨E,rfl⟩:∃E,y=bN E:=by obtain⟨E,_,e,_⟩:=r5;exact⟨E,e⟩
   have S5:=hZ (aK r5 (S.1.step (s2:=s') k5 f5));go_wp2
   go_meet
   case rel=>exact⟨_,_,_,_,rfl, .ot (.of t16 rfl) (.inr (.inr (.inr (.inr (.inr (.inr (.inr (.inr (.inr (.inl ⟨_,S5.1⟩)))))))))),S5.2⟩
  have t16:(x.kind.toList==[115,108,101,101,112])=bA:=by simpa using t16
  by_cases t17:(x.kind.toList==[102,114,101,101,122,101])=bw
  .as_aux_lemma=>
   have CT:=hZ (FA Wr N s W x.a x.on S.1.kk H.2.1.ki.vi.kj);rw[HK.v]at CT;go_wp2_with fail
   refine CT.mono ?_;rintro e w5 ⟨v,s',rfl,⟨⟨E,rfl⟩,r5⟩,k5,f5⟩;have S5:=hZ (aK r5 (S.1.step (s2:=s') k5 f5));go_wp2
   go_meet
   case rel=>exact⟨_,_,_,_,rfl, .ot (.of t17 rfl) (.inr (.inr (.inr (.inr (.inr (.inr (.inr (.inl S5.1)))))))),S5.2⟩
  have t17:(x.kind.toList==[102,114,101,101,122,101])=bA:=by simpa using t17
  by_cases t18:(x.kind.toList==[113,117,111,116,97])=bw
  .as_aux_lemma=>
   have CT:=hZ (I6 Wr N s W x.a x.b x.c S.1.kk H.2.1.ki.vi.kj);rw[HK.v]at CT;go_wp2_with fail
   refine CT.mono ?_;rintro e w5 ⟨v,s',rfl,⟨⟨E,rfl⟩,r5⟩,k5,f5⟩;have S5:=hZ (aK r5 (S.1.step (s2:=s') k5 f5));go_wp2
   go_meet
   case rel=>exact⟨_,_,_,_,rfl, .ot (.of t18 rfl) (.inr (.inr (.inr (.inr (.inr (.inr (.inr (.inl S5.1)))))))),S5.2⟩
  have t18:(x.kind.toList==[113,117,111,116,97])=bA:=by simpa using t18
  by_cases t19:(x.kind.toList==[116,105,99,107])=bw
  .as_aux_lemma=>
   have CT:=hZ (Bu Wr s W S.1.kk);rw[HK.v]at CT;go_wp2_with fail
   refine CT.mono ?_;rintro e w5 ⟨r,m,rfl,r5,k5,f5⟩;have S5:=hZ (aK r5 (S.1.step (s2:={s with k:={s.k with sc:=m}}) k5 f5));have y0:=S5.2.a5.at 0 _ rfl;have fz:=cE S5.2.a5;go_wp2
   go_meet
   case rel=>exact⟨_,_,_,_,bF.symm, .inr (.inr (.inr (.inr (.inr (.inl ⟨t19,m,S5.1,rfl⟩))))),S5.2.kT _⟩
  have t19:(x.kind.toList==[116,105,99,107])=bA:=by simpa using t19
  have nk:Kn.NK x:=λl hl=>by
   unfold Kn.wk at hl;simp only[List.mem_cons,List.not_mem_nil,or_false]at hl;rcases hl with rfl|rfl|rfl|rfl|rfl|rfl<;>assumption
  have NK:=hZ nk
  as_aux_lemma=>
   have CT:=hZ (NJ Wr N d s W x S.1.kk H.2.1 H.2.2.1 (aH H.2.2.2.1 S.1.kf.ia.size) H.2.2.2.2);rw[HK.v]at CT;go_wp2_with fail
   refine CT.mono ?_;rintro e w5 ⟨n,m,E,t,s',rfl,r5,k5,f5⟩;have S5:=hZ (aK r5 (S.1.step (s2:=s') k5 f5));obtain⟨c,hc⟩:=nJ (w.heap.size+1);rw[hc]at S5|-;have z0:=S5.2.a4.at 0 _ rfl;have z1:=S5.2.a4.at 1 _ rfl;have z2:=S5.2.a4.at 2 _ rfl;have z3:=S5.2.a4.at 3 _ rfl;have f4:=cE S5.2.a4;have FI:=hZ (S5.2.VE n m E t);go_wp2_with fail
   exact bodyPost_ret (v:=au #[aa az n,aa az m,aa az E,ak t]) (by simp[results,Tryz.results12,go_sem,z0,z1,z2,z3]) rfl ⟨n,m,E,t,s',rfl, .inr ⟨NK.v,S5.1⟩,FI.v⟩
 case rest=>
  obtain⟨E,n,m,s1,rfl,T⟩:=hcut;have NB:=hZ (rZ E wc);go_wp2_with fail
  refine cG NB.v ?_;obtain⟨c,hc⟩:=nJ (w.heap.size+1);rw[hc]at T|-;have y0:=T.2.a5.at 0 _ rfl;have y1:=T.2.a5.at 1 _ rfl;have y2:=T.2.a5.at 2 _ rfl;have y3:=T.2.a5.at 3 _ rfl;have z0:=T.2.a4.at 0 _ rfl;have z1:=T.2.a4.at 1 _ rfl;have z2:=T.2.a4.at 2 _ rfl;have z3:=T.2.a4.at 3 _ rfl;have f5:=cE T.2.a5;have f4:=cE T.2.a4;have FI:=hZ (T.2.fin E);go_wp2_with fail
  exact bodyPost_ret (v:=au #[aa az n,aa az m,aa az E,ak ⟨#[]⟩]) (by simp[results,Tryz.results12,go_sem,z0,z1,z2,z3]) rfl ⟨n,m,E,_,s1,rfl, .inl T.1,FI.v⟩

import Derived.Test.YtpmmdkcfenjiaaaGreatDoorRows
import Derived.LaidMore
import Derived.Lay
import Derived.SevenTiedAt
import Derived.Test.YtpmmdkcfenjiaaaGreatDoorXar
set_option maxRecDepth 100000
set_option maxHeartbeats 20000000
set_option linter.unusedVariables false
set_option linter.unusedSimpArgs false
namespace Go.Proofs.YtpmmdkcfenjiaaaGreatDoor
open Value renaming int->aa,pointer->ai,slice->aj,string->ak,tuple->ao,bool->ar,agg->au
open IntKind renaming i64->bf,u8->bh,u64->bj
open Ending renaming returned->bw
open Obj renaming cells->bA
open Option renaming some->bB,none->bC
open Bool renaming true->bE,false->bF
open _root_.Go.Proofs.Tryz (prog)
open Go.RowKit
open Fx (Fi)
open Tr (Fo Nd)
open Pp (Pi)
open Mo (Wh Mt)
open Mv (Me Bk)
open Kn (Pr Kp St us KB KJ VI EI KH)
theorem Tr.U7{F:Fo}(h:Tr.Ok F)(z:Int)(i:Nat):((Tr.rR F z).getD i ⟨#[]⟩).size<=8:=by
 rw[aF];cases e:(Tr.rR F z)[i]? with
 |none=>exact aC _
 |some s=>
  have m:=bK e;unfold Tr.rR at m;by_cases c:Tr.cQ F z 2=0
  .rw[aJ c]at m;obtain⟨n,rfl,n40,_,k2⟩:=Tr.fE c;simp only[rX,Tr.tX,List.mem_map,List.mem_mergeSort,List.mem_range,hZ]at m;obtain⟨_,⟨_,⟨j,hj,rfl⟩,rfl⟩,rfl⟩:=m;have:=h.nb n j n40 k2 hj;unfold Tr.gq at this;simp only[Bool.and_eq_true,decide_eq_true_eq]at this;exact this.1.1.1.2
  .rw[aI c]at m;cases m
section
variable (VK N:Nat)(d:Nat->Nat)(s:St)(w:bD)
theorem Iu(z:Int)(p:bU)(h:bT w VK s)(hj:KJ (λ_=>False) N s.k):
  Calls prog 133 #[ai (bB ⟨s.A 0,0,bC⟩),aa bf z,ak p] w λe w'=>∃u E L,e=bw (ao #[u,bS E])/\(L.length<=8/\∀i,(L.getD i ⟨#[]⟩).size<=8)/\(∀c,c<w.heap.size->TL c L u w')/\Below w.heap.size w w':=by
 have WK:=hJ (uL VK N s w z p h hj);have LI:Hid (∀V (x:Int),Below w.heap.size w V->Calls prog 213 #[ai (bB ⟨s.A 6,0,bC⟩),aa bf x] V λe w'=>∃u E L,e=bw (ao #[u,bS E])/\(L.length<=8/\∀i,(L.getD i ⟨#[]⟩).size<=8)/\(∀c,c<w.heap.size->TL c L u w')/\Below w.heap.size w w'):=hJ (λV x b=>(LF (s.A 6) x s.k.fo V (h.below b).fo hj.ok.sz).mono (by rintro _ w' ⟨u,rfl,o⟩;exact⟨u,_,_,rfl,⟨Tr.N4 hj.ok.sz x,Tr.U7 hj.ok x⟩,λc hc=>o.tl (aD hc b.size),b.trans (o.cZ.mono b.size)⟩));have C6:Hid (∀V,Below w.heap.size w V->V.cell? ⟨s.A 0,250,bC⟩=bB (ai (bB ⟨s.A 6,0,bC⟩))):=hJ (λV b=>(h.below b).wI);generalize s.A 0=kb at*;generalize s.A 6=a6 at*;go_in
 go_wp2_with fail
 refine WK.mono ?_;rintro e w1 ⟨x,E,rfl,b1⟩;by_cases E0:E=0
 .subst E0;rw[bN];have c6:=C6.v _ b1;go_wp2_with fail
  refine(LI.v _ _ b1).mono ?_;rintro e w2 ⟨u,E,L,rfl,S2⟩;have S2:=hJ S2;go_wp2
  go_ret2
  exact⟨u,E,L,rfl,S2.v⟩
 .have E1:=hJ (bP E0);rw[bP E0];go_wp2
  go_ret2
  exact⟨_,E,[],PG E1.v,⟨by simp,λ_=>aC _⟩,λ_ _=>⟨bC,0,rfl,λc=>by cases c⟩,b1⟩
theorem Kt(z:Int)(p:bU)(h:bT w VK s)(hj:KJ (λ_=>False) N s.k):
  Calls prog 134 #[ai (bB ⟨s.A 0,0,bC⟩),aa bf z,ak p] w λe w'=>∃(o1 o2 o3 o4 E:Int),e=bw (ao #[au #[aa bf o1,aa bf o2,aa bf o3,aa bf o4],bS E])/\Below w.heap.size w w':=by
 have B0:=hJ ((aQ w.heap.size w).alloc (aL _) (bA #[aa bf 0,aa bf 0,aa bf 0,aa bf 0] 156));have WK:=hJ (uL VK N s _ z p (h.below B0.v) hj);have OF:Hid (∀V (x:Int),Below w.heap.size w V->Calls prog 214 #[ai (bB ⟨s.A 6,0,bC⟩),aa bf x] V λe w'=>∃(o1 o2 o3 o4 E:Int),e=bw (ao #[au #[aa bf o1,aa bf o2,aa bf o3,aa bf o4],bS E])/\Below V.heap.size V w'):=hJ (λV x b=>(qd (s.A 6) x s.k.fo V (h.below b).fo).mono (by
  rintro _ w' ⟨rfl,o⟩;obtain⟨o1,o2,o3,o4,e,_⟩:=Mo.La s.k.fo x;exact⟨o1,o2,o3,o4,_,by rw[e],o⟩))
 have C6:Hid (∀V,Below w.heap.size w V->V.cell? ⟨s.A 0,250,bC⟩=bB (ai (bB ⟨s.A 6,0,bC⟩))):=hJ (λV b=>(h.below b).wI);generalize s.A 0=kb at*;generalize s.A 6=a6 at*;go_in
 go_wp2_with fail
 refine WK.mono ?_;rintro e w1 ⟨x,E,rfl,b1⟩;obtain⟨hc,hf⟩:=yw b1;have hz:w.heap.size<w1.heap.size:=by have:=b1.size;simp at this;omega
 have b1:=B0.trans (b1.mono B0.size);by_cases E0:E=0
 .subst E0;rw[bN];have c6:=C6.v _ b1;go_wp2_with fail
  refine(OF.v _ _ b1).mono ?_;rintro e w2 ⟨o1,o2,o3,o4,E,rfl,b2⟩;obtain⟨hc2,hf2⟩:=yw b2;have b2:=b1.trans (b2.mono b1.size);go_wp2_with fail
  exact bodyPost_ret (v:=ao #[au #[aa bf o1,aa bf o2,aa bf o3,aa bf o4],bS E]) (by simp[results,Tryz.results134,go_sem,hc2,hc,hz]) rfl ⟨o1,o2,o3,o4,E,rfl,((((b2.setCell (aL _) _).setCell (aL _) _).setCell (aL _) _).setCell (aL _) _)⟩
 .have E1:=hJ (bP E0);rw[bP E0];go_wp2_with fail
  exact bodyPost_ret (v:=ao #[au #[aa bf 0,aa bf 0,aa bf 0,aa bf 0],bS E]) (by simp[results,Tryz.results134,go_sem,hc,E1.v]) rfl ⟨0,0,0,0,E,rfl,((((b1.setCell (aL _) _).setCell (aL _) _).setCell (aL _) _).setCell (aL _) _)⟩
end
section
variable (VK N:Nat)(d:Nat->Nat)(s:St)(w:bD)
theorem M7(x:fp)(h:bT w VK s)(hh:KH N d s.k)(hN:N<880)(hb:VK<=w.heap.size)(hs:x.s.size<2^59):
  Calls prog 56 #[ai (bB ⟨s.A 0,0,bC⟩),au #[ak x.kind,aa bf x.a,aa bf x.b,aa bf x.c,aa bj x.key,ar x.on,ak x.s,ak x.t]] w λe w'=>∃(n m E:Int) (t:bU) (s':St),e=bw (au #[aa bf n,aa bf m,aa bf E,ak t])/\Kn.rK s.k x s'.k/\bT w' VK s'/\KF s w s' w':=by
 have H:=hJ (aK h (aK hh (aK hN (aK hb hs))));obtain⟨kb,hk⟩:=hU (s.A 0);have HK:=hJ hk;rw[hk];clear h hh hN hb hk hs;go_in
 go_upto_block 0 with fail
 refine cR (λW=>AW VK s w (w.heap.size+1) s 0 0 ⟨#[]⟩ W/\og W w.heap.size x) (AW.start H.1 x) ?_;rintro W ⟨aw,ab⟩;have S:=hJ (aK aw ab);have q1:=ab.at 1 bG;have q2:=ab.at 2 bG;have q3:=ab.at 3 bG;have q5:=ab.at 5 bG;have q6:=ab.at 6 bG;have q7:=ab.at 7 bG;have y5:=aw.a5;simp only[fp.cell]at q1 q2 q3 q5 q6 q7;clear aw ab;go_cut [6]from 7 to 222 (λer wc=>∃(E n m:Int) (t:bU) (s1:St),er=bS E/\Hid (Kn.rK s.k x s1.k/\AW VK s w (w.heap.size+1) s1 n m t wc))
 case first=>
  by_cases t0:(x.kind.toList==[111,112,101,110])=bE
  .as_aux_lemma=>
   have CT:=hJ (λu=>Ku VK N s W x.a x.s x.on u S.1.kk H.2.1.ki.vi.kj);simp only[HK.v]at CT;go_wp2_with fail
   refine(CT.v _).mono ?_;rintro e w5 ⟨v,s',rfl,⟨y,E,rfl,r5⟩,k5,f5⟩;have S5:=hJ (aK r5 (S.1.step (s2:=s') k5 f5));have y0:=S5.2.a5.at 0 _ rfl;have fz:=cL S5.2.a5;clear r5 k5 f5 CT q1 q2 q3 q5 q6 q7 y5;go_wp2
   go_meet
   case rel=>exact⟨_,_,_,_,_,rfl, .inl (⟨_,y,E,rfl,S5.1⟩),S5.2.kM _⟩
  have t0:(x.kind.toList==[111,112,101,110])=bF:=by simpa using t0
  by_cases t1:(x.kind.toList==[99,108,111,115,101])=bE
  .as_aux_lemma=>
   have CT:=hJ (Fe VK s W N x.a x.b S.1.kk H.2.1.ki.vi.kj (by have:=H.2.2.1;omega));rw[HK.v]at CT;go_wp2_with fail
   refine CT.mono ?_;rintro e w5 ⟨rfl,k5,f5⟩;have S5:=hJ (aK trivial (S.1.step (s2:={s with k:=Kn.oX s.k x.a x.b}) k5 f5));clear k5 f5 CT q1 q2 q3 q5 q6 q7 y5;go_wp2
   go_meet
   case rel=>exact⟨_,_,_,_,_,rfl, .inr (.inl (rfl)),S5.2⟩
  have t1:(x.kind.toList==[99,108,111,115,101])=bF:=by simpa using t1
  by_cases t2:(x.kind.toList==[100,117,112])=bE
  .as_aux_lemma=>
   have CT:=hJ (Nv VK s W x.a x.b S.1.kk (λn hn=>by have:=H.2.1.ki.vi.kj.rf n hn;have:=H.2.2.1;have e1:(2:Nat)^60=1152921504606846976:=bM;omega));rw[HK.v]at CT;go_wp2_with fail
   refine CT.mono ?_;rintro e w5 ⟨v,s',rfl,⟨y,E,rfl,r5⟩,k5,f5⟩;have S5:=hJ (aK r5 (S.1.step (s2:=s') k5 f5));have y0:=S5.2.a5.at 0 _ rfl;have fz:=cL S5.2.a5;clear r5 k5 f5 CT q1 q2 q3 q5 q6 q7 y5;go_wp2
   go_meet
   case rel=>exact⟨_,_,_,_,_,rfl, .inr (.inr (.inl (⟨_,y,E,rfl,S5.1⟩))),S5.2.kM _⟩
  have t2:(x.kind.toList==[100,117,112])=bF:=by simpa using t2
  by_cases t3:(x.kind.toList==[112,105,112,101])=bE
  .as_aux_lemma=>
   have CT:=hJ (Iy VK s W x.a S.1.kk);rw[HK.v]at CT;go_wp2_with fail
   refine CT.mono ?_;rintro e w5 ⟨A,C,E,k',rfl,r5,k5,f5⟩;have S5:=hJ (aK r5 (S.1.step (s2:={s with k:=k'}) k5 f5));have y0:=S5.2.a5.at 0 _ rfl;have y1:=S5.2.a5.at 1 _ rfl;have fz:=cL S5.2.a5;clear r5 k5 f5 CT q1 q2 q3 q5 q6 q7 y5;go_wp2
   go_meet
   case rel=>exact⟨_,_,_,_,_,rfl, .inr (.inr (.inr (.inl (⟨A,C,E,S5.1⟩)))),(S5.2.kM _).Ec _⟩
  have t3:(x.kind.toList==[112,105,112,101])=bF:=by simpa using t3
  by_cases t4:(x.kind.toList==[114,101,97,100])=bE
  .as_aux_lemma=>
   have CT:=hJ (Iz VK s W x.a x.b x.c S.1.kk H.2.1.ki.vi.kj.ok.fz H.2.1.ki.vi.kj.wx.pz);rw[HK.v]at CT;go_wp2_with fail
   refine CT.mono ?_;rintro e w5 ⟨rfl,k5,f5⟩;have S5:=hJ (aK trivial (S.1.step (s2:={s with k:=Kn.oY s.k x.a x.b x.c}) k5 f5));have y3:=S5.2.a5.at 3 _ rfl;have fz:=cL S5.2.a5;clear k5 f5 CT q1 q2 q3 q5 q6 q7 y5;go_wp2
   go_meet
   case rel=>exact⟨_,_,_,_,_,rfl, .inr (.inr (.inr (.inr (.inl (rfl))))),S5.2.mF _⟩
  have t4:(x.kind.toList==[114,101,97,100])=bF:=by simpa using t4
  by_cases t5:(x.kind.toList==[119,114,105,116,101])=bE
  .as_aux_lemma=>
   have CT:=hJ (Fg VK N d s W (by have:=H.2.2.1;omega) x.a x.b x.s S.1.kk H.2.2.2.2 H.2.1.ki.vi.kj.wx.pz (λ_=>(H.2.1.BJ _ _).ki));rw[HK.v]at CT;go_wp2_with fail
   refine CT.mono ?_;rintro e w5 ⟨A,E,k',rfl,r5,k5,f5⟩;have S5:=hJ (aK r5 (S.1.step (s2:={s with k:=k'}) k5 f5));have y0:=S5.2.a5.at 0 _ rfl;have fz:=cL S5.2.a5;clear r5 k5 f5 CT q1 q2 q3 q5 q6 q7 y5;go_wp2
   go_meet
   case rel=>exact⟨_,_,_,_,_,rfl, .inr (.inr (.inr (.inr (.inr (.inl (⟨A,E,S5.1⟩)))))),S5.2.kM _⟩
  have t5:(x.kind.toList==[119,114,105,116,101])=bF:=by simpa using t5
  by_cases t6:(x.kind.toList==[115,101,101,107])=bE
  .as_aux_lemma=>
   have CT:=hJ (Kw VK s W x.a x.b x.c S.1.kk);rw[HK.v]at CT;go_wp2_with fail
   refine CT.mono ?_;rintro e w5 ⟨v,s',rfl,⟨E,rfl,r5⟩,k5,f5⟩;have S5:=hJ (aK r5 (S.1.step (s2:=s') k5 f5));clear r5 k5 f5 CT q1 q2 q3 q5 q6 q7 y5;go_wp2
   go_meet
   case rel=>exact⟨_,_,_,_,_,rfl,S5.1.elim (λe=> .inr (.inr (.inr (.inr (.inr (.inr (.inr (.inr (.inr (.inr (e))))))))))) (λe=> .inr (.inr (.inr (.inr (.inr (.inr (.inl (e)))))))),S5.2⟩
  have t6:(x.kind.toList==[115,101,101,107])=bF:=by simpa using t6
  by_cases t7:(x.kind.toList==[109,107,100,105,114])=bE
  .as_aux_lemma=>
   have CT:=hJ (It VK N s W x.a x.s S.1.kk H.2.1.ki.vi.kj);rw[HK.v]at CT;go_wp2_with fail
   refine CT.mono ?_;rintro e w5 ⟨v,s',rfl,⟨E,G,rfl,r5⟩,k5,f5⟩;have S5:=hJ (aK r5 (S.1.step (s2:=s') k5 f5));clear r5 k5 f5 CT q1 q2 q3 q5 q6 q7 y5;go_wp2
   go_meet
   case rel=>exact⟨_,_,_,_,_,rfl, .inr (.inr (.inr (.inr (.inr (.inr (.inr (.inl (⟨_,E,G,rfl,S5.1⟩)))))))),S5.2⟩
  have t7:(x.kind.toList==[109,107,100,105,114])=bF:=by simpa using t7
  by_cases t8:(x.kind.toList==[114,101,109,111,118,101])=bE
  .as_aux_lemma=>
   have CT:=hJ (NF VK N s W x.a x.s S.1.kk H.2.1.ki.vi.kj);rw[HK.v]at CT;go_wp2_with fail
   refine CT.mono ?_;rintro e w5 ⟨v,s',rfl,⟨E,G,rfl,r5⟩,k5,f5⟩;have S5:=hJ (aK r5 (S.1.step (s2:=s') k5 f5));clear r5 k5 f5 CT q1 q2 q3 q5 q6 q7 y5;go_wp2
   go_meet
   case rel=>exact⟨_,_,_,_,_,rfl, .inr (.inr (.inr (.inr (.inr (.inr (.inr (.inl (⟨_,E,G,rfl,S5.1⟩)))))))),S5.2⟩
  have t8:(x.kind.toList==[114,101,109,111,118,101])=bF:=by simpa using t8
  by_cases t9:(x.kind.toList==[109,111,118,101])=bE
  .as_aux_lemma=>
   have CT:=hJ (NA VK N s W x.a x.s x.t S.1.kk H.2.1.ki.vi.kj);rw[HK.v]at CT;go_wp2_with fail
   refine CT.mono ?_;rintro e w5 ⟨v,s',rfl,⟨E,G,rfl,r5⟩,k5,f5⟩;have S5:=hJ (aK r5 (S.1.step (s2:=s') k5 f5));clear r5 k5 f5 CT q1 q2 q3 q5 q6 q7 y5;go_wp2
   go_meet
   case rel=>exact⟨_,_,_,_,_,rfl, .inr (.inr (.inr (.inr (.inr (.inr (.inr (.inl (⟨_,E,G,rfl,S5.1⟩)))))))),S5.2⟩
  have t9:(x.kind.toList==[109,111,118,101])=bF:=by simpa using t9
  by_cases t10:(x.kind.toList==[108,105,110,107])=bE
  .as_aux_lemma=>
   have CT:=hJ (Ny VK N s W x.a x.s x.t S.1.kk H.2.1.ki.vi.kj);rw[HK.v]at CT;go_wp2_with fail
   refine CT.mono ?_;rintro e w5 ⟨v,s',rfl,⟨E,G,rfl,r5⟩,k5,f5⟩;have S5:=hJ (aK r5 (S.1.step (s2:=s') k5 f5));clear r5 k5 f5 CT q1 q2 q3 q5 q6 q7 y5;go_wp2
   go_meet
   case rel=>exact⟨_,_,_,_,_,rfl, .inr (.inr (.inr (.inr (.inr (.inr (.inr (.inl (⟨_,E,G,rfl,S5.1⟩)))))))),S5.2⟩
  have t10:(x.kind.toList==[108,105,110,107])=bF:=by simpa using t10
  by_cases t11:(x.kind.toList==[98,105,110,100])=bE
  .as_aux_lemma=>
   have CT:=hJ (Kj VK N s W x.a x.s x.t S.1.kk (aH H.2.2.2.1 S.1.kf.ie.size) H.2.1.ki.vi.kj);rw[HK.v]at CT;go_wp2_with fail
   refine CT.mono ?_;rintro e w5 ⟨v,s',rfl,⟨E,rfl,r5⟩,k5,f5⟩;have S5:=hJ (aK r5 (S.1.step (s2:=s') k5 f5));clear r5 k5 f5 CT q1 q2 q3 q5 q6 q7 y5;go_wp2
   go_meet
   case rel=>exact⟨_,_,_,_,_,rfl, .inr (.inr (.inr (.inr (.inr (.inr (.inr (.inr (.inl (⟨_,E,rfl,S5.1⟩))))))))),S5.2⟩
  have t11:(x.kind.toList==[98,105,110,100])=bF:=by simpa using t11
  by_cases t12:(x.kind.toList==[117,110,98,105,110,100])=bE
  .as_aux_lemma=>
   have CT:=hJ (Fk VK N s W x.a x.s S.1.kk H.2.1.ki.vi.kj);rw[HK.v]at CT;go_wp2_with fail
   refine CT.mono ?_;rintro e w5 ⟨v,s',rfl,⟨E,rfl,r5⟩,k5,f5⟩;have S5:=hJ (aK r5 (S.1.step (s2:=s') k5 f5));clear r5 k5 f5 CT q1 q2 q3 q5 q6 q7 y5;go_wp2
   go_meet
   case rel=>exact⟨_,_,_,_,_,rfl, .inr (.inr (.inr (.inr (.inr (.inr (.inr (.inr (.inl (⟨_,E,rfl,S5.1⟩))))))))),S5.2⟩
  have t12:(x.kind.toList==[117,110,98,105,110,100])=bF:=by simpa using t12
  by_cases t13:(x.kind.toList==[110,97,109,101,115])=bE
  .as_aux_lemma=>
   have CT:=hJ (Iu VK N s W x.a x.s S.1.kk H.2.1.ki.vi.kj);rw[HK.v]at CT;go_wp2_with fail
   refine CT.mono ?_;rintro e w5 ⟨u,E,L,rfl,⟨l8,n8⟩,tl,b5⟩;have N8:=hJ n8;clear n8;obtain⟨ua,uc,rfl,ub⟩:=tl (w.heap.size+1+1) S.1.a5.lt;have S5:Hid (AW VK s w (w.heap.size+1) s 0 0 ⟨#[]⟩ w5/\og w5 w.heap.size x/\TL (w.heap.size+1+1) L (aj ua L.length uc) w5):=hJ ⟨S.1.below b5,(b5.block _ (aX.1 S.2).1).trans S.2,ua,uc,rfl,ub⟩;clear tl ub b5 CT q1 q2 q3 q5 q6 q7 y5 S;obtain⟨c,hc⟩:=hU (w.heap.size+1);have HC:=hJ hc;rw[hc]at S5|-;obtain⟨ba,hba⟩:=hU (w.heap.size);have HB:Hid (w.heap.size=ba/\c=ba+1):=hJ ⟨hba,by rw[<-hba,hc]⟩;rw[hba]at S5|-;clear hc hba;go_wp2_with fail
   go_loopw [9] (λi wr=>∃(j:Nat) (t:bU),i=aa bf j/\j<=L.length/\Hid (AW VK s w c s 0 0 t wr/\og wr ba x/\TL (c+1) L (aj ua L.length uc) wr/\t.size<=9*j)) (λi _=>L.length-(intOf i).toNat)
   case atStart=>exact⟨0,_,rfl,aC _,S5.1,S5.2.1,S5.2.2,aC _⟩
   case round=>
    clear S5;obtain⟨j,t,rfl,hj,S⟩:=hrel;by_cases hlt:j<L.length
    .have hltI:(j:Int)<(L.length:Int):=bG
     obtain⟨a2,c2,e2,tt⟩:=S.2.2.1;cases e2;obtain⟨g,rfl,gb,gl,gc⟩:=tt bG;have y3:=S.1.a5.at 3 _ rfl;have fz:=cL S.1.a5;have c1:=gc j hlt;have NX:Hid (∀z,AW VK s w c s 0 0 z ((wr.setCell ⟨c+1,3,bC⟩ (ak z)).drew)/\og ((wr.setCell ⟨c+1,3,bC⟩ (ak z)).drew) ba x/\TL (c+1) L (aj (bB ⟨g,0,bC⟩) L.length uc) ((wr.setCell ⟨c+1,3,bC⟩ (ak z)).drew)):=hJ (λz=>⟨(S.1.mF z).below ⟨rfl,rfl,rfl,aL _,λ_ _=>rfl⟩,(dS _ _ _ _ (by have:=HB.2;omega)).trans S.2.1,S.2.2.1.mK (((bO.refl _ _).setCell _ _).drew)⟩);have z1:=S.2.2.2;have z2:=N8.v j;generalize L.getD j ⟨#[]⟩=nm at*;have z3:¬9223372036854775807<t.size+nm.size:=bG
     have z4:¬9223372036854775807<t.size+nm.size+1:=bG
     have Z:=hJ (aK z1 z2);clear gc tt z1 z2;go_wp2_with fail
     go_region
     go_wp2
     go_roundw
     case rel=>exact⟨j+1,_,by go_num,bG,(NX.v _).1,(NX.v _).2.1,(NX.v _).2.2,by have:=Z.v;simp only[ByteArray.size_append];show _+1<=_;omega⟩
     case measure=>simp[intOf];omega
    .have hltI:¬(j:Int)<(L.length:Int):=bG
     have CT:=hJ (Kt VK N s wr x.a x.s S.1.kk H.2.1.ki.vi.kj);rw[HK.v]at CT;have q1:=S.2.1.at 1 bG;have q6:=S.2.1.at 6 bG;simp only[fp.cell]at q1 q6;go_wp2_with fail
     refine CT.mono ?_;rintro e w6 ⟨o1,o2,o3,o4,E2,rfl,b6⟩;have S6:Hid (AW VK s w c s 0 0 t w6):=hJ (S.1.below b6);clear b6 q1 q6 S CT;generalize bS E2=ev2;have y0:=S6.a5.at 0 _ rfl;have fz:=cL S6.a5;have lt6:=S6.a5.lt;go_wp2_with fail
     have e1:=HB.1;have e2:=HC.v;subst e1;subst e2;go_meet
     case rel=>exact⟨_,_,_,_,s,rfl, .inr (.inr (.inr (.inr (.inr (.inr (.inr (.inr (.inr (.inr (rfl)))))))))),(S6.kM _).below ((aQ _ _).alloc (aL _) _)⟩
  have t13:(x.kind.toList==[110,97,109,101,115])=bF:=by simpa using t13
  by_cases t14:(x.kind.toList==[112,108,97,110,116])=bE
  .as_aux_lemma=>
   have CT:=hJ (ID VK N s W S.1.kk H.2.1.ki.vi.kj);rw[HK.v]at CT;go_wp2_with fail
   refine CT.mono ?_;rintro e w5 ⟨v,s',rfl,⟨T,E,G,rfl,r5⟩,k5,f5⟩;have S5:=hJ (aK r5 (S.1.step (s2:=s') k5 f5));have y0:=S5.2.a5.at 0 _ rfl;have fz:=cL S5.2.a5;clear r5 k5 f5 CT q1 q2 q3 q5 q6 q7 y5;go_wp2
   go_meet
   case rel=>exact⟨_,_,_,_,_,rfl, .inr (.inr (.inr (.inr (.inr (.inr (.inr (.inr (.inr (.inl (⟨T,E,G,S5.1⟩)))))))))),S5.2.kM _⟩
  have t14:(x.kind.toList==[112,108,97,110,116])=bF:=by simpa using t14
  by_cases t15:(x.kind.toList==[112,105,118,111,116])=bE
  .as_aux_lemma=>
   have CT:=hJ (IC VK N s W x.a x.b S.1.kk H.2.1.ki.vi.kj);rw[HK.v]at CT;go_wp2_with fail
   refine CT.mono ?_;rintro e w5 ⟨v,s',rfl,⟨E,rfl,r5⟩,k5,f5⟩;have S5:=hJ (aK r5 (S.1.step (s2:=s') k5 f5));clear r5 k5 f5 CT q1 q2 q3 q5 q6 q7 y5;go_wp2
   go_meet
   case rel=>exact⟨_,_,_,_,_,rfl, .inr (.inr (.inr (.inr (.inr (.inr (.inr (.inr (.inl (⟨_,E,rfl,S5.1⟩))))))))),S5.2⟩
  have t15:(x.kind.toList==[112,105,118,111,116])=bF:=by simpa using t15
  go_wp2
  go_meet
  case rel=>exact⟨0,_,_,_,s,bN.symm, .inr (.inr (.inr (.inr (.inr (.inr (.inr (.inr (.inr (.inr (rfl)))))))))),S.1⟩
 case rest=>
  clear q1 q2 q3 q5 q6 q7 y5 S;obtain⟨E,n,m,t,s1,rfl,T⟩:=hcut;have NB:=hJ (wP E wc);go_wp2_with fail
  refine cN NB.v ?_;obtain⟨c,hc⟩:=hU (w.heap.size+1);rw[hc]at T|-;have y0:=T.2.a5.at 0 _ rfl;have y1:=T.2.a5.at 1 _ rfl;have y2:=T.2.a5.at 2 _ rfl;have y3:=T.2.a5.at 3 _ rfl;have z0:=T.2.a4.at 0 _ rfl;have z1:=T.2.a4.at 1 _ rfl;have z2:=T.2.a4.at 2 _ rfl;have z3:=T.2.a4.at 3 _ rfl;have f5:=cL T.2.a5;have f4:=cL T.2.a4;have FI:=hJ (T.2.fin E);clear hc;go_wp2_with fail
  exact bodyPost_ret (v:=au #[aa bf n,aa bf m,aa bf E,ak t]) (by simp[results,Tryz.results56,go_sem,z0,z1,z2,z3]) rfl ⟨n,m,E,t,s1,rfl,T.1,FI.v⟩
end
section
variable (VK N:Nat)(d:Nat->Nat)(s:St)(w:bD)
theorem P9(x:fp)(h:bT w VK s)(hh:KH N d s.k)(hN:N<880)(hb:VK<=w.heap.size)(hs:x.s.size<2^59):
  Calls prog 12 #[ai (bB ⟨s.A 0,0,bC⟩),au #[ak x.kind,aa bf x.a,aa bf x.b,aa bf x.c,aa bj x.key,ar x.on,ak x.s,ak x.t]] w λe w'=>∃(n m E:Int) (t:bU) (s':St),e=bw (au #[aa bf n,aa bf m,aa bf E,ak t])/\(Kn.sO N s.k x n E s'.k\/Kn.NK x/\Kn.rK s.k x s'.k)/\bT w' VK s'/\KF s w s' w':=by
 have H:=hJ (aK h (aK hh (aK hN (aK hb hs))));obtain⟨kb,hk⟩:=hU (s.A 0);have HK:=hJ hk;rw[hk];go_in
 go_upto_block 0 with fail
 refine cR (λW=>AW VK s w (w.heap.size+1) s 0 0 ⟨#[]⟩ W/\og W w.heap.size x) (AW.start H.1 x) ?_;rintro W ⟨aw,ab⟩;have S:=hJ (aK aw ab);have q1:=ab.at 1 bG;have q2:=ab.at 2 bG;have q3:=ab.at 3 bG;have q5:=ab.at 5 bG;have q0:=ab.at 0 bG;have q4:=ab.at 4 bG;have q6:=ab.at 6 bG;have q7:=ab.at 7 bG;have y5:=aw.a5;simp only[fp.cell]at q0 q1 q2 q3 q4 q5 q6 q7;have GE:Hid (w.heap.size+1=w.heap.size+1):=hJ rfl;go_cut [6]from 7 to 218 (λer wc=>∃(E n m:Int) (s1:St),er=bS E/\Hid (Kn.sO N s.k x n E s1.k/\AW VK s w (w.heap.size+1) s1 n m ⟨#[]⟩ wc))
 case first=>
  by_cases t0:(x.kind.toList==[102,111,114,107])=bE
  .as_aux_lemma=>
   have CT:=hJ (Kl VK N d s W (by have:=H.2.2.1;omega) x.a x.on S.1.kk (aH H.2.2.2.1 S.1.kf.ie.size) H.2.1.ki.vi);rw[HK.v]at CT;go_wp2_with fail
   refine CT.mono ?_;rintro e w5 ⟨p,E,s',rfl,r5,k5,f5⟩;have S5:=hJ (aK r5 (S.1.step (s2:=s') k5 f5));have y0:=S5.2.a5.at 0 _ rfl;have fz:=cL S5.2.a5;go_wp2
   go_meet
   case rel=>exact⟨_,_,_,_,rfl, .inl ⟨t0,p,rfl,S5.1⟩,S5.2.kM _⟩
  have t0:(x.kind.toList==[102,111,114,107])=bF:=by simpa using t0
  by_cases t1:(x.kind.toList==[101,120,105,116])=bE
  .as_aux_lemma=>
   have CT:=hJ (Kk VK N d s W (by have:=H.2.2.1;omega) x.a x.b S.1.kk H.2.1.ki);rw[HK.v]at CT;go_wp2_with fail
   refine CT.mono ?_;rintro e w5 ⟨k',rfl,r5,k5,f5⟩;have S5:=hJ (aK r5 (S.1.step (s2:={s with k:=k'}) k5 f5));go_wp2
   go_meet
   case rel=>exact⟨_,_,_,_,rfl, .ot (.of t1 rfl) (.inl ⟨t1,S5.1⟩),S5.2⟩
  have t1:(x.kind.toList==[101,120,105,116])=bF:=by simpa using t1
  by_cases t2:(x.kind.toList==[119,97,105,116])=bE
  .as_aux_lemma=>
   have CT:=hJ (Kz VK N d s W (by have:=H.2.2.1;omega) x.a S.1.kk H.2.1.ki.vi H.2.1.p0);rw[HK.v]at CT;go_wp2_with fail
   refine CT.mono ?_;rintro e w5 ⟨p,c,E,k',rfl,r5,k5,f5⟩;have S5:=hJ (aK r5 (S.1.step (s2:={s with k:=k'}) k5 f5));have y0:=S5.2.a5.at 0 _ rfl;have y1:=S5.2.a5.at 1 _ rfl;have l5:=S5.2.a5.lt;have fz:=cL S5.2.a5;go_wp2
   go_meet
   case rel=>exact⟨_,_,_,_,rfl, .ot (.of t2 rfl) (.inr (.inl ⟨p,c,E,S5.1⟩)),((S5.2.kM _).Ec _).below ((aQ _ _).alloc (aL _) _)⟩
  have t2:(x.kind.toList==[119,97,105,116])=bF:=by simpa using t2
  by_cases t3:(x.kind.toList==[115,105,103,110,97,108])=bE
  .as_aux_lemma=>
   have CT:=hJ (Dp VK N d s W (by have:=H.2.2.1;omega) x.a x.b x.c S.1.kk H.2.1.ki (λa b=>H.2.1.ki.vi.OH a b));rw[HK.v]at CT;go_wp2_with fail
   refine CT.mono ?_;rintro e w5 ⟨k',rfl,r5,k5,f5⟩;have S5:=hJ (aK r5 (S.1.step (s2:={s with k:=k'}) k5 f5));go_wp2
   go_meet
   case rel=>exact⟨_,_,_,_,rfl, .ot (.of t3 rfl) (.inr (.inr (.inl S5.1))),S5.2⟩
  have t3:(x.kind.toList==[115,105,103,110,97,108])=bF:=by simpa using t3
  by_cases t4:(x.kind.toList==[104,111,108,100])=bE
  .as_aux_lemma=>
   have CT:=hJ (Ix VK N d s W (by have:=H.2.2.1;omega) x.a x.b x.on S.1.kk H.2.1.ki);rw[HK.v]at CT;go_wp2_with fail
   refine CT.mono ?_;rintro e w5 ⟨E,k',rfl,r5,k5,f5⟩;have S5:=hJ (aK r5 (S.1.step (s2:={s with k:=k'}) k5 f5));go_wp2
   go_meet
   case rel=>exact⟨_,_,_,_,rfl, .ot (.of t4 rfl) (.inr (.inr (.inr (.inl ⟨E,S5.1⟩)))),S5.2⟩
  have t4:(x.kind.toList==[104,111,108,100])=bF:=by simpa using t4
  by_cases t5:(x.kind.toList==[104,111,119])=bE
  .as_aux_lemma=>
   have CT:=hJ (Ks VK N d s W (by have:=H.2.2.1;omega) x.a x.b x.c S.1.kk H.2.1.ki);rw[HK.v]at CT;go_wp2_with fail
   refine CT.mono ?_;rintro e w5 ⟨E,k',rfl,r5,k5,f5⟩;have S5:=hJ (aK r5 (S.1.step (s2:={s with k:=k'}) k5 f5));go_wp2
   go_meet
   case rel=>exact⟨_,_,_,_,rfl, .ot (.of t5 rfl) (.inr (.inr (.inr (.inr (.inl ⟨E,S5.1⟩))))),S5.2⟩
  have t5:(x.kind.toList==[104,111,119])=bF:=by simpa using t5
  by_cases t6:(x.kind.toList==[116,97,107,101])=bE
  .as_aux_lemma=>
   have CT:=hJ (IA VK s W x.a S.1.kk (λn hn l=>H.2.1.ki.has hn l));rw[HK.v]at CT;go_wp2_with fail
   refine CT.mono ?_;rintro e w5 ⟨m,E,k',rfl,r5,k5,f5⟩;have S5:=hJ (aK r5 (S.1.step (s2:={s with k:=k'}) k5 f5));have y0:=S5.2.a5.at 0 _ rfl;have fz:=cL S5.2.a5;go_wp2
   go_meet
   case rel=>exact⟨_,_,_,_,rfl, .ot (.of t6 rfl) (.inr (.inr (.inr (.inr (.inr (.inl ⟨m,E,S5.1⟩)))))),S5.2.kM _⟩
  have t6:(x.kind.toList==[116,97,107,101])=bF:=by simpa using t6
  by_cases t7:(x.kind.toList==[109,97,112])=bE
  .as_aux_lemma=>
   have CT:=hJ (Nz VK N s W x.a x.b x.c x.on S.1.kk H.2.1.ki.vi.kj);rw[HK.v]at CT;go_wp2_with fail
   refine CT.mono ?_;rintro e w5 ⟨v,s',rfl,r5,k5,f5⟩;have r6:(∃E,v=bS E)/\Kn.uk N s.k x s'.k:=by
    rcases r5 with⟨n,_,hn,l,rfl,e⟩|⟨_,rfl,e⟩
    .exact⟨⟨_,rfl⟩, .inr (.inr (.inr (.inr (.inr (.inr (.inl ⟨n,_,hn,l,Mv.QX _ _ _ _,e⟩))))))⟩
    .exact⟨⟨_,rfl⟩, .inr (.inr (.inr (.inr (.inr (.inr (.inr (.inr (.inr (.inr (e))))))))))⟩
   obtain⟨⟨E,rfl⟩,r7⟩:=r6;have S5:=hJ (aK r7 (S.1.step (s2:=s') k5 f5));go_wp2
   go_meet
   case rel=>exact⟨_,_,_,_,rfl, .ot (.of t7 rfl) (S5.1),S5.2⟩
  have t7:(x.kind.toList==[109,97,112])=bF:=by simpa using t7
  by_cases t8:(x.kind.toList==[112,114,111,116,101,99,116])=bE
  .as_aux_lemma=>
   have CT:=hJ (Kv VK N s W x.a x.b x.c x.on S.1.kk H.2.1.ki.vi.kj);rw[HK.v]at CT;go_wp2_with fail
   refine CT.mono ?_;rintro e w5 ⟨v,s',rfl,r5,k5,f5⟩;have r6:(∃E,v=bS E)/\Kn.uk N s.k x s'.k:=by
    rcases r5 with⟨n,_,hn,l,rfl,e⟩|⟨_,rfl,e⟩
    .exact⟨⟨_,rfl⟩, .inr (.inr (.inr (.inr (.inr (.inr (.inl ⟨n,_,hn,l,Mv.Rh _ _ _ _,e⟩))))))⟩
    .exact⟨⟨_,rfl⟩, .inr (.inr (.inr (.inr (.inr (.inr (.inr (.inr (.inr (.inr (e))))))))))⟩
   obtain⟨⟨E,rfl⟩,r7⟩:=r6;have S5:=hJ (aK r7 (S.1.step (s2:=s') k5 f5));go_wp2
   go_meet
   case rel=>exact⟨_,_,_,_,rfl, .ot (.of t8 rfl) (S5.1),S5.2⟩
  have t8:(x.kind.toList==[112,114,111,116,101,99,116])=bF:=by simpa using t8
  by_cases t9:(x.kind.toList==[117,110,109,97,112])=bE
  .as_aux_lemma=>
   have CT:=hJ (Ff VK N s W x.a x.b x.c S.1.kk H.2.1.ki.vi.kj (by obtain⟨Wy,t⟩:=H.2.1.ki.vi.kj.gr;exact t.small (by have:=H.2.2.1;omega)));rw[HK.v]at CT;go_wp2_with fail
   refine CT.mono ?_;rintro e w5 ⟨v,s',rfl,r5,k5,f5⟩;have r6:∃E,v=bS E/\∀a,Kn.sO N s.k x a E s'.k:=by
    rcases r5 with⟨n,a,hn,l,rfl,e⟩|⟨ne,rfl,e⟩
    .exact⟨_,rfl,λ_=> .inr (.inl ⟨t9, .inl ⟨n,a,hn,l,rfl,e⟩⟩)⟩
    .exact⟨_,rfl,λ_=> .inr (.inl ⟨t9, .inr ⟨Kn.sR ne,e⟩⟩)⟩
   obtain⟨E,rfl,r7⟩:=r6;have S5:=hJ (aK r7 (S.1.step (s2:=s') k5 f5));go_wp2
   go_meet
   case rel=>exact⟨_,_,_,_,rfl,S5.1 _,S5.2⟩
  have t9:(x.kind.toList==[117,110,109,97,112])=bF:=by simpa using t9
  by_cases t10:(x.kind.toList==[108,111,97,100])=bE
  .as_aux_lemma=>
   have CT:=hJ (Kr VK N d s W x.a x.b (Dl VK N d s W (by have:=H.2.2.1;omega) S.1.kk H.2.1) (by have:=H.2.2.1;omega) S.1.kk H.2.1);rw[HK.v]at CT;go_wp2_with fail
   refine CT.mono ?_;rintro e w5 ⟨v,s',rfl,⟨u,y,rfl,r5,ub⟩,k5,f5⟩;obtain⟨E,rfl⟩:∃E,y=bS E:=by obtain⟨E,e,_⟩:=r5;exact⟨E,e⟩
   have S5:=hJ (aK (aK r5 ub) (S.1.step (s2:=s') k5 f5));have y0:=S5.2.a5.at 0 _ rfl;have fz:=cL S5.2.a5;go_wp2
   go_meet
   case rel=>exact⟨_,wrap64 u,_,_,rfl, .inr (.inr (.inl ⟨t10,u, .inr (IntWalk.i64_left u).symm,S5.1.1,λe=>S5.1.2 (by rw[e];rfl)⟩)),S5.2.kM _⟩
  have t10:(x.kind.toList==[108,111,97,100])=bF:=by simpa using t10
  by_cases t11:(x.kind.toList==[115,116,111,114,101])=bE
  .as_aux_lemma=>
   have CT:=hJ (λu=>II VK N d s W x.a x.b u (Dl VK N d s W (by have:=H.2.2.1;omega) S.1.kk H.2.1) (by have:=H.2.2.1;omega) S.1.kk H.2.1);simp only[HK.v]at CT;go_wp2_with fail
   refine(CT.v _).mono ?_;rintro e w5 ⟨y,s',rfl,r5,k5,f5⟩;obtain⟨E,rfl⟩:∃E,y=bS E:=by obtain⟨E,e,_⟩:=r5;exact⟨E,e⟩
   have S5:=hJ (aK r5 (S.1.step (s2:=s') k5 f5));go_wp2
   go_meet
   case rel=>exact⟨_,_,_,_,rfl, .inr (.inr (.inr (.inl ⟨t11,S5.1⟩))),S5.2⟩
  have t11:(x.kind.toList==[115,116,111,114,101])=bF:=by simpa using t11
  by_cases t12:(x.kind.toList==[97,100,100])=bE
  .as_aux_lemma=>
   have CT:=hJ (Ki VK N s W x.a x.b S.1.kk H.2.1.ki.vi.kj);rw[HK.v]at CT;go_wp2_with fail
   refine CT.mono ?_;rintro e w5 ⟨v,s',rfl,⟨⟨y,E,rfl⟩,r5⟩,k5,f5⟩;have S5:=hJ (aK r5 (S.1.step (s2:=s') k5 f5));have y0:=S5.2.a5.at 0 _ rfl;have fz:=cL S5.2.a5;go_wp2
   go_meet
   case rel=>exact⟨_,_,_,_,rfl, .ot (.of t12 rfl) (.inr (.inr (.inr (.inr (.inr (.inr (.inr (.inl S5.1)))))))),S5.2.kM _⟩
  have t12:(x.kind.toList==[97,100,100])=bF:=by simpa using t12
  by_cases t13:(x.kind.toList==[100,114,111,112])=bE
  .as_aux_lemma=>
   have CT:=hJ (Io VK N s W (by have:=H.2.2.1;omega) x.a S.1.kk H.2.1.ki.vi.kj);rw[HK.v]at CT;go_wp2_with fail
   refine CT.mono ?_;rintro e w5 ⟨v,s',rfl,⟨⟨E,rfl⟩,r5⟩,k5,f5⟩;have S5:=hJ (aK r5 (S.1.step (s2:=s') k5 f5));go_wp2
   go_meet
   case rel=>exact⟨_,_,_,_,rfl, .ot (.of t13 rfl) (.inr (.inr (.inr (.inr (.inr (.inr (.inr (.inl S5.1)))))))),S5.2⟩
  have t13:(x.kind.toList==[100,114,111,112])=bF:=by simpa using t13
  by_cases t14:(x.kind.toList==[108,105,109,105,116])=bE
  .as_aux_lemma=>
   have CT:=hJ (Iq VK N s W x.a x.b x.c S.1.kk H.2.1.ki.vi.kj);rw[HK.v]at CT;go_wp2_with fail
   refine CT.mono ?_;rintro e w5 ⟨v,s',rfl,⟨⟨E,rfl⟩,r5⟩,k5,f5⟩;have S5:=hJ (aK r5 (S.1.step (s2:=s') k5 f5));go_wp2
   go_meet
   case rel=>exact⟨_,_,_,_,rfl, .inr (.inr (.inr (.inr (.inl ⟨t14,S5.1⟩)))),S5.2⟩
  have t14:(x.kind.toList==[108,105,109,105,116])=bF:=by simpa using t14
  by_cases t15:(x.kind.toList==[106,111,105,110])=bE
  .as_aux_lemma=>
   have CT:=hJ (Kq VK N s W (by have:=H.2.2.1;omega) x.a x.b S.1.kk H.2.1.ki.vi.kj);rw[HK.v]at CT;go_wp2_with fail
   refine CT.mono ?_;rintro e w5 ⟨y,s',rfl,r5,k5,f5⟩;obtain⟨E,rfl⟩:∃E,y=bS E:=by obtain⟨E,e,_⟩:=r5;exact⟨E,e⟩
   have S5:=hJ (aK r5 (S.1.step (s2:=s') k5 f5));go_wp2
   go_meet
   case rel=>exact⟨_,_,_,_,rfl, .ot (.of t15 rfl) (.inr (.inr (.inr (.inr (.inr (.inr (.inr (.inr (.inl ⟨_,S5.1⟩))))))))),S5.2⟩
  have t15:(x.kind.toList==[106,111,105,110])=bF:=by simpa using t15
  by_cases t16:(x.kind.toList==[115,108,101,101,112])=bE
  .as_aux_lemma=>
   have CT:=hJ (IF VK s W x.a x.on S.1.kk);rw[HK.v]at CT;go_wp2_with fail
   refine CT.mono ?_;rintro e w5 ⟨y,s',rfl,r5,k5,f5⟩;obtain⟨E,rfl⟩:∃E,y=bS E:=by obtain⟨E,_,e,_⟩:=r5;exact⟨E,e⟩
   have S5:=hJ (aK r5 (S.1.step (s2:=s') k5 f5));go_wp2
   go_meet
   case rel=>exact⟨_,_,_,_,rfl, .ot (.of t16 rfl) (.inr (.inr (.inr (.inr (.inr (.inr (.inr (.inr (.inr (.inl ⟨_,S5.1⟩)))))))))),S5.2⟩
  have t16:(x.kind.toList==[115,108,101,101,112])=bF:=by simpa using t16
  by_cases t17:(x.kind.toList==[102,114,101,101,122,101])=bE
  .as_aux_lemma=>
   have CT:=hJ (Fb VK N s W x.a x.on S.1.kk H.2.1.ki.vi.kj);rw[HK.v]at CT;go_wp2_with fail
   refine CT.mono ?_;rintro e w5 ⟨v,s',rfl,⟨⟨E,rfl⟩,r5⟩,k5,f5⟩;have S5:=hJ (aK r5 (S.1.step (s2:=s') k5 f5));go_wp2
   go_meet
   case rel=>exact⟨_,_,_,_,rfl, .ot (.of t17 rfl) (.inr (.inr (.inr (.inr (.inr (.inr (.inr (.inl S5.1)))))))),S5.2⟩
  have t17:(x.kind.toList==[102,114,101,101,122,101])=bF:=by simpa using t17
  by_cases t18:(x.kind.toList==[113,117,111,116,97])=bE
  .as_aux_lemma=>
   have CT:=hJ (IE VK N s W x.a x.b x.c S.1.kk H.2.1.ki.vi.kj);rw[HK.v]at CT;go_wp2_with fail
   refine CT.mono ?_;rintro e w5 ⟨v,s',rfl,⟨⟨E,rfl⟩,r5⟩,k5,f5⟩;have S5:=hJ (aK r5 (S.1.step (s2:=s') k5 f5));go_wp2
   go_meet
   case rel=>exact⟨_,_,_,_,rfl, .ot (.of t18 rfl) (.inr (.inr (.inr (.inr (.inr (.inr (.inr (.inl S5.1)))))))),S5.2⟩
  have t18:(x.kind.toList==[113,117,111,116,97])=bF:=by simpa using t18
  by_cases t19:(x.kind.toList==[116,105,99,107])=bE
  .as_aux_lemma=>
   have CT:=hJ (Bi VK s W S.1.kk);rw[HK.v]at CT;go_wp2_with fail
   refine CT.mono ?_;rintro e w5 ⟨r,m,rfl,r5,k5,f5⟩;have S5:=hJ (aK r5 (S.1.step (s2:={s with k:={s.k with sc:=m}}) k5 f5));have y0:=S5.2.a5.at 0 _ rfl;have fz:=cL S5.2.a5;go_wp2
   go_meet
   case rel=>exact⟨_,_,_,_,bN.symm, .inr (.inr (.inr (.inr (.inr (.inl ⟨t19,m,S5.1,rfl⟩))))),S5.2.kM _⟩
  have t19:(x.kind.toList==[116,105,99,107])=bF:=by simpa using t19
  have nk:Kn.NK x:=λl hl=>by
   unfold Kn.wk at hl;simp only[List.mem_cons,List.not_mem_nil,or_false]at hl;rcases hl with rfl|rfl|rfl|rfl|rfl|rfl<;>assumption
  have NK:=hJ nk
  as_aux_lemma=>
   have CT:=hJ (M7 VK N d s W x S.1.kk H.2.1 H.2.2.1 (aH H.2.2.2.1 S.1.kf.ie.size) H.2.2.2.2);rw[HK.v]at CT;go_wp2_with fail
   refine CT.mono ?_;rintro e w5 ⟨n,m,E,t,s',rfl,r5,k5,f5⟩;have S5:=hJ (aK r5 (S.1.step (s2:=s') k5 f5));obtain⟨c,hc⟩:=hU (w.heap.size+1);rw[hc]at S5|-;have z0:=S5.2.a4.at 0 _ rfl;have z1:=S5.2.a4.at 1 _ rfl;have z2:=S5.2.a4.at 2 _ rfl;have z3:=S5.2.a4.at 3 _ rfl;have f4:=cL S5.2.a4;have FI:=hJ (S5.2.U2 n m E t);go_wp2_with fail
   exact bodyPost_ret (v:=au #[aa bf n,aa bf m,aa bf E,ak t]) (by simp[results,Tryz.results12,go_sem,z0,z1,z2,z3]) rfl ⟨n,m,E,t,s',rfl, .inr ⟨NK.v,S5.1⟩,FI.v⟩
 case rest=>
  obtain⟨E,n,m,s1,rfl,T⟩:=hcut;have NB:=hJ (wP E wc);go_wp2_with fail
  refine cN NB.v ?_;obtain⟨c,hc⟩:=hU (w.heap.size+1);rw[hc]at T|-;have y0:=T.2.a5.at 0 _ rfl;have y1:=T.2.a5.at 1 _ rfl;have y2:=T.2.a5.at 2 _ rfl;have y3:=T.2.a5.at 3 _ rfl;have z0:=T.2.a4.at 0 _ rfl;have z1:=T.2.a4.at 1 _ rfl;have z2:=T.2.a4.at 2 _ rfl;have z3:=T.2.a4.at 3 _ rfl;have f5:=cL T.2.a5;have f4:=cL T.2.a4;have FI:=hJ (T.2.fin E);go_wp2_with fail
  exact bodyPost_ret (v:=au #[aa bf n,aa bf m,aa bf E,ak ⟨#[]⟩]) (by simp[results,Tryz.results12,go_sem,z0,z1,z2,z3]) rfl ⟨n,m,E,_,s1,rfl, .inl T.1,FI.v⟩
end
section
variable {w W W':bD}{kb N:Nat}{d:Nat->Nat}{s:St}
theorem KW.act(h:KW w kb N d s W)(hN:N<880)(x:fp)(hs:x.s.size<2^59):Calls prog 12 #[ai (bB ⟨kb,0,bC⟩),au #[ak x.kind,aa bf x.a,aa bf x.b,aa bf x.c,aa bj x.key,ar x.on,ak x.s,ak x.t]] W λe w'=>∃(n m E:Int) (t:bU) (s':St) (d':Nat->Nat),e=bw (au #[aa bf n,aa bf m,aa bf E,ak t])/\(Kn.sO N s.k x n E s'.k\/Kn.NK x/\Kn.rK s.k x s'.k)/\KF s W s' w'/\KW w kb (N+2) d' s' w':=by
 have:=P9 w.heap.size N d s W x h.kk h.kh hN h.cZ.size hs;rw[h.a0]at this;refine this.mono ?_;rintro e w' ⟨n,m,E,t,s',rfl,r,k,f⟩;obtain⟨d',q⟩:∃d',KH (N+2) d' s'.k:=r.elim h.kh.ac (λr=>h.kh.di r.2);exact⟨n,m,E,t,s',d',rfl,r,f,h.step k f q⟩
end
theorem Kn.CG.Vq{k:Kp}(b:Kn.yc k):Kn.CG k:=by
 obtain⟨p0,pn,_⟩:=b.p;have cz:∀m,m≠0->∀g,Kn.cp (k.p m) g=0/\Kn.cq (k.p m) g=0:=λm m0 g=>by
  rw[pn m m0];exact⟨aI (λx=>x.1 rfl),aI (λx=>x.1 rfl)⟩
 have c0:∀g:Nat,Kn.cp (k.p 0) g=(if g=0 then 1 else 0)/\Kn.cq (k.p 0) g=0:=λg=>by
  rw[p0];unfold Kn.cp Kn.cq;have r:Mv.cX (Kn.ia 6).mem 16=0:=rfl;rw[r];refine⟨?_,by split<;>rfl⟩;by_cases c:g=0
  .rw[aJ c,aJ ⟨by show(1:Nat)≠0;decide,by rw[c];rfl⟩]
  .rw[aI c,aI (λx=>c (by have:(0:Int)=(g:Int):=x.2;omega))]
 have s:∀g M,Kn.sm (λm=>Kn.cp (k.p m) g) (M+1)=(if g=0 then 1 else 0)/\Kn.sm (λm=>Kn.cq (k.p m) g) (M+1)=0:=λg M=>by
  induction M with
  |zero=>exact⟨by show 0+Kn.cp (k.p 0) g=_;rw[(c0 g).1];omega,by show 0+Kn.cq (k.p 0) g=0;rw[(c0 g).2];rfl⟩
  |succ M ih=>exact⟨by show Kn.sm _ (M+1)+Kn.cp (k.p (M+1)) g=_;rw[ih.1,(cz (M+1) bG g).1];omega,by show Kn.sm _ (M+1)+Kn.cq (k.p (M+1)) g=_;rw[ih.2,(cz (M+1) bG g).2];rfl⟩
 have gr:k.gr=Gr.gD Gr.t0 Gr.W0 0 1 0:=by obtain⟨_,_,rfl⟩:=b;rfl
 have t:∀g,g<10->(Gr.gD Gr.t0 Gr.W0 0 1 0 g).op=(if g=0 then 1 else 0)/\(Gr.gD Gr.t0 Gr.W0 0 1 0 g).oq=0:=by decide+kernel
 refine⟨λg hg=>?_,λg hg=>?_,λm hm e=>?_⟩
 .rw[gr,(t g hg).1];exact(s g 19).1.symm
 .rw[gr,(t g hg).2];exact(s g 19).2.symm
 .by_cases c:m=0
  .subst c;exact⟨0,by rw[p0];rfl,bG,by rw[gr];decide+kernel⟩
  .rw[pn m c]at e;exact aZ rfl e
theorem Ni:Array.replicate 2560 (aa .u8 0)=wN (λ_ _=>0):=De (by simp) (λn y hn hy=>by
 have h:n*128+y<2560:=bG
 simp[h])
theorem Kn.Qj{k:Kp}(b:Kn.yc k){n:Nat}(l:Kn.lv k n=bE)(y:Nat):Kn.jy k n y=0:=by
 obtain⟨p0,pn,_⟩:=b.p;unfold Kn.jy;by_cases c:n=0
 .subst c;rw[p0];exact aJ rfl
 .rw[Kn.dJ,pn n c]at l;cases l
section
theorem OX(a0:Option Addr)(b0 o0 n0 c0:Nat)(ax:Nat->fp)(w:bD)(ha:0<n0->a0=bB ⟨b0,o0,bC⟩)(hc:∀i,i<n0->∀j,j<8->w.cell? ⟨b0,o0+i*8+j,bC⟩=bB ((ax i).cell j)):
  Calls prog 4 #[aj a0 n0 c0] w λe w'=>e=bw (ar bE)/\Below w.heap.size w w':=by
 have H0:=hJ (aK ha hc);clear ha hc;go_in
 go_wp2_with fail
 refine(Il _).mono ?_;rintro e w1 ⟨s,rfl,bg,kh,kk,b1⟩;obtain⟨kb,hkb⟩:=hU (s.A 0);have S1:Hid (KW w kb 2 (λ_=>1) s w1/\Kn.yc s.k):=hJ ⟨⟨b1,kk,kh,hkb⟩,bg⟩;rw[hkb];clear bg kh kk b1 hkb;have FW:=hJ (QD a0 b0 o0 n0 c0 120 ax w1 bG H0.1 (λi hi j hj=>by
  have bl:b0<w.heap.size:=bZ _ _ (H0.2 i hi j hj);exact(S1.1.cZ.cell (p:=⟨b0,o0+i*8+j,bC⟩) bl).trans (H0.2 i hi j hj)))
 go_wp2_with fail
 refine FW.mono ?_;rintro e w2 ⟨v,rfl,lt,hw⟩;subst w2;cases v
 .go_wp2
  go_ret
  exact⟨rfl,S1.1.cZ⟩
 .obtain⟨hn,lt⟩:=lt rfl;have LT:=hJ lt;clear lt FW;go_upto_region 5 with fail
  refine cR (λW=>iL w kb 2 (λ_=>1) s w1.heap.size (λ_ _=>0) W) ?_ ?_
  .have bb:=(aQ w1.heap.size w1).alloc (aL _) (bA (wN λ_ _=>0) 45);have q:iL w kb 2 (λ_=>1) s w1.heap.size (λ_ _=>0) (w1.alloc (bA (wN λ_ _=>0) 45)):=⟨S1.1.below bb, .Vq S1.2,heap_alloc_new w1 _,S1.1.kk.iq (aL _),S1.1.cZ.size⟩;rw[<-Ni]at q;exact q
  rintro W2 h2;have S2:Hid (iL w kb 2 (λ_=>1) s w1.heap.size (λ_ _=>0) W2/\lg s.k (λ_ _=>0)):=hJ ⟨h2,λn hn l y hy=>(Kn.Qj S1.2 l y).symm,λ_ _=>⟨Int.le_refl 0,show(0:Int)<256 by decide⟩⟩;clear h2 S1;generalize w1.heap.size=fb at*;go_wp2_with fail
  go_loopw [6] (λi wr=>∃(k:Nat) (s:St) (N:Nat) (d:Nat->Nat) (fl:Nat->Nat->Int),i=aa bf k/\k<=n0/\N<=2+2*k/\Hid (iL w kb N d s fb fl wr/\lg s.k fl)) (λi _=>n0-(intOf i).toNat)
  case atStart=>exact⟨0,s,2,_,_,rfl,bG,bG,S2⟩
  case round=>
   clear S2;obtain⟨k,s,N,d,fl,rfl,hk,hN,S⟩:=hrel;by_cases hlt:k<n0
   .as_aux_lemma=>
    have hltI:(k:Int)<(n0:Int):=bG
    have hae:=H0.1 bG;subst hae;have HN:=hJ (aK hN (aK hk hlt));have HS:=hJ (LT.v k hlt);have cl:∀j,j<8->wr.cell? ⟨b0,o0+k*8+j,bC⟩=bB ((ax k).cell j):=λj hj=>(S.1.kw.cZ.cell (p:=⟨b0,o0+k*8+j,bC⟩) (bZ _ _ (H0.2 k hlt j hj))).trans (H0.2 k hlt j hj);obtain⟨x,hx⟩:=hU (ax k);rw[hx]at cl HS;have q0:wr.cell? ⟨b0,o0+k*8,bC⟩=bB (ak x.kind):=cl 0 bG;have q1:wr.cell? ⟨b0,o0+k*8+1,bC⟩=bB (aa bf x.a):=cl 1 bG;have q2:wr.cell? ⟨b0,o0+k*8+2,bC⟩=bB (aa bf x.b):=cl 2 bG;have q3:wr.cell? ⟨b0,o0+k*8+3,bC⟩=bB (aa bf x.c):=cl 3 bG;have q4:wr.cell? ⟨b0,o0+k*8+4,bC⟩=bB (aa bj x.key):=cl 4 bG;have q5:wr.cell? ⟨b0,o0+k*8+5,bC⟩=bB (ar x.on):=cl 5 bG;have q6:wr.cell? ⟨b0,o0+k*8+6,bC⟩=bB (ak x.s):=cl 6 bG;have q7:wr.cell? ⟨b0,o0+k*8+7,bC⟩=bB (ak x.t):=cl 7 bG;clear cl hx hN hk H0 LT;go_upto_region 9 with fail
    have bb:=(aQ wr.heap.size wr).alloc (aL _) (bA #[ak x.kind,aa bf x.a,aa bf x.b,aa bf x.c,aa bj x.key,ar x.on,ak x.s,ak x.t] 29);refine cR (λW=>(iL w kb N d s fb fl W/\lg s.k fl)/\¬KB s wr.heap.size/\fb≠wr.heap.size/\og W wr.heap.size x) ⟨⟨S.1.below bb,S.2⟩,S.1.kw.kk.iq (aL _),by have:=S.1.ft.lt;omega,heap_alloc_new wr _⟩ ?_;rintro W3 hS3;clear q0 q1 q2 q3 q4 q5 q6 q7 S bb;generalize wr.heap.size=ba at*;have S3:=hJ hS3;clear hS3;have PR:=hJ (tB w.heap.size s W3 S3.1.1.kw.kk);rw[S3.1.1.kw.a0]at PR;go_wp2_with fail
    refine PR.mono ?_;rintro e w4 ⟨v4,rfl,hL⟩;have l0:0<(Kn.fN s.k 20).length:=by
     have:(0:Nat)∈Kn.fN s.k 20:=by unfold Kn.fN;simp;exact S3.1.1.kw.kh.l0
     exact List.length_pos_of_mem this
    obtain⟨gg,cap,rfl,gl,gc⟩:=hL.cells l0;have S4:Hid ((iL w kb N d s fb fl w4/\lg s.k fl)/\¬KB s ba/\fb≠ba/\og w4 ba x):=hJ ⟨⟨S3.1.1.below hL.cZ,S3.1.2⟩,S3.2.1,S3.2.2.1,(hL.cZ.block ba (aX.1 S3.2.2.2).1).trans S3.2.2.2⟩;have LN:=hJ (Kn.Bl s.k 20);have CH:=hJ (λ(n c:Nat) (k':Kp) (f:Kn.FK s.k n c k')=>Kn.IM f);clear gl gc hL PR S3 l0;generalize (Kn.fN s.k 20).length=ln at*;have AC:=hJ (S4.1.1.kw.act (by have:=HN.v;omega) x HS.v);have x0:=S4.2.2.2.at 0 bG;have x1:=S4.2.2.2.at 1 bG;have x2:=S4.2.2.2.at 2 bG;have x3:=S4.2.2.2.at 3 bG;have x4:=S4.2.2.2.at 4 bG;have x5:=S4.2.2.2.at 5 bG;have x6:=S4.2.2.2.at 6 bG;have x7:=S4.2.2.2.at 7 bG;simp only[fp.cell]at x0 x1 x2 x3 x4 x5 x6 x7;go_wp2_with fail
    refine AC.mono ?_;rintro e w5 ⟨a,m,E,t,s',d',rfl,r,f5,k5⟩;have OA:=hJ (Kn.Tq S4.1.1.cg S4.1.1.kw.kh k5.kh r);have S5:Hid (iL w kb (N+2) d' s' fb fl w5/\lg s.k fl/\fb≠ba/\og w5 ba x):=hJ ⟨S4.1.1.step f5 k5 (S4.1.1.cg.ac S4.1.1.kw.kh r),S4.1.2,S4.2.2.1,(f5.jl (aX.1 S4.2.2.2).1 S4.2.1).trans S4.2.2.2⟩;clear r f5 k5 AC S4 x0 x1 x2 x3 x4 x5 x6 x7;go_upto_region 11 with fail
    have bb:=(aQ w5.heap.size w5).alloc (aL _) (bA #[aa bf a,aa bf m,aa bf E,ak t] 38);refine cR (λW=>(iL w kb (N+2) d' s' fb fl W/\lg s.k fl/\fb≠ba/\og W ba x)/\fb≠w5.heap.size/\ud W w5.heap.size a m E t) ⟨⟨S5.1.below bb,S5.2.1,S5.2.2.1,(bb.block ba (aX.1 S5.2.2.2).1).trans S5.2.2.2⟩,by have:=S5.1.ft.lt;omega,heap_alloc_new w5 _⟩ ?_;rintro W6 hS6;clear S5 bb;generalize w5.heap.size=bn at*;have S6:=hJ hS6;have y0:=hS6.2.2.at 0 _ rfl;have y2:=hS6.2.2.at 2 _ rfl;have x0:=hS6.1.2.2.2.at 0 bG;have x1:=hS6.1.2.2.2.at 1 bG;have x2:=hS6.1.2.2.2.at 2 bG;have x3:=hS6.1.2.2.2.at 3 bG;simp only[fp.cell]at x0 x1 x2 x3;clear hS6;by_cases e0:0<E
    .as_aux_lemma=>
     have be:Kn.BE s.k s'.k:=by
      rcases OA.v with q|q
      .exact q.2
      .omega
     have S7:Hid (iL w kb (N+2) d' s' fb fl W6/\lg s'.k fl):=hJ ⟨S6.1.1,S6.1.2.1.be be⟩;clear be OA S6;go_wp2
     go_roundw
     case rel=>exact⟨k+1,s',N+2,d',fl,by go_num,by have:=HN.v;omega,by have:=HN.v;omega,S7⟩
     case measure=>simp[intOf];have:=HN.v;omega
    .have oa:Kn.R6 s.k x a s'.k:=by
      rcases OA.v with q|q
      .exact aZ q.1 e0
      .exact q.2
     clear OA;rcases oa with⟨t1,n,c,p,xa,fk,rfl,p20,se,sn⟩|⟨t1,n,b,c,xa,hn,xb,xc,bc,bu⟩|⟨t1,n,y,xa,hn,xb,hy,bs⟩|⟨t1,n,y,xa,hn,xb,hy,be,l,ay⟩|⟨t1,t2,t3,t4,be⟩
     .as_aux_lemma=>
      have t1:(x.kind.toList==[102,111,114,107])=bE:=t1;rw[xa]at x1;have hn:=fk.hn;have hc:=fk.j4;have hnI:(n:Int)<20:=bG
      have hcI:(c:Int)<20:=bG
      have SE:=hJ (Dr w.heap.size s' W6 (n:Int) (p:Int) S6.1.1.kw.kk S6.1.1.kw.kh.ki.vi.iv.qR);rw[S6.1.1.kw.a0,se,sn,bN]at SE;have LM:=hJ (CH.v _ _ _ fk);have XA:=hJ xa;have S7:Hid (iL w kb (N+2) d' s' fb fl W6/\lg s'.k (λj=>if j=c then fl n else fl j)/\og W6 ba x):=hJ ⟨S6.1.1,S6.1.2.1.fk fk,S6.1.2.2.2⟩;clear se sn fk CH S6 xa p20 x2 x3;go_wp2_with fail
      refine sC SE.v ?_;rintro w7 b7;have S8:Hid (iL w kb (N+2) d' s' fb fl w7/\og w7 ba x):=hJ ⟨S7.1.below b7,(b7.block ba (aX.1 S7.2.2).1).trans S7.2.2⟩;have PR:=hJ (tB w.heap.size s' w7 S8.1.kw.kk);rw[S8.1.kw.a0]at PR;clear b7 SE x0 x1 y0 y2;go_wp2_with fail
      refine PR.mono ?_;rintro e w8 ⟨v8,rfl,hL⟩;obtain⟨g8,cap8,rfl,gl8,gc8⟩:=hL.cells (by rw[LM.v];omega);have S9:Hid (iL w kb (N+2) d' s' fb fl w8/\og w8 ba x):=hJ ⟨S8.1.below hL.cZ,(hL.cZ.block ba (aX.1 S8.2).1).trans S8.2⟩;clear gl8 gc8 hL PR S8;rw[LM.v];have SN:=hJ (yW (bB ⟨gg,0,bC⟩) (bB ⟨g8,0,bC⟩) ln (ln+1) cap cap8 w8 bG);go_wp2_with fail
      refine sC SN.v ?_;rintro w9 hw;subst w9;have x1:=S9.2.at 1 bG;simp only[fp.cell]at x1;rw[XA.v]at x1;clear SN;go_wp2_with (first|(refine wpList_load_mid rfl 44 _ rfl fb (n*128) rfl (sB (fl n)) _ (S9.1.ft.range hn) Tryz.underlying44 rfl (by rw[nE];kernel_rfl) ?_)|(refine wpList_store_mid rfl 44 _ _ rfl fb (c*128) (sB (fl n)).toArray rfl rfl (by rw[List.size_toArray,nE];exact S9.1.ft.there hc) (by rw[List.size_toArray,nE];kernel_rfl) (Rt _) ?_;generalize hW:World.setCells _ _ _ _=W9;have SA:Hid (iL w kb (N+2) d' s' fb (λj=>if j=c then fl n else fl j) W9):=hJ (by rw[<-hW];exact S9.1.put hc (fl n));clear hW))
      go_roundw
      case rel=>exact⟨k+1,s',N+2,d',_,by go_num,by have:=HN.v;omega,by have:=HN.v;omega,SA.v,S7.2.1⟩
      case measure=>simp[intOf];have:=HN.v;omega
     .as_aux_lemma=>
      have t0:(x.kind.toList==[102,111,114,107])=bF:=Kn.ly t1 rfl;have t1:(x.kind.toList==[117,110,109,97,112])=bE:=t1;have XS:=hJ (aK xa (aK xb xc));rw[xb]at x2;have hnI:(n:Int)<20:=bG
      have S7:Hid (iL w kb (N+2) d' s' fb (Mv.mf fl n (8*b) (8*b)) W6/\lg s'.k (Mv.mf fl n (8*b) (8*(b+c)))/\fb≠ba/\og W6 ba x):=hJ ⟨by rw[Jo];exact S6.1.1,S6.1.2.1.bu bu,S6.1.2.2.1,S6.1.2.2.2⟩;clear xa xb xc bu S6 CH x1 x3 y0;go_wp2_with fail
      go_loopw [12] (λi wr=>∃y:Nat,i=aa bf y/\8*b<=y/\y<=8*(b+c)/\Hid (iL w kb (N+2) d' s' fb (Mv.mf fl n (8*b) y) wr/\og wr ba x)) (λi _=>8*(b+c)-(intOf i).toNat)
      case atStart=>exact⟨8*b,by go_num,bG,bG,S7.1,S7.2.2.2⟩
      case round=>
       clear x0 x2 y2;obtain⟨y,rfl,hy1,hy2,S⟩:=hrel;have x1:=S.2.at 1 bG;have x2:=S.2.at 2 bG;have x3:=S.2.at 3 bG;simp only[fp.cell]at x1 x2 x3;rw[XS.1]at x1;rw[XS.2.1]at x2;rw[XS.2.2]at x3;by_cases yl:y<8*(b+c)
       .as_aux_lemma=>
        have ylI:(y:Int)<8*((b:Int)+(c:Int)):=bG
        have hyI:(y:Int)<128:=bG
        have c1:=S.1.ft.cell hn (show y<128 by omega);have c2:=S.1.ft.frozen (n*128+y);have SA:Hid (iL w kb (N+2) d' s' fb (Mv.mf fl n (8*b) (y+1)) (wr.setCell ⟨fb,n*128+y,bC⟩ (aa .u8 0))/\og (wr.setCell ⟨fb,n*128+y,bC⟩ (aa .u8 0)) ba x):=hJ ⟨by
         have q:=S.1.set hn (show y<128 by omega) 0;rw[(Jn fl n (8*b) y).resolve_right bG]at q;exact q,(dS _ _ _ _ (bQ S7.2.2.1)).trans S.2⟩
        go_wp2
        go_roundw
        case rel=>exact⟨y+1,by go_num,bG,bG,SA⟩
        case measure=>simp[intOf];omega
       .as_aux_lemma=>
        have ylI:¬(y:Int)<8*((b:Int)+(c:Int)):=bG
        obtain rfl:y=8*(b+c):=bG
        go_wp2
        go_roundw
        case rel=>exact⟨k+1,s',N+2,d',_,by go_num,by have:=HN.v;omega,by have:=HN.v;omega,S.1,S7.2.1⟩
        case measure=>simp[intOf];have:=HN.v;omega
     .as_aux_lemma=>
      have t0:(x.kind.toList==[102,111,114,107])=bF:=Kn.ly t1 rfl;have t2:(x.kind.toList==[117,110,109,97,112])=bF:=Kn.ly t1 rfl;have t1:(x.kind.toList==[115,116,111,114,101])=bE:=t1;rw[xa]at x1;rw[xb]at x2;have hnI:(n:Int)<20:=bG
      have hyI:(y:Int)<128:=bG
      have v0:=OY x.c;have c1:=S6.1.1.ft.cell hn hy;have c2:=S6.1.1.ft.frozen;have S7:Hid (iL w kb (N+2) d' s' fb (Mv.oO fl n y (IntKind.u8.wrap x.c)) (W6.setCell ⟨fb,n*128+y,bC⟩ (aa bh (IntKind.u8.wrap x.c)))/\lg s'.k (Mv.oO fl n y (IntKind.u8.wrap x.c))):=hJ ⟨S6.1.1.set hn hy _,S6.1.2.1.bs bs v0.1 v0.2⟩;generalize fl n y=fv at*;clear xa xb bs S6 CH y0 v0;go_wp2_with fail
      go_region
      generalize hW:World.drew _=W7;have S8:Hid (iL w kb (N+2) d' s' fb (Mv.oO fl n y (IntKind.u8.wrap x.c)) W7):=hJ (by rw[<-hW];exact S7.1.below (aQ _ _).drew);clear hW x0 x1 x2 x3 y2 c1 c2;go_wp2
      go_roundw
      case rel=>exact⟨k+1,s',N+2,d',_,by go_num,by have:=HN.v;omega,by have:=HN.v;omega,S8.v,S7.2⟩
      case measure=>simp[intOf];have:=HN.v;omega
     .as_aux_lemma=>
      have t0:(x.kind.toList==[102,111,114,107])=bF:=Kn.ly t1 rfl;have t2:(x.kind.toList==[117,110,109,97,112])=bF:=Kn.ly t1 rfl;have t3:(x.kind.toList==[115,116,111,114,101])=bF:=Kn.ly t1 rfl;have t1:(x.kind.toList==[108,111,97,100])=bE:=t1;rw[xa]at x1;rw[xb]at x2;have hnI:(n:Int)<20:=bG
      have hyI:(y:Int)<128:=bG
      have ofk:=S6.1.2.1.be be;have c1:=S6.1.1.ft.cell hn hy;have av:IntKind.u8.wrap a=fl n y:=by
       have e:=ofk.1 n hn l y hy;have r:=ofk.2 n y;rw[<-e]at ay;rcases ay with rfl|rfl
       .exact PQ r.1 r.2
       .rw[aN _ ⟨by omega,bG⟩];exact PQ r.1 r.2
      have S7:Hid (iL w kb (N+2) d' s' fb fl W6/\lg s'.k fl):=hJ ⟨S6.1.1,ofk⟩;have FX:=hJ (λq=>S7.1.below (below_drewN _ q));generalize fl n y=fv at*;have ne:(IntKind.u8.wrap a==fv)=bE:=by rw[av];simp
      clear xa xb be ofk S6 CH x3 ay l;go_wp2_with fail
      go_quiet (fail)
      go_wp2
      go_roundw
      case rel=>exact⟨k+1,s',N+2,d',_,by go_num,by have:=HN.v;omega,by have:=HN.v;omega,FX.v _,S7.2⟩
      case measure=>simp[intOf];have:=HN.v;omega
     .as_aux_lemma=>
      have S7:Hid (iL w kb (N+2) d' s' fb fl W6/\lg s'.k fl):=hJ ⟨S6.1.1,S6.1.2.1.be be⟩;clear be S6;go_wp2
      go_roundw
      case rel=>exact⟨k+1,s',N+2,d',fl,by go_num,by have:=HN.v;omega,by have:=HN.v;omega,S7⟩
      case measure=>simp[intOf];have:=HN.v;omega
   .as_aux_lemma=>
    have hltI:¬(k:Int)<(n0:Int):=bG
    go_wp2
    go_ret
    exact⟨rfl,S.1.kw.cZ⟩
theorem RC(a:Option Addr)(len cap:Nat)(w:bD)(h:vK w a len):
 Calls prog 4 #[aj a len cap] w λe w'=>e=bw (ar bE)/\Below w.heap.size w w':=Mw h λb o ax ha hc=>OX a b o len cap ax w ha hc
end
end Go.Proofs.YtpmmdkcfenjiaaaGreatDoor
namespace Go.Proofs.YtpmmdkcfenjiaaaGreatDoor.OwP
open Value renaming int->aa,pointer->ai,slice->aj,string->ak,tuple->ao,bool->ar,agg->au
open IntKind renaming i64->bf,u8->bh,u64->bj
open Ending renaming returned->bw
open Obj renaming cells->bA
open Option renaming some->bB,none->bC
open Bool renaming true->bE,false->bF
open _root_.Go.Proofs.Tryz (prog)
open Go.ChangeShapes Go.WideShapes Go.ChangeAt Go.RowKit
set_option linter.unusedVariables false
theorem own:ownKnob prog.godebug=none:=by kernel_rfl
theorem laidOut:laidOutB prog=bE:=by kernel_rfl
theorem lifted(os:Os)(started:os.Started)(H:Type)(enc:TypeId×Value->H):
  ReturnsInHanded {} Tryz.checked os 4 .any (λw args=>(Rows.topOwnSpec.pre enc prog Tryz.f4 Rows.topOwnRow.domain bF w args/\laidMetH prog Rows.topOwnRow.laid w)/\sizedMet enc prog Tryz.f4 (OpenSpec.ofChange Rows.topOwnSpec) bF w args)
   (Rows.topOwnSpec.post enc prog Tryz.f4 bF bE bF bF):=by
 refine returnsInHanded_of_change_and (C:=Tryz.checked) (X:=λw _=>laidMetH prog Rows.topOwnRow.laid w) (λ_ _ _ hh h=>h.of_heap hh) own started bH Tryz.func4
  (ChangeSpec.witness_shaped (enc:=enc) (C:=Tryz.checked) (os:=os) (X:=λw _=>laidMetH prog Rows.topOwnRow.laid w) bF (World.laidAll prog os Rows.topOwnRow.laid) #[aj bC 0 0] 8 (World.laidAll_os _ _ _)
   (World.shaped_of_ZipB bH bH) bH bH bH
   (by rw[MakeChecks.laidMetH_plain _ _ _ bH];exact laidMet_laidAll _ bH bH)) ?_
 intro W VK args ds gs before hval0 hW hc _ hL _;have hval:∀(j:Nat) t v,Tryz.f4.params[j]? =bB t->args[j]? =bB v->Value.okWide prog W .any VK t v:=hval0;have hW':=hW;obtain⟨p,q,hA0,hV,rfl,hfz,hnd⟩:=hW;have hA:DataW.TrodAll enc prog W 0 (λ_=>bE) bE Tryz.f4.params.toList args.toList ds p:=hA0;rw[Tryz.params4]at hA hval;obtain⟨v0,vs0,d0,ds0,p0,q0,hargs,rfl,rfl,h0,r0⟩:=trodAll_cons hA;obtain⟨rfl,rfl,rfl⟩:=trodAll_nil r0;obtain rfl:args=#[v0]:=by cases args;simp_all
 obtain⟨rfl,rfl⟩:=trodVars_none hV;obtain⟨a0,len0,cap0,rfl⟩:=okWide_slice Tryz.underlying22 (hval 0 22 v0 rfl rfl);have k0:=h0;have lt0:∀x∈p0,x.block<W.heap.size:=by obtain⟨m,hm⟩:=k0;exact DataW.trod_lt m _ _ _ hm
 have w0:vK W a0 len0:=by
  obtain⟨fuel,hf⟩:=h0;exact Qa (by simpa[Value.cells]using hf)
 clear hA0 hval0;refine(RC a0 len0 cap0 W w0).mono λe W' ⟨he,cZ⟩=>?_;subst he;exact⟨_,rfl,_,_,_,[],_,[],hW',trodAll_mk1 (shut_bool Tryz.underlying4 _),(trodAll_cons_mk (Below.trod laidOut bH (of_decide_eq_true bH) k0 cZ lt0) trodAll_mk0),rfl,cZ.frame _,λh=>by cases h⟩
end Go.Proofs.YtpmmdkcfenjiaaaGreatDoor.OwP

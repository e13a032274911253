import Derived.Test.YtpmmdkcfenjiaaaGreatDoorRows
import Derived.LaidMore
import Derived.Lay
import Derived.SevenTiedAt
import Derived.Test.YtpmmdkcfenjiaaaGreatDoorYar
set_option maxRecDepth 100000
set_option maxHeartbeats 20000000
set_option linter.unusedVariables false
set_option linter.unusedSimpArgs false
namespace Go.Proofs.YtpmmdkcfenjiaaaGreatDoor
open Value renaming int->aa,pointer->ai,slice->aj,string->ak,tuple->ao,bool->ar,agg->au
open IntKind renaming i64->az,u64->bd
open Ending renaming returned->bf
open Obj renaming cells->bh
open Option renaming some->bj,none->bu
open Bool renaming true->bw,false->bA
open _root_.Go.Proofs.Tryz (prog)
open Go.RowKit
open Fx (Fi)
open Tr (Fo Nd)
open Pp (Pi)
open Mo (Wh Mt)
open Mv (Me Bk)
open Kn (Pr Kp St us KB KJ VI EI KH)
theorem Tr.VH{F:Fo}(h:Tr.Ok F)(z:Int)(i:Nat):((Tr.rS F z).getD i ⟨#[]⟩).size<=8:=by
 rw[aF];cases e:(Tr.rS F z)[i]? with
 |none=>exact aC _
 |some s=>
  have m:=bK e;unfold Tr.rS at m;by_cases c:Tr.cN F z 2=0
  .rw[aJ c]at m;obtain⟨n,rfl,n40,_,k2⟩:=Tr.fD c;simp only[rY,Tr.tV,List.mem_map,List.mem_mergeSort,List.mem_range,hZ]at m;obtain⟨_,⟨_,⟨j,hj,rfl⟩,rfl⟩,rfl⟩:=m;have:=h.nb n j n40 k2 hj;unfold Tr.gd at this;simp only[Bool.and_eq_true,decide_eq_true_eq]at this;exact this.1.1.1.2
  .rw[aI c]at m;cases m
section
variable (Wt N:Nat)(d:Nat->Nat)(s:St)(w:bD)
theorem IV(z:Int)(p:bU)(h:bO w Wt s)(hj:KJ (λ_=>False) N s.k):
  Calls prog 133 #[ai (bj ⟨s.A 0,0,bu⟩),aa az z,ak p] w λe w'=>∃u E L,e=bf (ao #[u,bN E])/\(L.length<=8/\∀i,(L.getD i ⟨#[]⟩).size<=8)/\(∀c,c<w.heap.size->TL c L u w')/\Below w.heap.size w w':=by
 have WK:=hJ (uK Wt N s w z p h hj);have LI:Hid (∀V (x:Int),Below w.heap.size w V->Calls prog 213 #[ai (bj ⟨s.A 6,0,bu⟩),aa az x] V λe w'=>∃u E L,e=bf (ao #[u,bN E])/\(L.length<=8/\∀i,(L.getD i ⟨#[]⟩).size<=8)/\(∀c,c<w.heap.size->TL c L u w')/\Below w.heap.size w w'):=hJ (λV x b=>(Mm (s.A 6) x s.k.fo V (h.below b).fo hj.ok.sz).mono (by rintro _ w' ⟨u,rfl,o⟩;exact⟨u,_,_,rfl,⟨Tr.OH hj.ok.sz x,Tr.VH hj.ok x⟩,λc hc=>o.tl (aD hc b.size),b.trans (o.cU.mono b.size)⟩));have C6:Hid (∀V,Below w.heap.size w V->V.cell? ⟨s.A 0,250,bu⟩=bj (ai (bj ⟨s.A 6,0,bu⟩))):=hJ (λV b=>(h.below b).wJ);generalize s.A 0=kb at*;generalize s.A 6=a6 at*;go_in
 go_wp2_with fail
 refine WK.mono ?_;rintro e w1 ⟨x,E,rfl,b1⟩;by_cases E0:E=0
 .subst E0;rw[bF];have c6:=C6.v _ b1;go_wp2_with fail
  refine(LI.v _ _ b1).mono ?_;rintro e w2 ⟨u,E,L,rfl,S2⟩;have S2:=hJ S2;go_wp2
  go_ret2
  exact⟨u,E,L,rfl,S2.v⟩
 .have E1:=hJ (bH E0);rw[bH E0];go_wp2
  go_ret2
  exact⟨_,E,[],Qm E1.v,⟨by simp,λ_=>aC _⟩,λ_ _=>⟨bu,0,rfl,λc=>by cases c⟩,b1⟩
theorem K8(z:Int)(p:bU)(h:bO w Wt s)(hj:KJ (λ_=>False) N s.k):
  Calls prog 134 #[ai (bj ⟨s.A 0,0,bu⟩),aa az z,ak p] w λe w'=>∃(o1 o2 o3 o4 E:Int),e=bf (ao #[au #[aa az o1,aa az o2,aa az o3,aa az o4],bN E])/\Below w.heap.size w w':=by
 have B0:=hJ ((aQ w.heap.size w).alloc (aL _) (bh #[aa az 0,aa az 0,aa az 0,aa az 0] 156));have WK:=hJ (uK Wt N s _ z p (h.below B0.v) hj);have OF:Hid (∀V (x:Int),Below w.heap.size w V->Calls prog 214 #[ai (bj ⟨s.A 6,0,bu⟩),aa az x] V λe w'=>∃(o1 o2 o3 o4 E:Int),e=bf (ao #[au #[aa az o1,aa az o2,aa az o3,aa az o4],bN E])/\Below V.heap.size V w'):=hJ (λV x b=>(qk (s.A 6) x s.k.fo V (h.below b).fo).mono (by
  rintro _ w' ⟨rfl,o⟩;obtain⟨o1,o2,o3,o4,e,_⟩:=Mo.Ly s.k.fo x;exact⟨o1,o2,o3,o4,_,by rw[e],o⟩))
 have C6:Hid (∀V,Below w.heap.size w V->V.cell? ⟨s.A 0,250,bu⟩=bj (ai (bj ⟨s.A 6,0,bu⟩))):=hJ (λV b=>(h.below b).wJ);generalize s.A 0=kb at*;generalize s.A 6=a6 at*;go_in
 go_wp2_with fail
 refine WK.mono ?_;rintro e w1 ⟨x,E,rfl,b1⟩;obtain⟨hc,hf⟩:=yE b1;have hz:w.heap.size<w1.heap.size:=by have:=b1.size;simp at this;omega
 have b1:=B0.trans (b1.mono B0.size);by_cases E0:E=0
 .subst E0;rw[bF];have c6:=C6.v _ b1;go_wp2_with fail
  refine(OF.v _ _ b1).mono ?_;rintro e w2 ⟨o1,o2,o3,o4,E,rfl,b2⟩;obtain⟨hc2,hf2⟩:=yE b2;have b2:=b1.trans (b2.mono b1.size);go_wp2_with fail
  exact bodyPost_ret (v:=ao #[au #[aa az o1,aa az o2,aa az o3,aa az o4],bN E]) (by simp[results,Tryz.results134,go_sem,hc2,hc,hz]) rfl ⟨o1,o2,o3,o4,E,rfl,((((b2.setCell (aL _) _).setCell (aL _) _).setCell (aL _) _).setCell (aL _) _)⟩
 .have E1:=hJ (bH E0);rw[bH E0];go_wp2_with fail
  exact bodyPost_ret (v:=ao #[au #[aa az 0,aa az 0,aa az 0,aa az 0],bN E]) (by simp[results,Tryz.results134,go_sem,hc,E1.v]) rfl ⟨0,0,0,0,E,rfl,((((b1.setCell (aL _) _).setCell (aL _) _).setCell (aL _) _).setCell (aL _) _)⟩
end
section
variable (Wt N:Nat)(d:Nat->Nat)(s:St)(w:bD)
theorem NJ(x:fk)(h:bO w Wt s)(hh:KH N d s.k)(hN:N<880)(hb:Wt<=w.heap.size)(hs:x.s.size<2^59):
  Calls prog 56 #[ai (bj ⟨s.A 0,0,bu⟩),au #[ak x.kind,aa az x.a,aa az x.b,aa az x.c,aa bd x.key,ar x.on,ak x.s,ak x.t]] w λe w'=>∃(n m E:Int) (t:bU) (s':St),e=bf (au #[aa az n,aa az m,aa az E,ak t])/\Kn.pN s.k x s'.k/\bO w' Wt s'/\KF s w s' w':=by
 have H:=hJ (aK h (aK hh (aK hN (aK hb hs))));obtain⟨kb,hk⟩:=hU (s.A 0);have HK:=hJ hk;rw[hk];clear h hh hN hb hk hs;go_in
 go_upto_block 0 with fail
 refine cJ (λW=>AW Wt s w (w.heap.size+1) s 0 0 ⟨#[]⟩ W/\ow W w.heap.size x) (AW.start H.1 x) ?_;rintro W ⟨aw,ab⟩;have S:=hJ (aK aw ab);have q1:=ab.at 1 bB;have q2:=ab.at 2 bB;have q3:=ab.at 3 bB;have q5:=ab.at 5 bB;have q6:=ab.at 6 bB;have q7:=ab.at 7 bB;have y5:=aw.a5;simp only[fk.cell]at q1 q2 q3 q5 q6 q7;clear aw ab;go_cut [6]from 7 to 222 (λer wc=>∃(E n m:Int) (t:bU) (s1:St),er=bN E/\Hid (Kn.pN s.k x s1.k/\AW Wt s w (w.heap.size+1) s1 n m t wc))
 case first=>
  by_cases t0:(x.kind.toList==[111,112,101,110])=bw
  .as_aux_lemma=>
   have CT:=hJ (λu=>K9 Wt N s W x.a x.s x.on u S.1.kk H.2.1.ki.vi.kj);simp only[HK.v]at CT;go_wp2_with fail
   refine(CT.v _).mono ?_;rintro e w5 ⟨v,s',rfl,⟨y,E,rfl,r5⟩,k5,f5⟩;have S5:=hJ (aK r5 (S.1.step (s2:=s') k5 f5));have y0:=S5.2.a5.at 0 _ rfl;have fz:=cE S5.2.a5;clear r5 k5 f5 CT q1 q2 q3 q5 q6 q7 y5;go_wp2
   go_meet
   case rel=>exact⟨_,_,_,_,_,rfl, .inl (⟨_,y,E,rfl,S5.1⟩),S5.2.kO _⟩
  have t0:(x.kind.toList==[111,112,101,110])=bA:=by simpa using t0
  by_cases t1:(x.kind.toList==[99,108,111,115,101])=bw
  .as_aux_lemma=>
   have CT:=hJ (Fy Wt s W N x.a x.b S.1.kk H.2.1.ki.vi.kj (by have:=H.2.2.1;omega));rw[HK.v]at CT;go_wp2_with fail
   refine CT.mono ?_;rintro e w5 ⟨rfl,k5,f5⟩;have S5:=hJ (aK trivial (S.1.step (s2:={s with k:=Kn.pd s.k x.a x.b}) k5 f5));clear k5 f5 CT q1 q2 q3 q5 q6 q7 y5;go_wp2
   go_meet
   case rel=>exact⟨_,_,_,_,_,rfl, .inr (.inl (rfl)),S5.2⟩
  have t1:(x.kind.toList==[99,108,111,115,101])=bA:=by simpa using t1
  by_cases t2:(x.kind.toList==[100,117,112])=bw
  .as_aux_lemma=>
   have CT:=hJ (Om Wt s W x.a x.b S.1.kk (λn hn=>by have:=H.2.1.ki.vi.kj.rf n hn;have:=H.2.2.1;have e1:(2:Nat)^60=1152921504606846976:=bE;omega));rw[HK.v]at CT;go_wp2_with fail
   refine CT.mono ?_;rintro e w5 ⟨v,s',rfl,⟨y,E,rfl,r5⟩,k5,f5⟩;have S5:=hJ (aK r5 (S.1.step (s2:=s') k5 f5));have y0:=S5.2.a5.at 0 _ rfl;have fz:=cE S5.2.a5;clear r5 k5 f5 CT q1 q2 q3 q5 q6 q7 y5;go_wp2
   go_meet
   case rel=>exact⟨_,_,_,_,_,rfl, .inr (.inr (.inl (⟨_,y,E,rfl,S5.1⟩))),S5.2.kO _⟩
  have t2:(x.kind.toList==[100,117,112])=bA:=by simpa using t2
  by_cases t3:(x.kind.toList==[112,105,112,101])=bw
  .as_aux_lemma=>
   have CT:=hJ (IY Wt s W x.a S.1.kk);rw[HK.v]at CT;go_wp2_with fail
   refine CT.mono ?_;rintro e w5 ⟨A,C,E,k',rfl,r5,k5,f5⟩;have S5:=hJ (aK r5 (S.1.step (s2:={s with k:=k'}) k5 f5));have y0:=S5.2.a5.at 0 _ rfl;have y1:=S5.2.a5.at 1 _ rfl;have fz:=cE S5.2.a5;clear r5 k5 f5 CT q1 q2 q3 q5 q6 q7 y5;go_wp2
   go_meet
   case rel=>exact⟨_,_,_,_,_,rfl, .inr (.inr (.inr (.inl (⟨A,C,E,S5.1⟩)))),(S5.2.kO _).En _⟩
  have t3:(x.kind.toList==[112,105,112,101])=bA:=by simpa using t3
  by_cases t4:(x.kind.toList==[114,101,97,100])=bw
  .as_aux_lemma=>
   have CT:=hJ (IZ Wt s W x.a x.b x.c S.1.kk H.2.1.ki.vi.kj.ok.fz H.2.1.ki.vi.kj.wx.pz);rw[HK.v]at CT;go_wp2_with fail
   refine CT.mono ?_;rintro e w5 ⟨rfl,k5,f5⟩;have S5:=hJ (aK trivial (S.1.step (s2:={s with k:=Kn.pf s.k x.a x.b x.c}) k5 f5));have y3:=S5.2.a5.at 3 _ rfl;have fz:=cE S5.2.a5;clear k5 f5 CT q1 q2 q3 q5 q6 q7 y5;go_wp2
   go_meet
   case rel=>exact⟨_,_,_,_,_,rfl, .inr (.inr (.inr (.inr (.inl (rfl))))),S5.2.mP _⟩
  have t4:(x.kind.toList==[114,101,97,100])=bA:=by simpa using t4
  by_cases t5:(x.kind.toList==[119,114,105,116,101])=bw
  .as_aux_lemma=>
   have CT:=hJ (FC Wt N d s W (by have:=H.2.2.1;omega) x.a x.b x.s S.1.kk H.2.2.2.2 H.2.1.ki.vi.kj.wx.pz (λ_=>(H.2.1.Ca _ _).ki));rw[HK.v]at CT;go_wp2_with fail
   refine CT.mono ?_;rintro e w5 ⟨A,E,k',rfl,r5,k5,f5⟩;have S5:=hJ (aK r5 (S.1.step (s2:={s with k:=k'}) k5 f5));have y0:=S5.2.a5.at 0 _ rfl;have fz:=cE S5.2.a5;clear r5 k5 f5 CT q1 q2 q3 q5 q6 q7 y5;go_wp2
   go_meet
   case rel=>exact⟨_,_,_,_,_,rfl, .inr (.inr (.inr (.inr (.inr (.inl (⟨A,E,S5.1⟩)))))),S5.2.kO _⟩
  have t5:(x.kind.toList==[119,114,105,116,101])=bA:=by simpa using t5
  by_cases t6:(x.kind.toList==[115,101,101,107])=bw
  .as_aux_lemma=>
   have CT:=hJ (Lb Wt s W x.a x.b x.c S.1.kk);rw[HK.v]at CT;go_wp2_with fail
   refine CT.mono ?_;rintro e w5 ⟨v,s',rfl,⟨E,rfl,r5⟩,k5,f5⟩;have S5:=hJ (aK r5 (S.1.step (s2:=s') k5 f5));clear r5 k5 f5 CT q1 q2 q3 q5 q6 q7 y5;go_wp2
   go_meet
   case rel=>exact⟨_,_,_,_,_,rfl,S5.1.elim (λe=> .inr (.inr (.inr (.inr (.inr (.inr (.inr (.inr (.inr (.inr (e))))))))))) (λe=> .inr (.inr (.inr (.inr (.inr (.inr (.inl (e)))))))),S5.2⟩
  have t6:(x.kind.toList==[115,101,101,107])=bA:=by simpa using t6
  by_cases t7:(x.kind.toList==[109,107,100,105,114])=bw
  .as_aux_lemma=>
   have CT:=hJ (IU Wt N s W x.a x.s S.1.kk H.2.1.ki.vi.kj);rw[HK.v]at CT;go_wp2_with fail
   refine CT.mono ?_;rintro e w5 ⟨v,s',rfl,⟨E,G,rfl,r5⟩,k5,f5⟩;have S5:=hJ (aK r5 (S.1.step (s2:=s') k5 f5));clear r5 k5 f5 CT q1 q2 q3 q5 q6 q7 y5;go_wp2
   go_meet
   case rel=>exact⟨_,_,_,_,_,rfl, .inr (.inr (.inr (.inr (.inr (.inr (.inr (.inl (⟨_,E,G,rfl,S5.1⟩)))))))),S5.2⟩
  have t7:(x.kind.toList==[109,107,100,105,114])=bA:=by simpa using t7
  by_cases t8:(x.kind.toList==[114,101,109,111,118,101])=bw
  .as_aux_lemma=>
   have CT:=hJ (Ou Wt N s W x.a x.s S.1.kk H.2.1.ki.vi.kj);rw[HK.v]at CT;go_wp2_with fail
   refine CT.mono ?_;rintro e w5 ⟨v,s',rfl,⟨E,G,rfl,r5⟩,k5,f5⟩;have S5:=hJ (aK r5 (S.1.step (s2:=s') k5 f5));clear r5 k5 f5 CT q1 q2 q3 q5 q6 q7 y5;go_wp2
   go_meet
   case rel=>exact⟨_,_,_,_,_,rfl, .inr (.inr (.inr (.inr (.inr (.inr (.inr (.inl (⟨_,E,G,rfl,S5.1⟩)))))))),S5.2⟩
  have t8:(x.kind.toList==[114,101,109,111,118,101])=bA:=by simpa using t8
  by_cases t9:(x.kind.toList==[109,111,118,101])=bw
  .as_aux_lemma=>
   have CT:=hJ (Oq Wt N s W x.a x.s x.t S.1.kk H.2.1.ki.vi.kj);rw[HK.v]at CT;go_wp2_with fail
   refine CT.mono ?_;rintro e w5 ⟨v,s',rfl,⟨E,G,rfl,r5⟩,k5,f5⟩;have S5:=hJ (aK r5 (S.1.step (s2:=s') k5 f5));clear r5 k5 f5 CT q1 q2 q3 q5 q6 q7 y5;go_wp2
   go_meet
   case rel=>exact⟨_,_,_,_,_,rfl, .inr (.inr (.inr (.inr (.inr (.inr (.inr (.inl (⟨_,E,G,rfl,S5.1⟩)))))))),S5.2⟩
  have t9:(x.kind.toList==[109,111,118,101])=bA:=by simpa using t9
  by_cases t10:(x.kind.toList==[108,105,110,107])=bw
  .as_aux_lemma=>
   have CT:=hJ (On Wt N s W x.a x.s x.t S.1.kk H.2.1.ki.vi.kj);rw[HK.v]at CT;go_wp2_with fail
   refine CT.mono ?_;rintro e w5 ⟨v,s',rfl,⟨E,G,rfl,r5⟩,k5,f5⟩;have S5:=hJ (aK r5 (S.1.step (s2:=s') k5 f5));clear r5 k5 f5 CT q1 q2 q3 q5 q6 q7 y5;go_wp2
   go_meet
   case rel=>exact⟨_,_,_,_,_,rfl, .inr (.inr (.inr (.inr (.inr (.inr (.inr (.inl (⟨_,E,G,rfl,S5.1⟩)))))))),S5.2⟩
  have t10:(x.kind.toList==[108,105,110,107])=bA:=by simpa using t10
  by_cases t11:(x.kind.toList==[98,105,110,100])=bw
  .as_aux_lemma=>
   have CT:=hJ (KT Wt N s W x.a x.s x.t S.1.kk (aH H.2.2.2.1 S.1.kf.ia.size) H.2.1.ki.vi.kj);rw[HK.v]at CT;go_wp2_with fail
   refine CT.mono ?_;rintro e w5 ⟨v,s',rfl,⟨E,rfl,r5⟩,k5,f5⟩;have S5:=hJ (aK r5 (S.1.step (s2:=s') k5 f5));clear r5 k5 f5 CT q1 q2 q3 q5 q6 q7 y5;go_wp2
   go_meet
   case rel=>exact⟨_,_,_,_,_,rfl, .inr (.inr (.inr (.inr (.inr (.inr (.inr (.inr (.inl (⟨_,E,rfl,S5.1⟩))))))))),S5.2⟩
  have t11:(x.kind.toList==[98,105,110,100])=bA:=by simpa using t11
  by_cases t12:(x.kind.toList==[117,110,98,105,110,100])=bw
  .as_aux_lemma=>
   have CT:=hJ (FL Wt N s W x.a x.s S.1.kk H.2.1.ki.vi.kj);rw[HK.v]at CT;go_wp2_with fail
   refine CT.mono ?_;rintro e w5 ⟨v,s',rfl,⟨E,rfl,r5⟩,k5,f5⟩;have S5:=hJ (aK r5 (S.1.step (s2:=s') k5 f5));clear r5 k5 f5 CT q1 q2 q3 q5 q6 q7 y5;go_wp2
   go_meet
   case rel=>exact⟨_,_,_,_,_,rfl, .inr (.inr (.inr (.inr (.inr (.inr (.inr (.inr (.inl (⟨_,E,rfl,S5.1⟩))))))))),S5.2⟩
  have t12:(x.kind.toList==[117,110,98,105,110,100])=bA:=by simpa using t12
  by_cases t13:(x.kind.toList==[110,97,109,101,115])=bw
  .as_aux_lemma=>
   have CT:=hJ (IV Wt N s W x.a x.s S.1.kk H.2.1.ki.vi.kj);rw[HK.v]at CT;go_wp2_with fail
   refine CT.mono ?_;rintro e w5 ⟨u,E,L,rfl,⟨l8,n8⟩,tl,b5⟩;have N8:=hJ n8;clear n8;obtain⟨ua,uc,rfl,ub⟩:=tl (w.heap.size+1+1) S.1.a5.lt;have S5:Hid (AW Wt s w (w.heap.size+1) s 0 0 ⟨#[]⟩ w5/\ow w5 w.heap.size x/\TL (w.heap.size+1+1) L (aj ua L.length uc) w5):=hJ ⟨S.1.below b5,(b5.block _ (aX.1 S.2).1).trans S.2,ua,uc,rfl,ub⟩;clear tl ub b5 CT q1 q2 q3 q5 q6 q7 y5 S;obtain⟨c,hc⟩:=hU (w.heap.size+1);have HC:=hJ hc;rw[hc]at S5|-;obtain⟨ba,hba⟩:=hU (w.heap.size);have HB:Hid (w.heap.size=ba/\c=ba+1):=hJ ⟨hba,by rw[<-hba,hc]⟩;rw[hba]at S5|-;clear hc hba;go_wp2_with fail
   go_loopw [9] (λi wr=>∃(j:Nat) (t:bU),i=aa az j/\j<=L.length/\Hid (AW Wt s w c s 0 0 t wr/\ow wr ba x/\TL (c+1) L (aj ua L.length uc) wr/\t.size<=9*j)) (λi _=>L.length-(intOf i).toNat)
   case atStart=>exact⟨0,_,rfl,aC _,S5.1,S5.2.1,S5.2.2,aC _⟩
   case round=>
    clear S5;obtain⟨j,t,rfl,hj,S⟩:=hrel;by_cases hlt:j<L.length
    .have hltI:(j:Int)<(L.length:Int):=bB
     obtain⟨a2,c2,e2,tt⟩:=S.2.2.1;cases e2;obtain⟨g,rfl,gb,gl,gc⟩:=tt bB;have y3:=S.1.a5.at 3 _ rfl;have fz:=cE S.1.a5;have c1:=gc j hlt;have NX:Hid (∀z,AW Wt s w c s 0 0 z ((wr.setCell ⟨c+1,3,bu⟩ (ak z)).drew)/\ow ((wr.setCell ⟨c+1,3,bu⟩ (ak z)).drew) ba x/\TL (c+1) L (aj (bj ⟨g,0,bu⟩) L.length uc) ((wr.setCell ⟨c+1,3,bu⟩ (ak z)).drew)):=hJ (λz=>⟨(S.1.mP z).below ⟨rfl,rfl,rfl,aL _,λ_ _=>rfl⟩,(dE _ _ _ _ (by have:=HB.2;omega)).trans S.2.1,S.2.2.1.mS (((bG.refl _ _).setCell _ _).drew)⟩);have z1:=S.2.2.2;have z2:=N8.v j;generalize L.getD j ⟨#[]⟩=nm at*;have z3:¬9223372036854775807<t.size+nm.size:=bB
     have z4:¬9223372036854775807<t.size+nm.size+1:=bB
     have Z:=hJ (aK z1 z2);clear gc tt z1 z2;go_wp2_with fail
     go_region
     go_wp2
     go_roundw
     case rel=>exact⟨j+1,_,by go_num,bB,(NX.v _).1,(NX.v _).2.1,(NX.v _).2.2,by have:=Z.v;simp only[ByteArray.size_append];show _+1<=_;omega⟩
     case measure=>simp[intOf];omega
    .have hltI:¬(j:Int)<(L.length:Int):=bB
     have CT:=hJ (K8 Wt N s wr x.a x.s S.1.kk H.2.1.ki.vi.kj);rw[HK.v]at CT;have q1:=S.2.1.at 1 bB;have q6:=S.2.1.at 6 bB;simp only[fk.cell]at q1 q6;go_wp2_with fail
     refine CT.mono ?_;rintro e w6 ⟨o1,o2,o3,o4,E2,rfl,b6⟩;have S6:Hid (AW Wt s w c s 0 0 t w6):=hJ (S.1.below b6);clear b6 q1 q6 S CT;generalize bN E2=ev2;have y0:=S6.a5.at 0 _ rfl;have fz:=cE S6.a5;have lt6:=S6.a5.lt;go_wp2_with fail
     have e1:=HB.1;have e2:=HC.v;subst e1;subst e2;go_meet
     case rel=>exact⟨_,_,_,_,s,rfl, .inr (.inr (.inr (.inr (.inr (.inr (.inr (.inr (.inr (.inr (rfl)))))))))),(S6.kO _).below ((aQ _ _).alloc (aL _) _)⟩
  have t13:(x.kind.toList==[110,97,109,101,115])=bA:=by simpa using t13
  by_cases t14:(x.kind.toList==[112,108,97,110,116])=bw
  .as_aux_lemma=>
   have CT:=hJ (I3 Wt N s W S.1.kk H.2.1.ki.vi.kj);rw[HK.v]at CT;go_wp2_with fail
   refine CT.mono ?_;rintro e w5 ⟨v,s',rfl,⟨T,E,G,rfl,r5⟩,k5,f5⟩;have S5:=hJ (aK r5 (S.1.step (s2:=s') k5 f5));have y0:=S5.2.a5.at 0 _ rfl;have fz:=cE S5.2.a5;clear r5 k5 f5 CT q1 q2 q3 q5 q6 q7 y5;go_wp2
   go_meet
   case rel=>exact⟨_,_,_,_,_,rfl, .inr (.inr (.inr (.inr (.inr (.inr (.inr (.inr (.inr (.inl (⟨T,E,G,S5.1⟩)))))))))),S5.2.kO _⟩
  have t14:(x.kind.toList==[112,108,97,110,116])=bA:=by simpa using t14
  by_cases t15:(x.kind.toList==[112,105,118,111,116])=bw
  .as_aux_lemma=>
   have CT:=hJ (I2 Wt N s W x.a x.b S.1.kk H.2.1.ki.vi.kj);rw[HK.v]at CT;go_wp2_with fail
   refine CT.mono ?_;rintro e w5 ⟨v,s',rfl,⟨E,rfl,r5⟩,k5,f5⟩;have S5:=hJ (aK r5 (S.1.step (s2:=s') k5 f5));clear r5 k5 f5 CT q1 q2 q3 q5 q6 q7 y5;go_wp2
   go_meet
   case rel=>exact⟨_,_,_,_,_,rfl, .inr (.inr (.inr (.inr (.inr (.inr (.inr (.inr (.inl (⟨_,E,rfl,S5.1⟩))))))))),S5.2⟩
  have t15:(x.kind.toList==[112,105,118,111,116])=bA:=by simpa using t15
  go_wp2
  go_meet
  case rel=>exact⟨0,_,_,_,s,bF.symm, .inr (.inr (.inr (.inr (.inr (.inr (.inr (.inr (.inr (.inr (rfl)))))))))),S.1⟩
 case rest=>
  clear q1 q2 q3 q5 q6 q7 y5 S;obtain⟨E,n,m,t,s1,rfl,T⟩:=hcut;have NB:=hJ (wT E wc);go_wp2_with fail
  refine cG NB.v ?_;obtain⟨c,hc⟩:=hU (w.heap.size+1);rw[hc]at T|-;have y0:=T.2.a5.at 0 _ rfl;have y1:=T.2.a5.at 1 _ rfl;have y2:=T.2.a5.at 2 _ rfl;have y3:=T.2.a5.at 3 _ rfl;have z0:=T.2.a4.at 0 _ rfl;have z1:=T.2.a4.at 1 _ rfl;have z2:=T.2.a4.at 2 _ rfl;have z3:=T.2.a4.at 3 _ rfl;have f5:=cE T.2.a5;have f4:=cE T.2.a4;have FI:=hJ (T.2.fin E);clear hc;go_wp2_with fail
  exact bodyPost_ret (v:=au #[aa az n,aa az m,aa az E,ak t]) (by simp[results,Tryz.results56,go_sem,z0,z1,z2,z3]) rfl ⟨n,m,E,t,s1,rfl,T.1,FI.v⟩
end
section
variable (Wt N:Nat)(d:Nat->Nat)(s:St)(w:bD)
theorem QF(x:fk)(h:bO w Wt s)(hh:KH N d s.k)(hN:N<880)(hb:Wt<=w.heap.size)(hs:x.s.size<2^59):
  Calls prog 12 #[ai (bj ⟨s.A 0,0,bu⟩),au #[ak x.kind,aa az x.a,aa az x.b,aa az x.c,aa bd x.key,ar x.on,ak x.s,ak x.t]] w λe w'=>∃(n m E:Int) (t:bU) (s':St),e=bf (au #[aa az n,aa az m,aa az E,ak t])/\(Kn.nR N s.k x n E s'.k\/Kn.NK x/\Kn.pN s.k x s'.k)/\bO w' Wt s'/\KF s w s' w':=by
 have H:=hJ (aK h (aK hh (aK hN (aK hb hs))));obtain⟨kb,hk⟩:=hU (s.A 0);have HK:=hJ hk;rw[hk];go_in
 go_upto_block 0 with fail
 refine cJ (λW=>AW Wt s w (w.heap.size+1) s 0 0 ⟨#[]⟩ W/\ow W w.heap.size x) (AW.start H.1 x) ?_;rintro W ⟨aw,ab⟩;have S:=hJ (aK aw ab);have q1:=ab.at 1 bB;have q2:=ab.at 2 bB;have q3:=ab.at 3 bB;have q5:=ab.at 5 bB;have q0:=ab.at 0 bB;have q4:=ab.at 4 bB;have q6:=ab.at 6 bB;have q7:=ab.at 7 bB;have y5:=aw.a5;simp only[fk.cell]at q0 q1 q2 q3 q4 q5 q6 q7;have GE:Hid (w.heap.size+1=w.heap.size+1):=hJ rfl;go_cut [6]from 7 to 218 (λer wc=>∃(E n m:Int) (s1:St),er=bN E/\Hid (Kn.nR N s.k x n E s1.k/\AW Wt s w (w.heap.size+1) s1 n m ⟨#[]⟩ wc))
 case first=>
  by_cases t0:(x.kind.toList==[102,111,114,107])=bw
  .as_aux_lemma=>
   have CT:=hJ (KV Wt N d s W (by have:=H.2.2.1;omega) x.a x.on S.1.kk (aH H.2.2.2.1 S.1.kf.ia.size) H.2.1.ki.vi);rw[HK.v]at CT;go_wp2_with fail
   refine CT.mono ?_;rintro e w5 ⟨p,E,s',rfl,r5,k5,f5⟩;have S5:=hJ (aK r5 (S.1.step (s2:=s') k5 f5));have y0:=S5.2.a5.at 0 _ rfl;have fz:=cE S5.2.a5;go_wp2
   go_meet
   case rel=>exact⟨_,_,_,_,rfl, .inl ⟨t0,p,rfl,S5.1⟩,S5.2.kO _⟩
  have t0:(x.kind.toList==[102,111,114,107])=bA:=by simpa using t0
  by_cases t1:(x.kind.toList==[101,120,105,116])=bw
  .as_aux_lemma=>
   have CT:=hJ (KU Wt N d s W (by have:=H.2.2.1;omega) x.a x.b S.1.kk H.2.1.ki);rw[HK.v]at CT;go_wp2_with fail
   refine CT.mono ?_;rintro e w5 ⟨k',rfl,r5,k5,f5⟩;have S5:=hJ (aK r5 (S.1.step (s2:={s with k:=k'}) k5 f5));go_wp2
   go_meet
   case rel=>exact⟨_,_,_,_,rfl, .ot (.of t1 rfl) (.inl ⟨t1,S5.1⟩),S5.2⟩
  have t1:(x.kind.toList==[101,120,105,116])=bA:=by simpa using t1
  by_cases t2:(x.kind.toList==[119,97,105,116])=bw
  .as_aux_lemma=>
   have CT:=hJ (Le Wt N d s W (by have:=H.2.2.1;omega) x.a S.1.kk H.2.1.ki.vi H.2.1.p0);rw[HK.v]at CT;go_wp2_with fail
   refine CT.mono ?_;rintro e w5 ⟨p,c,E,k',rfl,r5,k5,f5⟩;have S5:=hJ (aK r5 (S.1.step (s2:={s with k:=k'}) k5 f5));have y0:=S5.2.a5.at 0 _ rfl;have y1:=S5.2.a5.at 1 _ rfl;have l5:=S5.2.a5.lt;have fz:=cE S5.2.a5;go_wp2
   go_meet
   case rel=>exact⟨_,_,_,_,rfl, .ot (.of t2 rfl) (.inr (.inl ⟨p,c,E,S5.1⟩)),((S5.2.kO _).En _).below ((aQ _ _).alloc (aL _) _)⟩
  have t2:(x.kind.toList==[119,97,105,116])=bA:=by simpa using t2
  by_cases t3:(x.kind.toList==[115,105,103,110,97,108])=bw
  .as_aux_lemma=>
   have CT:=hJ (DA Wt N d s W (by have:=H.2.2.1;omega) x.a x.b x.c S.1.kk H.2.1.ki (λa b=>H.2.1.ki.vi.Pc a b));rw[HK.v]at CT;go_wp2_with fail
   refine CT.mono ?_;rintro e w5 ⟨k',rfl,r5,k5,f5⟩;have S5:=hJ (aK r5 (S.1.step (s2:={s with k:=k'}) k5 f5));go_wp2
   go_meet
   case rel=>exact⟨_,_,_,_,rfl, .ot (.of t3 rfl) (.inr (.inr (.inl S5.1))),S5.2⟩
  have t3:(x.kind.toList==[115,105,103,110,97,108])=bA:=by simpa using t3
  by_cases t4:(x.kind.toList==[104,111,108,100])=bw
  .as_aux_lemma=>
   have CT:=hJ (IX Wt N d s W (by have:=H.2.2.1;omega) x.a x.b x.on S.1.kk H.2.1.ki);rw[HK.v]at CT;go_wp2_with fail
   refine CT.mono ?_;rintro e w5 ⟨E,k',rfl,r5,k5,f5⟩;have S5:=hJ (aK r5 (S.1.step (s2:={s with k:=k'}) k5 f5));go_wp2
   go_meet
   case rel=>exact⟨_,_,_,_,rfl, .ot (.of t4 rfl) (.inr (.inr (.inr (.inl ⟨E,S5.1⟩)))),S5.2⟩
  have t4:(x.kind.toList==[104,111,108,100])=bA:=by simpa using t4
  by_cases t5:(x.kind.toList==[104,111,119])=bw
  .as_aux_lemma=>
   have CT:=hJ (K7 Wt N d s W (by have:=H.2.2.1;omega) x.a x.b x.c S.1.kk H.2.1.ki);rw[HK.v]at CT;go_wp2_with fail
   refine CT.mono ?_;rintro e w5 ⟨E,k',rfl,r5,k5,f5⟩;have S5:=hJ (aK r5 (S.1.step (s2:={s with k:=k'}) k5 f5));go_wp2
   go_meet
   case rel=>exact⟨_,_,_,_,rfl, .ot (.of t5 rfl) (.inr (.inr (.inr (.inr (.inl ⟨E,S5.1⟩))))),S5.2⟩
  have t5:(x.kind.toList==[104,111,119])=bA:=by simpa using t5
  by_cases t6:(x.kind.toList==[116,97,107,101])=bw
  .as_aux_lemma=>
   have CT:=hJ (I0 Wt s W x.a S.1.kk (λn hn l=>H.2.1.ki.has hn l));rw[HK.v]at CT;go_wp2_with fail
   refine CT.mono ?_;rintro e w5 ⟨m,E,k',rfl,r5,k5,f5⟩;have S5:=hJ (aK r5 (S.1.step (s2:={s with k:=k'}) k5 f5));have y0:=S5.2.a5.at 0 _ rfl;have fz:=cE S5.2.a5;go_wp2
   go_meet
   case rel=>exact⟨_,_,_,_,rfl, .ot (.of t6 rfl) (.inr (.inr (.inr (.inr (.inr (.inl ⟨m,E,S5.1⟩)))))),S5.2.kO _⟩
  have t6:(x.kind.toList==[116,97,107,101])=bA:=by simpa using t6
  by_cases t7:(x.kind.toList==[109,97,112])=bw
  .as_aux_lemma=>
   have CT:=hJ (Oo Wt N s W x.a x.b x.c x.on S.1.kk H.2.1.ki.vi.kj);rw[HK.v]at CT;go_wp2_with fail
   refine CT.mono ?_;rintro e w5 ⟨v,s',rfl,r5,k5,f5⟩;have r6:(∃E,v=bN E)/\Kn.xd N s.k x s'.k:=by
    rcases r5 with⟨n,_,hn,l,rfl,e⟩|⟨_,rfl,e⟩
    .exact⟨⟨_,rfl⟩, .inr (.inr (.inr (.inr (.inr (.inr (.inl ⟨n,_,hn,l,Mv.RJ _ _ _ _,e⟩))))))⟩
    .exact⟨⟨_,rfl⟩, .inr (.inr (.inr (.inr (.inr (.inr (.inr (.inr (.inr (.inr (e))))))))))⟩
   obtain⟨⟨E,rfl⟩,r7⟩:=r6;have S5:=hJ (aK r7 (S.1.step (s2:=s') k5 f5));go_wp2
   go_meet
   case rel=>exact⟨_,_,_,_,rfl, .ot (.of t7 rfl) (S5.1),S5.2⟩
  have t7:(x.kind.toList==[109,97,112])=bA:=by simpa using t7
  by_cases t8:(x.kind.toList==[112,114,111,116,101,99,116])=bw
  .as_aux_lemma=>
   have CT:=hJ (La Wt N s W x.a x.b x.c x.on S.1.kk H.2.1.ki.vi.kj);rw[HK.v]at CT;go_wp2_with fail
   refine CT.mono ?_;rintro e w5 ⟨v,s',rfl,r5,k5,f5⟩;have r6:(∃E,v=bN E)/\Kn.xd N s.k x s'.k:=by
    rcases r5 with⟨n,_,hn,l,rfl,e⟩|⟨_,rfl,e⟩
    .exact⟨⟨_,rfl⟩, .inr (.inr (.inr (.inr (.inr (.inr (.inl ⟨n,_,hn,l,Mv.Sa _ _ _ _,e⟩))))))⟩
    .exact⟨⟨_,rfl⟩, .inr (.inr (.inr (.inr (.inr (.inr (.inr (.inr (.inr (.inr (e))))))))))⟩
   obtain⟨⟨E,rfl⟩,r7⟩:=r6;have S5:=hJ (aK r7 (S.1.step (s2:=s') k5 f5));go_wp2
   go_meet
   case rel=>exact⟨_,_,_,_,rfl, .ot (.of t8 rfl) (S5.1),S5.2⟩
  have t8:(x.kind.toList==[112,114,111,116,101,99,116])=bA:=by simpa using t8
  by_cases t9:(x.kind.toList==[117,110,109,97,112])=bw
  .as_aux_lemma=>
   have CT:=hJ (Fz Wt N s W x.a x.b x.c S.1.kk H.2.1.ki.vi.kj (by obtain⟨Wy,t⟩:=H.2.1.ki.vi.kj.gr;exact t.small (by have:=H.2.2.1;omega)));rw[HK.v]at CT;go_wp2_with fail
   refine CT.mono ?_;rintro e w5 ⟨v,s',rfl,r5,k5,f5⟩;have r6:∃E,v=bN E/\∀a,Kn.nR N s.k x a E s'.k:=by
    rcases r5 with⟨n,a,hn,l,rfl,e⟩|⟨ne,rfl,e⟩
    .exact⟨_,rfl,λ_=> .inr (.inl ⟨t9, .inl ⟨n,a,hn,l,rfl,e⟩⟩)⟩
    .exact⟨_,rfl,λ_=> .inr (.inl ⟨t9, .inr ⟨Kn.xe ne,e⟩⟩)⟩
   obtain⟨E,rfl,r7⟩:=r6;have S5:=hJ (aK r7 (S.1.step (s2:=s') k5 f5));go_wp2
   go_meet
   case rel=>exact⟨_,_,_,_,rfl,S5.1 _,S5.2⟩
  have t9:(x.kind.toList==[117,110,109,97,112])=bA:=by simpa using t9
  by_cases t10:(x.kind.toList==[108,111,97,100])=bw
  .as_aux_lemma=>
   have CT:=hJ (K6 Wt N d s W x.a x.b (Dw Wt N d s W (by have:=H.2.2.1;omega) S.1.kk H.2.1) (by have:=H.2.2.1;omega) S.1.kk H.2.1);rw[HK.v]at CT;go_wp2_with fail
   refine CT.mono ?_;rintro e w5 ⟨v,s',rfl,⟨u,y,rfl,r5,ub⟩,k5,f5⟩;obtain⟨E,rfl⟩:∃E,y=bN E:=by obtain⟨E,e,_⟩:=r5;exact⟨E,e⟩
   have S5:=hJ (aK (aK r5 ub) (S.1.step (s2:=s') k5 f5));have y0:=S5.2.a5.at 0 _ rfl;have fz:=cE S5.2.a5;go_wp2
   go_meet
   case rel=>exact⟨_,wrap64 u,_,_,rfl, .inr (.inr (.inl ⟨t10,u, .inr (IntWalk.i64_left u).symm,S5.1.1,λe=>S5.1.2 (by rw[e];rfl)⟩)),S5.2.kO _⟩
  have t10:(x.kind.toList==[108,111,97,100])=bA:=by simpa using t10
  by_cases t11:(x.kind.toList==[115,116,111,114,101])=bw
  .as_aux_lemma=>
   have CT:=hJ (λu=>I6 Wt N d s W x.a x.b u (Dw Wt N d s W (by have:=H.2.2.1;omega) S.1.kk H.2.1) (by have:=H.2.2.1;omega) S.1.kk H.2.1);simp only[HK.v]at CT;go_wp2_with fail
   refine(CT.v _).mono ?_;rintro e w5 ⟨y,s',rfl,r5,k5,f5⟩;obtain⟨E,rfl⟩:∃E,y=bN E:=by obtain⟨E,e,_⟩:=r5;exact⟨E,e⟩
   have S5:=hJ (aK r5 (S.1.step (s2:=s') k5 f5));go_wp2
   go_meet
   case rel=>exact⟨_,_,_,_,rfl, .inr (.inr (.inr (.inl ⟨t11,S5.1⟩))),S5.2⟩
  have t11:(x.kind.toList==[115,116,111,114,101])=bA:=by simpa using t11
  by_cases t12:(x.kind.toList==[97,100,100])=bw
  .as_aux_lemma=>
   have CT:=hJ (KR Wt N s W x.a x.b S.1.kk H.2.1.ki.vi.kj);rw[HK.v]at CT;go_wp2_with fail
   refine CT.mono ?_;rintro e w5 ⟨v,s',rfl,⟨⟨y,E,rfl⟩,r5⟩,k5,f5⟩;have S5:=hJ (aK r5 (S.1.step (s2:=s') k5 f5));have y0:=S5.2.a5.at 0 _ rfl;have fz:=cE S5.2.a5;go_wp2
   go_meet
   case rel=>exact⟨_,_,_,_,rfl, .ot (.of t12 rfl) (.inr (.inr (.inr (.inr (.inr (.inr (.inr (.inl S5.1)))))))),S5.2.kO _⟩
  have t12:(x.kind.toList==[97,100,100])=bA:=by simpa using t12
  by_cases t13:(x.kind.toList==[100,114,111,112])=bw
  .as_aux_lemma=>
   have CT:=hJ (IM Wt N s W (by have:=H.2.2.1;omega) x.a S.1.kk H.2.1.ki.vi.kj);rw[HK.v]at CT;go_wp2_with fail
   refine CT.mono ?_;rintro e w5 ⟨v,s',rfl,⟨⟨E,rfl⟩,r5⟩,k5,f5⟩;have S5:=hJ (aK r5 (S.1.step (s2:=s') k5 f5));go_wp2
   go_meet
   case rel=>exact⟨_,_,_,_,rfl, .ot (.of t13 rfl) (.inr (.inr (.inr (.inr (.inr (.inr (.inr (.inl S5.1)))))))),S5.2⟩
  have t13:(x.kind.toList==[100,114,111,112])=bA:=by simpa using t13
  by_cases t14:(x.kind.toList==[108,105,109,105,116])=bw
  .as_aux_lemma=>
   have CT:=hJ (IP Wt N s W x.a x.b x.c S.1.kk H.2.1.ki.vi.kj);rw[HK.v]at CT;go_wp2_with fail
   refine CT.mono ?_;rintro e w5 ⟨v,s',rfl,⟨⟨E,rfl⟩,r5⟩,k5,f5⟩;have S5:=hJ (aK r5 (S.1.step (s2:=s') k5 f5));go_wp2
   go_meet
   case rel=>exact⟨_,_,_,_,rfl, .inr (.inr (.inr (.inr (.inl ⟨t14,S5.1⟩)))),S5.2⟩
  have t14:(x.kind.toList==[108,105,109,105,116])=bA:=by simpa using t14
  by_cases t15:(x.kind.toList==[106,111,105,110])=bw
  .as_aux_lemma=>
   have CT:=hJ (KZ Wt N s W (by have:=H.2.2.1;omega) x.a x.b S.1.kk H.2.1.ki.vi.kj);rw[HK.v]at CT;go_wp2_with fail
   refine CT.mono ?_;rintro e w5 ⟨y,s',rfl,r5,k5,f5⟩;obtain⟨E,rfl⟩:∃E,y=bN E:=by obtain⟨E,e,_⟩:=r5;exact⟨E,e⟩
   have S5:=hJ (aK r5 (S.1.step (s2:=s') k5 f5));go_wp2
   go_meet
   case rel=>exact⟨_,_,_,_,rfl, .ot (.of t15 rfl) (.inr (.inr (.inr (.inr (.inr (.inr (.inr (.inr (.inl ⟨_,S5.1⟩))))))))),S5.2⟩
  have t15:(x.kind.toList==[106,111,105,110])=bA:=by simpa using t15
  by_cases t16:(x.kind.toList==[115,108,101,101,112])=bw
  .as_aux_lemma=>
   have CT:=hJ (I5 Wt s W x.a x.on S.1.kk);rw[HK.v]at CT;go_wp2_with fail
   refine CT.mono ?_;rintro e w5 ⟨y,s',rfl,r5,k5,f5⟩;obtain⟨E,rfl⟩:∃E,y=bN E:=by obtain⟨E,_,e,_⟩:=r5;exact⟨E,e⟩
   have S5:=hJ (aK r5 (S.1.step (s2:=s') k5 f5));go_wp2
   go_meet
   case rel=>exact⟨_,_,_,_,rfl, .ot (.of t16 rfl) (.inr (.inr (.inr (.inr (.inr (.inr (.inr (.inr (.inr (.inl ⟨_,S5.1⟩)))))))))),S5.2⟩
  have t16:(x.kind.toList==[115,108,101,101,112])=bA:=by simpa using t16
  by_cases t17:(x.kind.toList==[102,114,101,101,122,101])=bw
  .as_aux_lemma=>
   have CT:=hJ (Fv Wt N s W x.a x.on S.1.kk H.2.1.ki.vi.kj);rw[HK.v]at CT;go_wp2_with fail
   refine CT.mono ?_;rintro e w5 ⟨v,s',rfl,⟨⟨E,rfl⟩,r5⟩,k5,f5⟩;have S5:=hJ (aK r5 (S.1.step (s2:=s') k5 f5));go_wp2
   go_meet
   case rel=>exact⟨_,_,_,_,rfl, .ot (.of t17 rfl) (.inr (.inr (.inr (.inr (.inr (.inr (.inr (.inl S5.1)))))))),S5.2⟩
  have t17:(x.kind.toList==[102,114,101,101,122,101])=bA:=by simpa using t17
  by_cases t18:(x.kind.toList==[113,117,111,116,97])=bw
  .as_aux_lemma=>
   have CT:=hJ (I4 Wt N s W x.a x.b x.c S.1.kk H.2.1.ki.vi.kj);rw[HK.v]at CT;go_wp2_with fail
   refine CT.mono ?_;rintro e w5 ⟨v,s',rfl,⟨⟨E,rfl⟩,r5⟩,k5,f5⟩;have S5:=hJ (aK r5 (S.1.step (s2:=s') k5 f5));go_wp2
   go_meet
   case rel=>exact⟨_,_,_,_,rfl, .ot (.of t18 rfl) (.inr (.inr (.inr (.inr (.inr (.inr (.inr (.inl S5.1)))))))),S5.2⟩
  have t18:(x.kind.toList==[113,117,111,116,97])=bA:=by simpa using t18
  by_cases t19:(x.kind.toList==[116,105,99,107])=bw
  .as_aux_lemma=>
   have CT:=hJ (Bu Wt s W S.1.kk);rw[HK.v]at CT;go_wp2_with fail
   refine CT.mono ?_;rintro e w5 ⟨r,m,rfl,r5,k5,f5⟩;have S5:=hJ (aK r5 (S.1.step (s2:={s with k:={s.k with sc:=m}}) k5 f5));have y0:=S5.2.a5.at 0 _ rfl;have fz:=cE S5.2.a5;go_wp2
   go_meet
   case rel=>exact⟨_,_,_,_,bF.symm, .inr (.inr (.inr (.inr (.inr (.inl ⟨t19,m,S5.1,rfl⟩))))),S5.2.kO _⟩
  have t19:(x.kind.toList==[116,105,99,107])=bA:=by simpa using t19
  have nk:Kn.NK x:=λl hl=>by
   unfold Kn.wk at hl;simp only[List.mem_cons,List.not_mem_nil,or_false]at hl;rcases hl with rfl|rfl|rfl|rfl|rfl|rfl<;>assumption
  have NK:=hJ nk
  as_aux_lemma=>
   have CT:=hJ (NJ Wt N d s W x S.1.kk H.2.1 H.2.2.1 (aH H.2.2.2.1 S.1.kf.ia.size) H.2.2.2.2);rw[HK.v]at CT;go_wp2_with fail
   refine CT.mono ?_;rintro e w5 ⟨n,m,E,t,s',rfl,r5,k5,f5⟩;have S5:=hJ (aK r5 (S.1.step (s2:=s') k5 f5));obtain⟨c,hc⟩:=hU (w.heap.size+1);rw[hc]at S5|-;have z0:=S5.2.a4.at 0 _ rfl;have z1:=S5.2.a4.at 1 _ rfl;have z2:=S5.2.a4.at 2 _ rfl;have z3:=S5.2.a4.at 3 _ rfl;have f4:=cE S5.2.a4;have FI:=hJ (S5.2.VD n m E t);go_wp2_with fail
   exact bodyPost_ret (v:=au #[aa az n,aa az m,aa az E,ak t]) (by simp[results,Tryz.results12,go_sem,z0,z1,z2,z3]) rfl ⟨n,m,E,t,s',rfl, .inr ⟨NK.v,S5.1⟩,FI.v⟩
 case rest=>
  obtain⟨E,n,m,s1,rfl,T⟩:=hcut;have NB:=hJ (wT E wc);go_wp2_with fail
  refine cG NB.v ?_;obtain⟨c,hc⟩:=hU (w.heap.size+1);rw[hc]at T|-;have y0:=T.2.a5.at 0 _ rfl;have y1:=T.2.a5.at 1 _ rfl;have y2:=T.2.a5.at 2 _ rfl;have y3:=T.2.a5.at 3 _ rfl;have z0:=T.2.a4.at 0 _ rfl;have z1:=T.2.a4.at 1 _ rfl;have z2:=T.2.a4.at 2 _ rfl;have z3:=T.2.a4.at 3 _ rfl;have f5:=cE T.2.a5;have f4:=cE T.2.a4;have FI:=hJ (T.2.fin E);go_wp2_with fail
  exact bodyPost_ret (v:=au #[aa az n,aa az m,aa az E,ak ⟨#[]⟩]) (by simp[results,Tryz.results12,go_sem,z0,z1,z2,z3]) rfl ⟨n,m,E,_,s1,rfl, .inl T.1,FI.v⟩
end
section
variable {w W W':bD}{kb N:Nat}{d:Nat->Nat}{s:St}
theorem KW.act(h:KW w kb N d s W)(hN:N<880)(x:fk)(hs:x.s.size<2^59):Calls prog 12 #[ai (bj ⟨kb,0,bu⟩),au #[ak x.kind,aa az x.a,aa az x.b,aa az x.c,aa bd x.key,ar x.on,ak x.s,ak x.t]] W λe w'=>∃(n m E:Int) (t:bU) (s':St) (d':Nat->Nat),e=bf (au #[aa az n,aa az m,aa az E,ak t])/\(Kn.nR N s.k x n E s'.k\/Kn.NK x/\Kn.pN s.k x s'.k)/\KF s W s' w'/\KW w kb (N+2) d' s' w':=by
 have:=QF w.heap.size N d s W x h.kk h.kh hN h.cU.size hs;rw[h.a0]at this;refine this.mono ?_;rintro e w' ⟨n,m,E,t,s',rfl,r,k,f⟩;obtain⟨d',q⟩:∃d',KH (N+2) d' s'.k:=r.elim h.kh.ac (λr=>h.kh.di r.2);exact⟨n,m,E,t,s',d',rfl,r,f,h.step k f q⟩
end
theorem Kn.CG.Tg{k:Kp}(b:Kn.Be k):Kn.CG k:=by
 obtain⟨p0,pn,_⟩:=b.p;have cz:∀m,m≠0->∀g,Kn.cp (k.p m) g=0/\Kn.cq (k.p m) g=0:=λm m0 g=>by
  rw[pn m m0];exact⟨aI (λx=>x.1 rfl),aI (λx=>x.1 rfl)⟩
 have c0:∀g:Nat,Kn.cp (k.p 0) g=(if g=0 then 1 else 0)/\Kn.cq (k.p 0) g=0:=λg=>by
  rw[p0];unfold Kn.cp Kn.cq;have r:Mv.cM (Kn.gY 6).mem 16=0:=rfl;rw[r];refine⟨?_,by split<;>rfl⟩;by_cases c:g=0
  .rw[aJ c,aJ ⟨by show(1:Nat)≠0;decide,by rw[c];rfl⟩]
  .rw[aI c,aI (λx=>c (by have:(0:Int)=(g:Int):=x.2;omega))]
 have s:∀g M,Kn.sm (λm=>Kn.cp (k.p m) g) (M+1)=(if g=0 then 1 else 0)/\Kn.sm (λm=>Kn.cq (k.p m) g) (M+1)=0:=λg M=>by
  induction M with
  |zero=>exact⟨by show 0+Kn.cp (k.p 0) g=_;rw[(c0 g).1];omega,by show 0+Kn.cq (k.p 0) g=0;rw[(c0 g).2];rfl⟩
  |succ M ih=>exact⟨by show Kn.sm _ (M+1)+Kn.cp (k.p (M+1)) g=_;rw[ih.1,(cz (M+1) bB g).1];omega,by show Kn.sm _ (M+1)+Kn.cq (k.p (M+1)) g=_;rw[ih.2,(cz (M+1) bB g).2];rfl⟩
 have gr:k.gr=Gr.eR Gr.t0 Gr.W0 0 1 0:=by obtain⟨_,_,rfl⟩:=b;rfl
 have t:∀g,g<10->(Gr.eR Gr.t0 Gr.W0 0 1 0 g).op=(if g=0 then 1 else 0)/\(Gr.eR Gr.t0 Gr.W0 0 1 0 g).oq=0:=by decide+kernel
 refine⟨λg hg=>?_,λg hg=>?_,λm hm e=>?_⟩
 .rw[gr,(t g hg).1];exact(s g 19).1.symm
 .rw[gr,(t g hg).2];exact(s g 19).2.symm
 .by_cases c:m=0
  .subst c;exact⟨0,by rw[p0];rfl,bB,by rw[gr];decide+kernel⟩
  .rw[pn m c]at e;exact aZ rfl e
def pW(t:Nat->Gr.Gp)(Wy:Nat->List (Fin 10))(n o:Nat):Int:=if o/5<n then Kn.eW t Wy ((o/5:Nat):Int) (o%5)else 0
theorem MO{t:Nat->Gr.Gp}{Wy:Nat->List (Fin 10)}{n:Nat}(hn:n<10){j:Nat}(hj:j<5):pW t Wy 10 (n*5+j)=Kn.eW t Wy (n:Int) j:=by
 have e1:(n*5+j)/5=n:=bB
 have e2:(n*5+j)%5=j:=bB
 unfold pW;rw[e1,e2,aJ hn]
theorem PJ(t:Nat->Gr.Gp)(Wy:Nat->List (Fin 10)):pW t Wy 0=λ_=>0:=funext λ_=>nJ
theorem PG(t:Nat->Gr.Gp)(Wy:Nat->List (Fin 10))(n:Nat):kQ (kQ (kQ (kQ (kQ (pW t Wy n) (n*5) (Kn.eW t Wy (n:Int) 0)) (n*5+1) (Kn.eW t Wy (n:Int) 1)) (n*5+2) (Kn.eW t Wy (n:Int) 2)) (n*5+3) (Kn.eW t Wy (n:Int) 3)) (n*5+4) (Kn.eW t Wy (n:Int) 4)=pW t Wy (n+1):=by
 funext o;unfold kQ pW;by_cases c:o/5=n
 .have e:o=n*5+o%5:=bB
  have l:o%5<5:=bB
  rw[aJ (show o/5<n+1 by omega),c];generalize o%5=r at e l;subst e
  match r,l with
  |0,_=>simp
  |1,_=>simp
  |2,_=>simp
  |3,_=>simp
  |4,_=>simp
 .rw[nJ,nJ,nJ,nJ,nJ];by_cases d:o/5<n
  .rw[aJ d,nK]
  .rw[aI d,nJ]
namespace Kn
theorem GJ{t:Nat->Gr.Gp}{Wy:Nat->List (Fin 10)}{g:Nat}(hg:g<10):eW t Wy (g:Int) 3=Gr.gU t Wy g 3/\eW t Wy (g:Int) 4=Gr.gU t Wy g 4:=by
 unfold eW Gr.gU Gr.wr;rw[aI (show¬((g:Int)<0\/10<=(g:Int))by omega),hZ];by_cases c:(t g).there=bw
 .simp[c]
 .simp[c]
section
variable {N:Nat}{d:Nat->Nat}{k k':Kp}{x:fk}
theorem nR.tick{a E:Int}(t:kd x [116,105,99,107])(e:nR N k x a E k'\/NK x/\pN k x k'):∃m,Wf.zU k.sc a m/\k'={k with sc:=m}:=by
 have ne:∀{l:List UInt8},kd x l->(([116,105,99,107]:List UInt8)==l)=bA->False:=λh q=>by
  have:=US t q;rw[h]at this;cases this
 rcases e with e|⟨q,_⟩
 .rcases e with⟨h,_⟩|⟨h,_⟩|⟨h,_⟩|⟨h,_⟩|⟨h,_⟩|⟨_,e⟩|⟨q,_⟩
  .exact(ne h rfl).elim
  .exact(ne h rfl).elim
  .exact(ne h rfl).elim
  .exact(ne h rfl).elim
  .exact(ne h rfl).elim
  .exact e
  .have:=q [116,105,99,107] bE;rw[t]at this;cases this
 .have:=q [116,105,99,107] bE;rw[t]at this;cases this
theorem SL.runs{a E:Int}(h:SL k)(t:kd x [116,105,99,107])(e:nR N k x a E k'\/NK x/\pN k x k')(a0:0<=a):∃n:Nat,a=n/\n<20/\lv k' n=bw/\k'.sc.here (10+n)=bw:=by
 obtain⟨m,tk,rfl⟩:=nR.tick t e;obtain⟨e1,⟨c,_⟩|⟨n,en,hn,hh⟩⟩:=tk
 .omega
 .exact⟨n,en,hn,h n hn hh,by show m.here (10+n)=bw;rw[e1];exact hh⟩
end
theorem SL.Tg{k:Kp}(b:Be k)(h:∀n,k.sc.here (10+n)=bw->n=0):SL k:=λn hn e=>by
 rw[h n e,dL,b.p.1];rfl
theorem Iw{m:Wf.M}(w:Wf.jb (Wf.dH Wf.m0 ((0:Nat):Int) 0) ((0:Nat):Int) bw m){n:Nat}(e:m.here (10+n)=bw):n=0:=by
 rw[show m=_ from w]at e;have e:(Wf.dH Wf.m0 ((0:Nat):Int) 0).here (10+n)=bw:=e;unfold Wf.dH at e;split at e
 .unfold Wf.qs at e;split at e
  .have e:Wf.fb Wf.m0.here (10+((0:Nat):Int).toNat) bw (10+n)=bw:=e;unfold Wf.fb at e;split at e
   .rename_i q;have q:10+n=10+0:=q;omega
   .have e:decide (10+n=0)=bw:=e;have:=of_decide_eq_true e;omega
  .have e:decide (10+n=0)=bw:=e;have:=of_decide_eq_true e;omega
 .have e:decide (10+n=0)=bw:=e;have:=of_decide_eq_true e;omega
end Kn
theorem Fu(w:bD):
  Calls prog 9 #[] w λe w'=>∃s:St,e=bf (ao #[ai (bj ⟨s.A 0,0,bu⟩),ar bw])/\(Kn.Be s.k/\Kn.SL s.k)/\KH 2 (λ_=>1) s.k/\bO w' w.heap.size s/\Below w.heap.size w w':=by
 go_in
 go_wp2_with fail
 refine(Ot _).mono ?_;rintro e w1 ⟨s,m,rfl,ek,wk,k1,b1⟩;have S1:=hJ (aK ek (aK wk (aK k1 b1)));have KH1:Hid (KH 1 (λ_=>1) s.k):=hJ (by rw[ek];exact Kn.Wb m);clear ek wk k1 b1;have TK:=hJ (Bu w.heap.size s w1 S1.2.2.1);obtain⟨kb,hkb⟩:=hU (s.A 0);have HK:=hJ hkb;rw[hkb]at TK|-;clear hkb;go_wp2_with fail
 refine TK.mono ?_;rintro e w2 ⟨r,m',rfl,t,k2,f2⟩;have r0:r=0:=Kn.Ix S1.2.1 (by
  have e:=S1.1;rw[e]at t;exact t)
 subst r0;have sl:Kn.SL {s.k with sc:=m'}:=Kn.SL.Tg ⟨m,m',by rw[S1.1]⟩ (λn e=>by
  rw[t.1,S1.1]at e;exact Kn.Iw S1.2.1 e)
 have S2:Hid ((Kn.Be {s.k with sc:=m'}/\Kn.SL {s.k with sc:=m'})/\KH 2 (λ_=>1) {s.k with sc:=m'}/\bO w2 w.heap.size {s with k:={s.k with sc:=m'}}/\Below w.heap.size w w2):=hJ ⟨⟨⟨m,m',by rw[S1.1]⟩,sl⟩,KH1.tick m',k2,f2.behind S1.2.2.1 S1.2.2.2 (aL _) S1.2.2.2.size⟩;clear t k2 f2 TK;have PR:=hJ (yW w.heap.size {s with k:={s.k with sc:=m'}} w2 S2.2.2.1);rw[show({s with k:={s.k with sc:=m'}}:St).A 0=kb from HK.v,show Kn.dY ({s with k:={s.k with sc:=m'}}:St).k 20=[0]from S2.1.1.live]at PR;go_wp2_with fail
 refine PR.mono ?_;rintro e w3 ⟨v3,rfl,hL⟩;obtain⟨a,cap,hv⟩:=ib hL.own;have hv':v3=aj a 1 cap:=hv;subst hv';have S3:Hid (bO w3 w.heap.size {s with k:={s.k with sc:=m'}}/\Below w.heap.size w w3):=hJ ⟨S2.2.2.1.below hL.cU,S2.2.2.2.trans (hL.cU.mono S2.2.2.2.size)⟩;clear hL hv PR;go_wp2
 go_ret2
 exact⟨{s with k:={s.k with sc:=m'}},by rw[show({s with k:={s.k with sc:=m'}}:St).A 0=kb from HK.v];rfl,S2.1,S2.2.1,S3.v⟩
section
theorem Pv(a0:Option Addr)(b0 o0 n0 c0:Nat)(ax:Nat->fk)(w:bD)(ha:0<n0->a0=bj ⟨b0,o0,bu⟩)(hc:∀i,i<n0->∀j,j<8->w.cell? ⟨b0,o0+i*8+j,bu⟩=bj ((ax i).cell j)):
  Calls prog 3 #[aj a0 n0 c0] w λe w'=>e=bf (ar bw)/\Below w.heap.size w w':=by
 have H0:=hJ (aK ha hc);clear ha hc;go_in
 go_wp2_with fail
 refine(Fu _).mono ?_;rintro e w1 ⟨s,rfl,bg,kh,kk,b1⟩;obtain⟨kb,hkb⟩:=hU (s.A 0);have S1:Hid (KW w kb 2 (λ_=>1) s w1/\Kn.CG s.k/\Kn.SL s.k):=hJ ⟨⟨b1,kk,kh,hkb⟩, .Tg bg.1,bg.2⟩;rw[hkb];clear bg kh kk b1 hkb;have FW:=hJ (Re a0 b0 o0 n0 c0 120 ax w1 bB H0.1 (λi hi j hj=>by
  have bl:b0<w.heap.size:=bZ _ _ (H0.2 i hi j hj);exact(S1.1.cU.cell (p:=⟨b0,o0+i*8+j,bu⟩) bl).trans (H0.2 i hi j hj)))
 go_wp2_with fail
 refine FW.mono ?_;rintro e w2 ⟨v,rfl,lt,hw⟩;subst w2;cases v
 .go_wp2
  go_ret
  exact⟨rfl,S1.1.cU⟩
 .obtain⟨hn,lt⟩:=lt rfl;have LT:=hJ lt;clear lt FW;go_wp2_with fail
  go_loopw [5] (λi wr=>∃(k:Nat) (s:St) (N:Nat) (d:Nat->Nat),i=aa az k/\k<=n0/\N<=2+2*k/\Hid (KW w kb N d s wr/\Kn.CG s.k/\Kn.SL s.k)) (λi _=>n0-(intOf i).toNat)
  case atStart=>exact⟨0,s,2,_,rfl,bB,bB,S1⟩
  case round=>
   clear S1;obtain⟨k,s,N,d,rfl,hk,hN,S⟩:=hrel;by_cases hlt:k<n0
   .as_aux_lemma=>
    have hltI:(k:Int)<(n0:Int):=bB
    have hae:=H0.1 bB;subst hae;have HN:=hJ (aK hN (aK hk hlt));have HS:=hJ (LT.v k hlt);have cl:∀j,j<8->wr.cell? ⟨b0,o0+k*8+j,bu⟩=bj ((ax k).cell j):=λj hj=>(S.1.cU.cell (p:=⟨b0,o0+k*8+j,bu⟩) (bZ _ _ (H0.2 k hlt j hj))).trans (H0.2 k hlt j hj);obtain⟨x,hx⟩:=hU (ax k);rw[hx]at cl HS;have q0:wr.cell? ⟨b0,o0+k*8,bu⟩=bj (ak x.kind):=cl 0 bB;have q1:wr.cell? ⟨b0,o0+k*8+1,bu⟩=bj (aa az x.a):=cl 1 bB;have q2:wr.cell? ⟨b0,o0+k*8+2,bu⟩=bj (aa az x.b):=cl 2 bB;have q3:wr.cell? ⟨b0,o0+k*8+3,bu⟩=bj (aa az x.c):=cl 3 bB;have q4:wr.cell? ⟨b0,o0+k*8+4,bu⟩=bj (aa bd x.key):=cl 4 bB;have q5:wr.cell? ⟨b0,o0+k*8+5,bu⟩=bj (ar x.on):=cl 5 bB;have q6:wr.cell? ⟨b0,o0+k*8+6,bu⟩=bj (ak x.s):=cl 6 bB;have q7:wr.cell? ⟨b0,o0+k*8+7,bu⟩=bj (ak x.t):=cl 7 bB;clear cl hx hN hk H0 LT;go_upto_region 8 with fail
    have bb:=(aQ wr.heap.size wr).alloc (aL _) (bh #[ak x.kind,aa az x.a,aa az x.b,aa az x.c,aa bd x.key,ar x.on,ak x.s,ak x.t] 29);refine cJ (λW=>(KW w kb N d s W/\Kn.CG s.k/\Kn.SL s.k)/\¬KB s wr.heap.size/\ow W wr.heap.size x) ⟨⟨S.1.below bb,S.2⟩,S.1.kk.ie (aL _),heap_alloc_new wr _⟩ ?_;rintro W3 hS3;clear q0 q1 q2 q3 q4 q5 q6 q7 S bb;generalize wr.heap.size=ba at*;have S3:=hJ hS3;clear hS3;obtain⟨Wy,tr⟩:=S3.1.1.kh.ki.vi.kj.gr;have TR:=hJ (aK tr (tr.small (by have:=HN.v;omega)));clear tr;go_upto_region 9 with fail
    refine cJ (λW=>(KW w kb N d s W/\Kn.CG s.k/\Kn.SL s.k)/\(¬KB s ba/\¬KB s W3.heap.size/\ba<W3.heap.size/\w.heap.size<=W3.heap.size)/\ow W ba x/\lB W W3.heap.size 50 32 (pW s.k.gr Wy 0)) ?_ ?_
    .have bb:=(aQ W3.heap.size W3).alloc (aL _) (bh (jx 50 λ_=>0) 32);have la:=(aX.1 S3.2.2).1;have q:(KW w kb N d s (W3.alloc (bh (jx 50 λ_=>0) 32))/\Kn.CG s.k/\Kn.SL s.k)/\(¬KB s ba/\¬KB s W3.heap.size/\ba<W3.heap.size/\w.heap.size<=W3.heap.size)/\ow (W3.alloc (bh (jx 50 λ_=>0) 32)) ba x/\lB (W3.alloc (bh (jx 50 λ_=>0) 32)) W3.heap.size 50 32 (pW s.k.gr Wy 0):=⟨⟨S3.1.1.below bb,S3.1.2⟩,⟨S3.2.1,S3.1.1.kk.ie (aL _),la,S3.1.1.cU.size⟩,(bb.block ba la).trans S3.2.2,by rw[PJ];exact heap_alloc_new W3 _⟩;exact q
    rintro W4 hS4;clear S3;generalize W3.heap.size=wb at*;have S4:=hJ (aK hS4.1.1 (aK hS4.2.2.1 hS4.2.2.2));have SK:=hJ (aK hS4.1.2 hS4.2.1);clear hS4;go_wp2_with fail
    go_loopw [8] (λi wr=>∃n:Nat,i=aa az n/\n<=10/\Hid (KW w kb N d s wr/\ow wr ba x/\lB wr wb 50 32 (pW s.k.gr Wy n))) (λi _=>10-(intOf i).toNat)
    case atStart=>exact⟨0,rfl,bB,S4⟩
    case round=>
     clear S4;obtain⟨n,rfl,hn10,S⟩:=hrel;by_cases nl:n<10
     .as_aux_lemma=>
      have nlI:(n:Int)<10:=bB
      have KG:=hJ (qa w.heap.size s wr (n:Int) (Wy:=Wy) S.1.kk TR.1.ways TR.2);rw[S.1.a0]at KG;go_wp2_with fail
      refine KG.mono ?_;rintro e w6 ⟨rfl,b6⟩;have S6:Hid (KW w kb N d s w6/\ow w6 ba x/\lB w6 wb 50 32 (pW s.k.gr Wy n)):=hJ ⟨S.1.below b6,(b6.block ba (aX.1 S.2.1).1).trans S.2.1,S.2.2.same (b6.block _ S.2.2.lt)⟩;have c0:=S6.2.2.cell (n*5) bB;have c1:=S6.2.2.cell (n*5+1) bB;have c2:=S6.2.2.cell (n*5+2) bB;have c3:=S6.2.2.cell (n*5+3) bB;have c4:=S6.2.2.cell (n*5+4) bB;have fz:=S6.2.2.frozen;have SA:Hid (∀V,V=(((((w6.setCell ⟨wb,n*5,bu⟩ (aa az (Kn.eW s.k.gr Wy (n:Int) 0))).setCell ⟨wb,n*5+1,bu⟩ (aa az (Kn.eW s.k.gr Wy (n:Int) 1))).setCell ⟨wb,n*5+2,bu⟩ (aa az (Kn.eW s.k.gr Wy (n:Int) 2))).setCell ⟨wb,n*5+3,bu⟩ (aa az (Kn.eW s.k.gr Wy (n:Int) 3))).setCell ⟨wb,n*5+4,bu⟩ (aa az (Kn.eW s.k.gr Wy (n:Int) 4)))->KW w kb N d s V/\ow V ba x/\lB V wb 50 32 (pW s.k.gr Wy (n+1))):=hJ (by
       intro V hV;have f:bG wb w6 V:=by rw[hV];exact(((((bG.refl wb w6).setCell _ _).setCell _ _).setCell _ _).setCell _ _).setCell _ _
       have z:=((((S6.2.2.set (n*5) (Kn.eW s.k.gr Wy (n:Int) 0) bB).set (n*5+1) (Kn.eW s.k.gr Wy (n:Int) 1) bB).set (n*5+2) (Kn.eW s.k.gr Wy (n:Int) 2) bB).set (n*5+3) (Kn.eW s.k.gr Wy (n:Int) 3) bB).set (n*5+4) (Kn.eW s.k.gr Wy (n:Int) 4) bB;rw[PG,<-hV]at z;have lt:=(aX.1 S6.2.1).1;exact⟨⟨f.below S6.1.cU SK.2.2.2.2 S6.1.cU.size,S6.1.kk.fresh f SK.2.2.1,S6.1.kh,S6.1.a0⟩,(f.block ba lt (by have:=SK.2.2.2.1;omega)).trans S6.2.1,z⟩)
      clear b6 KG S;generalize Kn.eW s.k.gr Wy (n:Int)=gi at*;generalize pW s.k.gr Wy n=wv at*;go_wp2
      go_roundw
      case rel=>exact⟨n+1,by go_num,bB,SA.v _ rfl⟩
      case measure=>simp[intOf];omega
     .as_aux_lemma=>
      have nlI:¬(n:Int)<10:=bB
      obtain rfl:n=10:=bB
      have AC:=hJ (S.1.act (by have:=HN.v;omega) x HS.v);have x0:=S.2.1.at 0 bB;have x1:=S.2.1.at 1 bB;have x2:=S.2.1.at 2 bB;have x3:=S.2.1.at 3 bB;have x4:=S.2.1.at 4 bB;have x5:=S.2.1.at 5 bB;have x6:=S.2.1.at 6 bB;have x7:=S.2.1.at 7 bB;simp only[fk.cell]at x0 x1 x2 x3 x4 x5 x6 x7;go_wp2_with fail
      refine AC.mono ?_;rintro e w5 ⟨a,m,E,t,s',d',rfl,r,f5,k5⟩;have RR:=hJ r;have S5:Hid ((KW w kb (N+2) d' s' w5/\Kn.CG s'.k/\Kn.SL s'.k)/\ow w5 ba x/\lB w5 wb 50 32 (pW s.k.gr Wy 10)):=hJ ⟨⟨k5,SK.1.1.ac S.1.kh r,SK.1.2.ac S.1.kh k5.kh r⟩,(f5.jj (aX.1 S.2.1).1 SK.2.1).trans S.2.1,S.2.2.same (f5.jj S.2.2.lt SK.2.2.1)⟩;have KH0:=hJ S.1.kh;clear r f5 k5 AC S x0 x1 x2 x3 x4 x5 x6 x7;go_upto_region 14 with fail
      have bb:=(aQ w5.heap.size w5).alloc (aL _) (bh #[aa az a,aa az m,aa az E,ak t] 38);refine cJ (λW=>((KW w kb (N+2) d' s' W/\Kn.CG s'.k/\Kn.SL s'.k)/\ow W ba x/\lB W wb 50 32 (pW s.k.gr Wy 10))/\tY W w5.heap.size a m E t) ⟨⟨⟨S5.1.1.below bb,S5.1.2⟩,(bb.block ba (aX.1 S5.2.1).1).trans S5.2.1,S5.2.2.same (bb.block _ S5.2.2.lt)⟩,heap_alloc_new w5 _⟩ ?_;rintro W6 hS6;clear S5 bb;generalize w5.heap.size=bn at*;have S6:=hJ hS6.1;have y0:=hS6.2.at 0 _ rfl;have x0:=hS6.1.2.1.at 0 bB;simp only[fk.cell]at x0;clear hS6;go_cut [60]from 53 to 59 (λv wx=>∃u:Bool,v=ar u/\wx=W6/\Hid (u=bw->Kn.kd x [116,105,99,107]/\0<=a))
      case first=>
       by_cases t0:(x.kind.toList==[116,105,99,107])=bw
       .by_cases a0:0<=a
        .go_wp2
         go_meet
         case rel=>exact⟨bw,rfl,rfl,λ_=>⟨t0,a0⟩⟩
        .go_wp2
         go_meet
         case rel=>exact⟨bA,rfl,rfl,λe=>by cases e⟩
       .have t0:(x.kind.toList==[116,105,99,107])=bA:=by simpa using t0
        go_wp2
        go_meet
        case rel=>exact⟨bA,rfl,rfl,λe=>by cases e⟩
      obtain⟨u,rfl,hwc,HU⟩:=hcut;subst wc;go_upto_if 60 with fail
      go_cut [10,11]from 61 to 69 (λ_ _ wx=>wx=W6)
      case first=>
       cases u
       .as_aux_lemma=>
        go_wp2
        go_meet
        case rel=>rfl
       .as_aux_lemma=>
        obtain⟨n,en,hn,l,hh⟩:=SK.1.2.runs (HU.v rfl).1 RR.v (HU.v rfl).2;have RN:=hJ (Rx w.heap.size s' W6 n S6.1.1.kk hn l hh);rw[S6.1.1.a0]at RN;rw[en]at y0;clear l hh en HU;go_wp2_with fail
        refine RN.mono ?_;rintro e w7 ⟨⟨rv,rfl⟩,hw⟩;subst w7;go_wp2
        go_meet
        case rel=>rfl
      have hcut:wc=W6:=hcut;subst wc;have LM:Hid ((x.kind.toList==[108,105,109,105,116])=bA->Kn.LF s.k Wy s'.k):=hJ (λq=>Kn.LF.ac SK.1.1 KH0.v TR.1 (λc=>by rw[show(x.kind.toList==[108,105,109,105,116])=bw from c]at q;cases q) RR.v);clear HU y0 x0 RR KH0;go_wp2_with fail
      go_loopw [12] (λi wr=>∃g:Nat,i=aa az g/\g<=10/\Hid ((KW w kb (N+2) d' s' wr/\Kn.CG s'.k/\Kn.SL s'.k)/\ow wr ba x/\lB wr wb 50 32 (pW s.k.gr Wy 10))) (λi _=>10-(intOf i).toNat)
      case atStart=>exact⟨0,rfl,bB,S6⟩
      case round=>
       clear S6;obtain⟨g,rfl,hg,S⟩:=hrel;have x0:=S.2.1.at 0 bB;simp only[fk.cell]at x0;go_upto_region 19 with fail
       go_cut [76]from 70 to 75 (λv wx=>∃u:Bool,v=ar u/\wx=wr/\Hid (u=bw->g<10/\(x.kind.toList==[108,105,109,105,116])=bA))
       case first=>
        by_cases g10:g<10
        .have gI:(g:Int)<10:=bB
         by_cases t0:(x.kind.toList==[108,105,109,105,116])=bw
         .go_wp2
          go_meet
          case rel=>exact⟨bA,rfl,rfl,λe=>by cases e⟩
         .have t0:(x.kind.toList==[108,105,109,105,116])=bA:=by simpa using t0
          go_wp2
          go_meet
          case rel=>exact⟨bw,rfl,rfl,λ_=>⟨g10,t0⟩⟩
        .have gI:¬(g:Int)<10:=bB
         go_wp2
         go_meet
         case rel=>exact⟨bA,rfl,rfl,λe=>by cases e⟩
       obtain⟨u,rfl,hwc,HU⟩:=hcut;subst wc;cases u
       .as_aux_lemma=>
        obtain⟨W2,tr2⟩:=S.1.1.kh.ki.vi.kj.gr;have CT:=hJ (Dx w.heap.size (N+2) (N+2) d' s' wr S.1.1.kk S.1.1.kh S.1.2.1 tr2 (by have:=HN.v;omega));rw[S.1.1.a0]at CT;clear tr2 HU x0;go_wp2_with fail
        refine CT.mono ?_;rintro e w8 ⟨rfl,b8⟩;have S8:=hJ (aK (S.1.1.below b8) S.1.2);clear b8 CT S;go_wp2
        go_roundw
        case rel=>exact⟨k+1,s',N+2,d',by go_num,by have:=HN.v;omega,by have:=HN.v;omega,S8⟩
        case measure=>simp[intOf];have:=HN.v;omega
       .as_aux_lemma=>
        obtain⟨g10,t0⟩:=HU.v rfl;obtain⟨W2,w2,fit⟩:=LM.v t0;obtain⟨W9,tr9⟩:=S.1.1.kh.ki.vi.kj.gr;have gI:(g:Int)<10:=bB
        have KG:=hJ (qa w.heap.size s' wr (g:Int) (Wy:=W2) S.1.1.kk w2 (tr9.small (by have:=HN.v;omega)));rw[S.1.1.a0]at KG;have c3:=S.2.2.cell (g*5+3) bB;have c4:=S.2.2.cell (g*5+4) bB;rw[MO g10 bB,(Kn.GJ g10).1]at c3;rw[MO g10 bB,(Kn.GJ g10).2]at c4;have CS:Hid (∀V,Below wr.heap.size wr V->V.cell? ⟨wb,g*5+3,bu⟩=bj (aa az (Gr.gU s.k.gr Wy g 3))/\V.cell? ⟨wb,g*5+4,bu⟩=bj (aa az (Gr.gU s.k.gr Wy g 4))):=hJ (λV b=>⟨by rw[b.cell (p:=⟨wb,g*5+3,bu⟩) S.2.2.lt,c3],by rw[b.cell (p:=⟨wb,g*5+4,bu⟩) S.2.2.lt,c4]⟩);have SB:Hid (∀V,Below wr.heap.size wr V->(KW w kb (N+2) d' s' V/\Kn.CG s'.k/\Kn.SL s'.k)/\ow V ba x/\lB V wb 50 32 (pW s.k.gr Wy 10)):=hJ (λV b=>⟨⟨S.1.1.below b,S.1.2⟩,(b.block ba (aX.1 S.2.1).1).trans S.2.1,S.2.2.same (b.block _ S.2.2.lt)⟩);have FI:Hid (Gr.wr s'.k.gr (g:Int)=0->¬(0<=Kn.eW s'.k.gr W2 (g:Int) 1/\Kn.eW s'.k.gr W2 (g:Int) 1<Kn.eW s'.k.gr W2 (g:Int) 3/\Gr.gU s.k.gr Wy g 3<Kn.eW s'.k.gr W2 (g:Int) 3)/\¬(0<=Kn.eW s'.k.gr W2 (g:Int) 2/\Kn.eW s'.k.gr W2 (g:Int) 2<Kn.eW s'.k.gr W2 (g:Int) 4/\Gr.gU s.k.gr Wy g 4<Kn.eW s'.k.gr W2 (g:Int) 4)):=hJ (λe=>by
         obtain⟨n,en,_,th⟩:=Gr.nQ e;obtain rfl:n=g:=bB
         have q:=fit n g10 th;have e1:Kn.eW s'.k.gr W2 (n:Int) 1=(s'.k.gr n).lp:=by unfold Kn.eW;rw[aJ e];rfl
         have e2:Kn.eW s'.k.gr W2 (n:Int) 2=(s'.k.gr n).lq:=by unfold Kn.eW;rw[aJ e];rfl
         have e3:Kn.eW s'.k.gr W2 (n:Int) 3=Gr.cr s'.k.gr W2 n Gr.Gp.op 10:=by unfold Kn.eW;rw[aJ e];rfl
         have e4:Kn.eW s'.k.gr W2 (n:Int) 4=Gr.cr s'.k.gr W2 n Gr.Gp.oq 10:=by unfold Kn.eW;rw[aJ e];rfl
         rw[e1,e2,e3,e4];exact q)
        clear fit w2 tr9 c3 c4 HU t0 x0 S LM;generalize Kn.eW s'.k.gr W2 (g:Int)=gi at*;generalize Gr.gU s.k.gr Wy g 3=p3 at*;generalize Gr.gU s.k.gr Wy g 4=p4 at*;obtain⟨ge,hge⟩:=hU (Gr.wr s'.k.gr (g:Int));rw[hge]at KG FI;clear hge;by_cases wr0:ge=0
        .as_aux_lemma=>
         subst wr0;rw[bF]at KG;have FJ:=hJ (FI.v rfl);clear FI;go_wp2_with fail
         refine KG.mono ?_;rintro e w6 ⟨rfl,b6⟩;have B6:=hJ b6;clear b6 KG;go_upto_region 22 with fail
         have bb:=(aQ w6.heap.size w6).alloc (aL _) (bh #[aa az (gi 0),aa az (gi 1),aa az (gi 2),aa az (gi 3),aa az (gi 4)] 31);refine cJ (λW=>Below wr.heap.size wr W/\W.heap[w6.heap.size]? =bj (bh #[aa az (gi 0),aa az (gi 1),aa az (gi 2),aa az (gi 3),aa az (gi 4)] 31 (0,0))) ⟨B6.trans (bb.mono B6.size),heap_alloc_new w6 _⟩ ?_;rintro W7 h7;have z1:W7.cell? ⟨w6.heap.size,1,bu⟩=bj (aa az (gi 1)):=by rw[bR h7.2];rfl
         have z2:W7.cell? ⟨w6.heap.size,2,bu⟩=bj (aa az (gi 2)):=by rw[bR h7.2];rfl
         have z3:W7.cell? ⟨w6.heap.size,3,bu⟩=bj (aa az (gi 3)):=by rw[bR h7.2];rfl
         have z4:W7.cell? ⟨w6.heap.size,4,bu⟩=bj (aa az (gi 4)):=by rw[bR h7.2];rfl
         have c3:=(CS.v W7 h7.1).1;have c4:=(CS.v W7 h7.1).2;have S7:=hJ (λq=>SB.v _ (h7.1.trans ((below_drewN W7 q).mono h7.1.size)));clear h7 bb B6 CS SB;generalize w6.heap.size=bx at*;generalize gi 0=g0 at*;generalize gi 1=g1 at*;generalize gi 2=g2 at*;generalize gi 3=g3 at*;generalize gi 4=g4 at*;go_wp2_with fail
         rcases(show¬0<=g1\/(0<=g1/\¬g1<g3)\/(0<=g1/\g1<g3/\¬p3<g3)by have:=FJ.1;omega)with p|⟨p,pq⟩|⟨p,pq,pr⟩<;>rcases(show¬0<=g2\/(0<=g2/\¬g2<g4)\/(0<=g2/\g2<g4/\¬p4<g4)by have:=FJ.2;omega)with q|⟨q,qq⟩|⟨q,qq,qr⟩<;>as_aux_lemma=>
          go_quiet (fail)
          go_wp2
          go_roundw
          case rel=>exact⟨g+1,by go_num,bB,S7.v _⟩
          case measure=>simp[intOf];omega
        .as_aux_lemma=>
         rw[bH wr0]at KG;clear wr0 FI;go_wp2_with fail
         refine KG.mono ?_;rintro e w6 ⟨rfl,b6⟩;have B6:=hJ b6;clear b6 KG;go_upto_region 22 with fail
         have bb:=(aQ w6.heap.size w6).alloc (aL _) (bh #[aa az (gi 0),aa az (gi 1),aa az (gi 2),aa az (gi 3),aa az (gi 4)] 31);refine cJ (λW=>Below wr.heap.size wr W) (B6.trans (bb.mono B6.size)) ?_;rintro W7 h7;have S7:=hJ (SB.v W7 h7);clear h7 bb B6 CS SB;go_wp2
         go_roundw
         case rel=>exact⟨g+1,by go_num,bB,S7⟩
         case measure=>simp[intOf];omega
   .as_aux_lemma=>
    have hltI:¬(k:Int)<(n0:Int):=bB
    go_wp2
    go_ret
    exact⟨rfl,S.1.cU⟩
theorem Su(a:Option Addr)(len cap:Nat)(w:bD)(h:vN w a len):
 Calls prog 3 #[aj a len cap] w λe w'=>e=bf (ar bw)/\Below w.heap.size w w':=Ni h λb o ax ha hc=>Pv a b o len cap ax w ha hc
end
end Go.Proofs.YtpmmdkcfenjiaaaGreatDoor
namespace Go.Proofs.YtpmmdkcfenjiaaaGreatDoor.LiP
open Value renaming int->aa,pointer->ai,slice->aj,string->ak,tuple->ao,bool->ar,agg->au
open IntKind renaming i64->az,u64->bd
open Ending renaming returned->bf
open Obj renaming cells->bh
open Option renaming some->bj,none->bu
open Bool renaming true->bw,false->bA
open _root_.Go.Proofs.Tryz (prog)
open Go.ChangeShapes Go.WideShapes Go.ChangeAt Go.RowKit
set_option linter.unusedVariables false
theorem own:ownKnob prog.godebug=none:=by kernel_rfl
theorem laidOut:laidOutB prog=bw:=by kernel_rfl
theorem lifted(os:Os)(started:os.Started)(H:Type)(enc:TypeId×Value->H):
  ReturnsInHanded {} Tryz.checked os 3 .any (λw args=>(Rows.topLimitsSpec.pre enc prog Tryz.f3 Rows.topLimitsRow.domain bA w args/\laidMetH prog Rows.topLimitsRow.laid w)/\sizedMet enc prog Tryz.f3 (OpenSpec.ofChange Rows.topLimitsSpec) bA w args)
   (Rows.topLimitsSpec.post enc prog Tryz.f3 bA bw bA bA):=by
 refine returnsInHanded_of_change_and (C:=Tryz.checked) (X:=λw _=>laidMetH prog Rows.topLimitsRow.laid w) (λ_ _ _ hh h=>h.of_heap hh) own started bC Tryz.func3
  (ChangeSpec.witness_shaped (enc:=enc) (C:=Tryz.checked) (os:=os) (X:=λw _=>laidMetH prog Rows.topLimitsRow.laid w) bA (World.laidAll prog os Rows.topLimitsRow.laid) #[aj bu 0 0] 8 (World.laidAll_os _ _ _)
   (World.shaped_of_ZipB bC bC) bC bC bC
   (by rw[MakeChecks.laidMetH_plain _ _ _ bC];exact laidMet_laidAll _ bC bC)) ?_
 intro W Wt args ds gs before hval0 hW hc _ hL _;have hval:∀(j:Nat) t v,Tryz.f3.params[j]? =bj t->args[j]? =bj v->Value.okWide prog W .any Wt t v:=hval0;have hW':=hW;obtain⟨p,q,hA0,hV,rfl,hfz,hnd⟩:=hW;have hA:DataW.TrodAll enc prog W 0 (λ_=>bw) bw Tryz.f3.params.toList args.toList ds p:=hA0;rw[Tryz.params3]at hA hval;obtain⟨v0,vs0,d0,ds0,p0,q0,hargs,rfl,rfl,h0,r0⟩:=trodAll_cons hA;obtain⟨rfl,rfl,rfl⟩:=trodAll_nil r0;obtain rfl:args=#[v0]:=by cases args;simp_all
 obtain⟨rfl,rfl⟩:=trodVars_none hV;obtain⟨a0,len0,cap0,rfl⟩:=okWide_slice Tryz.underlying22 (hval 0 22 v0 rfl rfl);have k0:=h0;have lt0:∀x∈p0,x.block<W.heap.size:=by obtain⟨m,hm⟩:=k0;exact DataW.trod_lt m _ _ _ hm
 have w0:vN W a0 len0:=by
  obtain⟨fuel,hf⟩:=h0;exact QG (by simpa[Value.cells]using hf)
 clear hA0 hval0;refine(Su a0 len0 cap0 W w0).mono λe W' ⟨he,cU⟩=>?_;subst he;exact⟨_,rfl,_,_,_,[],_,[],hW',trodAll_mk1 (shut_bool Tryz.underlying4 _),(trodAll_cons_mk (Below.trod laidOut bC (of_decide_eq_true bC) k0 cU lt0) trodAll_mk0),rfl,cU.frame _,λh=>by cases h⟩
end Go.Proofs.YtpmmdkcfenjiaaaGreatDoor.LiP

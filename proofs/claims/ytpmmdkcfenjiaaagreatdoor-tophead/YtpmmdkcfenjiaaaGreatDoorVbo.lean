import Derived.Test.YtpmmdkcfenjiaaaGreatDoorVbh
set_option linter.unusedVariables false
set_option linter.unusedSimpArgs false
set_option maxRecDepth 100000
set_option maxHeartbeats 1000000
namespace Go.Proofs.YtpmmdkcfenjiaaaGreatDoor
open Go.RowKit
open Fx (Fi)
open Tr (Fo Nd)
open Pp (Pi)
open Mo (Wh Mt)
open Mv (Me Bk)
open Kn (Pr Kp St us KB KJ VI EI KH)
theorem Tr.Qz {F:Fo}(h:Tr.Ok F)(z:Int)(i:Nat):((Tr.pV F z).getD i ⟨#[]⟩).size<=8:=by
 rw[aF];cases e:(Tr.pV F z)[i]? with
 |none=>exact aC _
 |some s=>
  have m:=bK e;unfold Tr.pV at m;by_cases c:Tr.bj F z 2=0
  ·rw[aJ c]at m;obtain⟨n,rfl,n40,_,k2⟩:=Tr.dY c;simp only[pO,Tr.rF,List.mem_map,List.mem_mergeSort,List.mem_range,hU]at m;obtain⟨_,⟨_,⟨j,hj,rfl⟩,rfl⟩,rfl⟩:=m;have:=h.nb n j n40 k2 hj;unfold Tr.eX at this;simp only[Bool.and_eq_true,decide_eq_true_eq]at this;exact this.1.1.1.2
  ·rw[aI c]at m;cases m
section
variable (base N : Nat) (d : Nat -> Nat) (s : St) (w : bD)
theorem Ez (z:Int)(p:bU)(h:ak w base s)(hj:KJ (fun _=>False) N s.k):
  Calls Tryz.prog 133 #[.pointer (some ⟨s.A 0,0,none⟩), .int .i64 z, .string p] w fun e w'=> ∃u E L,e= .returned (.tuple #[u,aq E])/\(L.length<=8/\ ∀i,(L.getD i ⟨#[]⟩).size<=8)/\(∀c,c<w.heap.size->TL c L u w')/\Below w.heap.size w w':=by
 have WK:=hZ (sE base N s w z p h hj);have LI:Hid (∀V (x:Int),Below w.heap.size w V->Calls Tryz.prog 213 #[.pointer (some ⟨s.A 6,0,none⟩), .int .i64 x] V fun e w'=> ∃u E L,e= .returned (.tuple #[u,aq E])/\(L.length<=8/\ ∀i,(L.getD i ⟨#[]⟩).size<=8)/\(∀c,c<w.heap.size->TL c L u w')/\Below w.heap.size w w'):=hZ (fun V x b=>(Iw (s.A 6) x s.k.fo V (h.below b).fo hj.ok.sz).mono (by rintro _ w' ⟨u,rfl,o⟩;exact⟨u,_,_,rfl,⟨Tr.JG hj.ok.sz x,Tr.Qz hj.ok x⟩,fun c hc=>o.tl (aD hc b.size),b.trans (o.bF.mono b.size)⟩));have C6:Hid (∀V,Below w.heap.size w V->V.cell? ⟨s.A 0,250,none⟩=some (.pointer (some ⟨s.A 6,0,none⟩))):=hZ (fun V b=>(h.below b).vF);clear h hj;generalize s.A 0=kb at*;generalize s.A 6=a6 at*;go_in
 go_wp2_with fail
 refine WK.out.mono ?_;rintro e w1 ⟨x,E,rfl,b1⟩;by_cases E0:E=0
 ·subst E0;rw[aa];have c6:=C6.out _ b1;go_wp2_with fail
  refine(LI.out _ _ b1).mono ?_;rintro e w2 ⟨u,E,L,rfl,S2⟩;have S2:=hZ S2;go_wp2
  go_ret2
  exact⟨u,E,L,rfl,S2.out⟩
 ·have E1:=hZ (aj E0);rw[aj E0];clear E0;go_wp2
  go_ret2
  exact⟨_,E,[],KX E1.out,⟨by simp,fun _=>aC _⟩,fun _ _=>⟨none,0,rfl,fun c=>by cases c⟩,b1⟩
theorem Gl (z:Int)(p:bU)(h:ak w base s)(hj:KJ (fun _=>False) N s.k):
  Calls Tryz.prog 134 #[.pointer (some ⟨s.A 0,0,none⟩), .int .i64 z, .string p] w fun e w'=> ∃(o1 o2 o3 o4 E:Int),e= .returned (.tuple #[.agg #[.int .i64 o1, .int .i64 o2, .int .i64 o3, .int .i64 o4],aq E])/\Below w.heap.size w w':=by
 have B0:=hZ ((aQ w.heap.size w).alloc (aL _) (.cells #[.int .i64 0, .int .i64 0, .int .i64 0, .int .i64 0] 156));have WK:=hZ (sE base N s _ z p (h.below B0.out) hj);have OF:Hid (∀V (x:Int),Below w.heap.size w V->Calls Tryz.prog 214 #[.pointer (some ⟨s.A 6,0,none⟩), .int .i64 x] V fun e w'=> ∃(o1 o2 o3 o4 E:Int),e= .returned (.tuple #[.agg #[.int .i64 o1, .int .i64 o2, .int .i64 o3, .int .i64 o4],aq E])/\Below V.heap.size V w'):=hZ (fun V x b=>(ow (s.A 6) x s.k.fo V (h.below b).fo).mono (by
  rintro _ w' ⟨rfl,o⟩;obtain⟨o1,o2,o3,o4,e,_⟩:=Mo.GX s.k.fo x;exact⟨o1,o2,o3,o4,_,by rw[e],o⟩))
 have C6:Hid (∀V,Below w.heap.size w V->V.cell? ⟨s.A 0,250,none⟩=some (.pointer (some ⟨s.A 6,0,none⟩))):=hZ (fun V b=>(h.below b).vF);clear h hj;generalize s.A 0=kb at*;generalize s.A 6=a6 at*;go_in
 go_wp2_with fail
 refine WK.out.mono ?_;rintro e w1 ⟨x,E,rfl,b1⟩;obtain⟨hc,hf⟩:=wH b1;have hz:w.heap.size<w1.heap.size:=by have:=b1.size;simp at this;omega
 have b1:=B0.out.trans (b1.mono B0.out.size);by_cases E0:E=0
 ·subst E0;rw[aa];have c6:=C6.out _ b1;go_wp2_with fail
  refine(OF.out _ _ b1).mono ?_;rintro e w2 ⟨o1,o2,o3,o4,E,rfl,b2⟩;obtain⟨hc2,hf2⟩:=wH b2;have b2:=b1.trans (b2.mono b1.size);go_wp2_with fail
  exact bodyPost_ret (v:= .tuple #[.agg #[.int .i64 o1, .int .i64 o2, .int .i64 o3, .int .i64 o4],aq E]) (by simp[results,Tryz.results134,go_sem,hc2,hc,hz]) rfl ⟨o1,o2,o3,o4,E,rfl,((((b2.setCell (aL _) _).setCell (aL _) _).setCell (aL _) _).setCell (aL _) _)⟩
 ·have E1:=hZ (aj E0);rw[aj E0];clear E0;go_wp2_with fail
  exact bodyPost_ret (v:= .tuple #[.agg #[.int .i64 0, .int .i64 0, .int .i64 0, .int .i64 0],aq E]) (by simp[results,Tryz.results134,go_sem,hc,E1.out]) rfl ⟨0,0,0,0,E,rfl,((((b1.setCell (aL _) _).setCell (aL _) _).setCell (aL _) _).setCell (aL _) _)⟩

/- The law TreeSays: has a forest what its model has? -/
import Derived.Test.YthdadmbpnoofoaaGreatDoorZf
namespace Go.Proofs.YthdadmbpnoofoaaGreatDoor
open Go.RowKit
open Tr (Fo Nd RN)

theorem LV.tl {B : Bs} {c : Nat} {rv : Value} {L : List ByteArray} {v : Value} {W : World} (h : LV (Oth B c rv) (L.map Value.string) v W) : TL c L v W := by
  obtain ⟨a, cp, e, k⟩ := h.texts
  refine ⟨a, cp, e, fun hl => ?_⟩
  obtain ⟨g, e1, e2, e3, e4⟩ := k hl
  exact ⟨g, e1, e2.2.1, e3, e4⟩
/-- Both forests, from whatever world on. -/
def GR (w W : World) (b c : Nat) (B : Bs) (F G : Fo) : Prop := Below w.heap.size w W ∧ FAt W b F ∧ (∃ R rv, FR B W c G R rv) ∧ True
theorem GR.below {w W W' : World} {b c : Nat} {B : Bs} {F G : Fo} (h : GR w W b c B F G) (k : Below W.heap.size W W') : GR w W' b c B F G := ⟨h.1.trans (k.mono h.1.size), h.2.1.below k, (by obtain ⟨R, rv, hr⟩ := h.2.2.1; exact ⟨R, rv, hr.below k⟩), trivial⟩
/-- Both, and what was read of them. -/
def AS (w W : World) (b c : Nat) (B : Bs) (F : Fo) (L : List ByteArray) (v1 v2 : Value) : Prop := GR w W b c B F F ∧ TL b L v1 W ∧ TL c L v2 W
theorem AS.below {w W W' : World} {b c : Nat} {B : Bs} {F : Fo} {L : List ByteArray} {v1 v2 : Value} (h : AS w W b c B F L v1 v2) (k : Below W.heap.size W W') : AS w W' b c B F L v1 v2 := ⟨h.1.below k, h.2.1.below k, h.2.2.below k⟩
section
variable (w W : World) (b c : Nat) (B : Bs) (k : Nat) (F : Fo)
set_option maxRecDepth 100000 in
set_option maxHeartbeats 8000000 in
theorem asForestR_any (h : GR w W b c B F F) (hp : PF k F) :
    Calls Tryz.prog 21 #[.pointer (some ⟨b, 0, none⟩), .pointer (some ⟨c, 0, none⟩)] W fun e w' => e = .returned (.bool true) ∧ GR w w' b c B F F := by
  have S0 := Hid.intro h
  have HP := Hid.intro hp
  clear h hp
  go_enter Tryz.func21, Tryz.ntmps21
  go_wp2_with fail
  go_loopw [5, 6, 7, 8, 9, 10, 11, 12, 13, 14, 15, 16, 17, 18, 19, 20, 21, 22, 23, 24, 25, 26] (fun n _ _ _ _ _ _ _ _ _ _ _ _ _ _ _ _ _ _ _ _ _ wr => ∃ z : Int, n = .int .i64 z ∧ -1 ≤ z ∧ z ≤ 41 ∧ Hid (GR w wr b c B F F)) (fun n _ _ _ _ _ _ _ _ _ _ _ _ _ _ _ _ _ _ _ _ _ _ => (41 - intOf n).toNat)
  case atStart => exact ⟨-1, rfl, by omega, by omega, S0⟩
  case round =>
    clear S0
    obtain ⟨z, rfl, hz1, hz2, S⟩ := hrel
    by_cases hlt : z < 41
    · go_wp2_with fail
      refine (tof_any b z F _ S.out.2.1).mono ?_
      rintro e W1 ⟨rfl, b1⟩
      have S1 := Hid.intro (S.out.below b1)
      clear b1 S
      obtain ⟨p1, p2, p3, p4, hof⟩ := ofA_four F z
      have OF := Hid.intro hof
      rw [hof]
      clear hof
      go_upto_region 5 with fail
      refine wp_gen (fun W' => GR w W' b c B F F ∧ W'.heap[W1.heap.size]? = some (.cells #[.int .i64 p1, .int .i64 p2, .int .i64 p3, .int .i64 p4] 69 (0, 0))) ⟨S1.out.below ((Below.refl _ _).alloc (Nat.le_refl _) _), heap_alloc_new W1 _⟩ ?_
      rintro W2 ⟨h2, x2⟩
      have S2 := Hid.intro (And.intro h2 x2)
      clear h2 x2 S1
      generalize W1.heap.size = c1 at *
      obtain ⟨R2, rv2, hr2⟩ := S2.out.1.2.2.1
      go_wp2_with fail
      refine (rof_any B c F R2 rv2 _ z hr2 HP.out.1.kd).mono ?_
      rintro e W3 ⟨rfl, b3⟩
      have S3 : Hid (GR w W3 b c B F F ∧ W3.heap[c1]? = some (.cells #[.int .i64 p1, .int .i64 p2, .int .i64 p3, .int .i64 p4] 69 (0, 0))) := Hid.intro ⟨S2.out.1.below b3, (b3.block c1 (Array.getElem?_eq_some_iff.1 S2.out.2).1).trans S2.out.2⟩
      clear b3 S2 hr2
      rw [OF.out]
      go_upto_region 6 with fail
      refine wp_gen (fun W' => GR w W' b c B F F ∧ W'.heap[c1]? = some (.cells #[.int .i64 p1, .int .i64 p2, .int .i64 p3, .int .i64 p4] 69 (0, 0)) ∧ W'.heap[W3.heap.size]? = some (.cells #[.int .i64 p1, .int .i64 p2, .int .i64 p3, .int .i64 p4] 69 (0, 0))) (by
        have bb : Below W3.heap.size W3 (W3.alloc (.cells #[.int .i64 p1, .int .i64 p2, .int .i64 p3, .int .i64 p4] 69)) := (Below.refl _ _).alloc (Nat.le_refl _) _
        exact ⟨S3.out.1.below bb, (bb.block c1 (Array.getElem?_eq_some_iff.1 S3.out.2).1).trans S3.out.2, heap_alloc_new W3 _⟩) ?_
      rintro W4 ⟨h4, x4, y4⟩
      have S4 := Hid.intro (And.intro h4 (And.intro x4 y4))
      clear h4 x4 y4 S3
      generalize W3.heap.size = c2 at *
      go_wp2_with fail
      refine (tlist_any b z F _ S4.out.1.2.1 HP.out.1.sz).mono ?_
      rintro e W5 ⟨v1, rfl, so⟩
      have S5 : Hid (GR w W5 b c B F F ∧ TL b (Tr.lisL F z) v1 W5 ∧ W5.heap[c1]? = some (.cells #[.int .i64 p1, .int .i64 p2, .int .i64 p3, .int .i64 p4] 69 (0, 0)) ∧ W5.heap[c2]? = some (.cells #[.int .i64 p1, .int .i64 p2, .int .i64 p3, .int .i64 p4] 69 (0, 0))) := Hid.intro ⟨S4.out.1.below so.bel, so.tl S4.out.1.2.1.lt, (so.bel.block c1 (Array.getElem?_eq_some_iff.1 S4.out.2.1).1).trans S4.out.2.1, (so.bel.block c2 (Array.getElem?_eq_some_iff.1 S4.out.2.2).1).trans S4.out.2.2⟩
      clear so S4
      obtain ⟨R5, rv5, hr5⟩ := S5.out.1.2.2.1
      go_wp2_with fail
      refine (rlist_any B c F R5 rv5 _ z hr5).mono ?_
      rintro e W6 ⟨v2, rfl, lv, hW6⟩
      subst W6
      have S6 : Hid (AS w W5 b c B F (Tr.lisL F z) v1 v2) := Hid.intro ⟨S5.out.1, S5.out.2.1, lv.tl⟩
      have q0 : W5.cell? ⟨c1, 0, none⟩ = some (.int .i64 p1) := by rw [cell_blk S5.out.2.2.1]; rfl
      have q1 : W5.cell? ⟨c1, 1, none⟩ = some (.int .i64 p2) := by rw [cell_blk S5.out.2.2.1]; rfl
      have q2 : W5.cell? ⟨c1, 2, none⟩ = some (.int .i64 p3) := by rw [cell_blk S5.out.2.2.1]; rfl
      have q3 : W5.cell? ⟨c1, 3, none⟩ = some (.int .i64 p4) := by rw [cell_blk S5.out.2.2.1]; rfl
      have r0 : W5.cell? ⟨c2, 0, none⟩ = some (.int .i64 p1) := by rw [cell_blk S5.out.2.2.2]; rfl
      have r1 : W5.cell? ⟨c2, 1, none⟩ = some (.int .i64 p2) := by rw [cell_blk S5.out.2.2.2]; rfl
      have r2 : W5.cell? ⟨c2, 2, none⟩ = some (.int .i64 p3) := by rw [cell_blk S5.out.2.2.2]; rfl
      have r3 : W5.cell? ⟨c2, 3, none⟩ = some (.int .i64 p4) := by rw [cell_blk S5.out.2.2.2]; rfl
      clear lv hr5 S5
      go_wp2_with (go_at_call 9; refine (same_any _ (by first | exact Tr.nodeE_nn F z | exact Tr.isE_nn F z 2) _).mono ?_; rintro e w7 ⟨rfl, hw7⟩; subst w7)
      refine (sameT_tl S6.out.2.1 S6.out.2.2 (by have := Tr.lisL_len HP.out.1.sz z; omega)).mono ?_
      rintro e W7 ⟨rfl, kq, hW7⟩
      have S7 : Hid (AS w W7 b c B F (Tr.lisL F z) v1 v2) := Hid.intro (by rw [hW7]; exact S6.out.below ⟨rfl, rfl, rfl, Nat.le_refl _, fun _ _ => rfl⟩)
      clear S6 hW7 q0 q1 q2 q3 r0 r1 r2 r3
      go_wp2_with fail
      refine (tread_any b z 0 99 F _ S7.out.1.2.1 HP.out.1.fz).mono ?_
      rintro e W8 ⟨rfl, _, b8⟩
      have S8 := Hid.intro (S7.out.below b8)
      clear b8 S7
      obtain ⟨d8, hd8⟩ : ∃ d, Tr.reaS F z 0 99 = d := ⟨_, rfl⟩
      rw [hd8]
      have DD := Hid.intro hd8
      clear hd8
      obtain ⟨R8, rv8, hr8⟩ := S8.out.1.2.2.1
      have RR := Hid.intro hr8
      go_wp2_with fail
      refine (rread_any B c F R8 rv8 _ z 0 99 RR.out HP.out.1.fz).mono ?_
      rintro e W9 ⟨rfl, hW9⟩
      subst W9
      rw [DD.out]
      go_wp2_with fail
      refine (tup_any b z F _ S8.out.1.2.1).mono ?_
      rintro e W9 ⟨rfl, hW9⟩
      subst W9
      go_wp2_with fail
      refine (ttree_any b z F _ S8.out.1.2.1).mono ?_
      rintro e W9 ⟨rfl, hW9⟩
      subst W9
      clear hr8
      have EK2 : Hid (Tr.isK F z 2 = Tr.isE F z 2) := Hid.intro rfl
      have EK0 : Hid (Tr.isK F z 0 = Tr.nodeE F z) := Hid.intro rfl
      have N99 := Hid.intro (Tr.reaE_nn F z 0 99)
      generalize Tr.reaE F z 0 99 = e99 at N99 ⊢
      go_upto_region 14 with fail
      go_wp2_with fail
      refine (same_any _ (N99.out) _).mono ?_
      rintro e w7 ⟨rfl, hw7⟩
      subst w7
      go_wp2_with fail
      refine (ris_any B c 2 z F R8 rv8 _ RR.out).mono ?_
      rintro e w7 ⟨rfl, hw7⟩
      subst w7
      rw [EK2.out]
      go_wp2_with fail
      refine (same_any _ (Tr.isE_nn F z 2) _).mono ?_
      rintro e w7 ⟨rfl, hw7⟩
      subst w7
      go_wp2_with fail
      refine (ris_any B c 0 z F R8 rv8 _ RR.out).mono ?_
      rintro e w7 ⟨rfl, hw7⟩
      subst w7
      rw [EK0.out]
      go_wp2_with fail
      refine (same_any _ (Tr.nodeE_nn F z) _).mono ?_
      rintro e w7 ⟨rfl, hw7⟩
      subst w7
      go_upto_region 16 with fail
      obtain ⟨a2, p2', hv2, _⟩ := S8.out.2.2
      obtain ⟨m2, hm2⟩ : ∃ m, (Tr.lisL F z).length = m := ⟨_, rfl⟩
      rw [hm2] at hv2
      have m8 : m2 ≤ 8 := by have := Tr.lisL_len HP.out.1.sz z; omega
      have HM := Hid.intro hm2
      clear hm2
      subst hv2
      have SA := S8
      by_cases c2 : Tr.isE F z 2 = 0
      · obtain ⟨n, rfl, n40, k0, k2⟩ := Tr.isE_ok c2
        have c0 : Tr.nodeE F (n : Int) = 0 := by rw [Tr.nodeE_some n40, if_neg k0]
        have nI : (n : Int) < 40 := by omega
        have u1 : Tr.upN F (n : Int) = (F.nd n).up := by unfold Tr.upN; rw [if_pos c2, Int.toNat_natCast]
        have u2 : Tr.treeN F (n : Int) = (F.nd n).tree := by unfold Tr.treeN; rw [if_pos c0, Int.toNat_natCast]
        have cu := RR.out.rb.cUp n n40
        rw [(RR.out.nd n n40).up k2] at cu
        have ct := RR.out.rb.cTree n n40
        rw [((RR.out.nd n n40).nm k0).1] at ct
        rw [c2, c0, errV_zero, u1, u2]
        generalize (F.nd n).up = uu at cu ⊢
        generalize (F.nd n).tree = tt at ct ⊢
        clear k0 k2 c2 c0 u1 u2
        go_upto_region 18 with fail
        clear cu ct
        clear S8 RR
        go_wp2_with fail
        go_loopw [22, 23, 24, 25, 26] (fun i _ _ _ _ wr => ∃ j : Nat, i = .int .i64 j ∧ j ≤ m2 ∧ Hid (AS w wr b c B F (Tr.lisL F (n : Int)) v1 (.slice a2 m2 p2'))) (fun i _ _ _ _ _ => m2 - (intOf i).toNat)
        case atStart => exact ⟨0, rfl, by omega, SA⟩
        case round =>
          clear SA
          obtain ⟨j, rfl, hj, T⟩ := hrel
          by_cases hjm : j < m2
          · have hjmI : (j : Int) < (m2 : Int) := by omega
            obtain ⟨a', c', e', kk⟩ := T.out.2.2
            obtain ⟨gl, ha, _, glt, cls⟩ := kk (by rw [HM.out]; omega)
            injection e' with e1 e2 e3
            clear e2
            subst a'
            subst e1
            subst e3
            have cj := cls j (by rw [HM.out]; exact hjm)
            have CL : Hid (∀ W, Below wr.heap.size wr W → W.cell? ⟨gl, j, none⟩ = some (.string ((Tr.lisL F (n : Int)).getD j ⟨#[]⟩))) := Hid.intro (fun W hW => (hW.cell (p := ⟨gl, j, none⟩) glt).trans cj)
            generalize (Tr.lisL F (n : Int)).getD j ⟨#[]⟩ = sj at cj CL
            clear kk cls glt
            go_wp2_with fail
            refine (tfind_any b (n : Int) sj F _ T.out.1.2.1 HP.out.1.sz).mono ?_
            rintro e V1 ⟨K1, E1, rfl, f1, bV⟩
            have T1 := Hid.intro (T.out.below bV)
            have cj1 := CL.out V1 bV
            have FN := Hid.intro f1
            clear f1 bV T cj CL
            obtain ⟨R9, rv9, hr9⟩ := T1.out.1.2.2.1
            go_wp2_with fail
            refine (rfind_any B c F R9 rv9 _ (n : Int) sj hr9 HP.out.1).mono ?_
            rintro e V2 ⟨K2, E2, rfl, f2, hV2⟩
            subst V2
            obtain ⟨rfl, rfl⟩ := FN.out.unique f2
            clear f2 hr9 cj1
            go_wp2_with fail
            refine (same_any _ FN.out.nn _).mono ?_
            rintro e w7 ⟨rfl, hw7⟩
            subst w7
            go_wp2_with fail
            go_roundw
            case rel => exact ⟨j + 1, by go_num, by omega, T1⟩
            case measure => simp [intOf]; omega
          · have hjmI : ¬ (j : Int) < (m2 : Int) := by omega
            have T1 := Hid.intro T.out.1
            clear T
            go_wp2_with fail
            go_roundw
            case rel => exact ⟨(n : Int) + 1, by go_num, by omega, by omega, T1⟩
            case measure => simp [intOf]; omega
      · by_cases c0 : Tr.nodeE F z = 0
        · obtain ⟨n, rfl, n40, k0⟩ := Tr.nodeE_ok c0
          have nI : (n : Int) < 40 := by omega
          have u1 : Tr.upN F (n : Int) = 0 := by unfold Tr.upN; rw [if_neg c2]
          have u2 : Tr.treeN F (n : Int) = (F.nd n).tree := by unfold Tr.treeN; rw [if_pos c0, Int.toNat_natCast]
          have ct := RR.out.rb.cTree n n40
          rw [((RR.out.nd n n40).nm k0).1] at ct
          obtain ⟨xu, hxu⟩ : ∃ x : Int, ((Tr.upN F (n : Int) : Nat) : Int) = x := ⟨_, rfl⟩
          rw [errV_ne c2, c0, errV_zero, hxu, u2]
          obtain rfl : xu = 0 := by rw [← hxu, u1]; rfl
          clear hxu
          generalize Tr.isE F (n : Int) 2 = ee at c2 ⊢
          generalize (F.nd n).tree = tt at ct ⊢
          clear k0 c0 u1 u2 c2
          go_upto_region 18 with fail
          clear ct
          clear S8 RR
          go_wp2_with fail
          go_loopw [22, 23, 24, 25, 26] (fun i _ _ _ _ wr => ∃ j : Nat, i = .int .i64 j ∧ j ≤ m2 ∧ Hid (AS w wr b c B F (Tr.lisL F (n : Int)) v1 (.slice a2 m2 p2'))) (fun i _ _ _ _ _ => m2 - (intOf i).toNat)
          case atStart => exact ⟨0, rfl, by omega, SA⟩
          case round =>
            clear SA
            obtain ⟨j, rfl, hj, T⟩ := hrel
            by_cases hjm : j < m2
            · have hjmI : (j : Int) < (m2 : Int) := by omega
              obtain ⟨a', c', e', kk⟩ := T.out.2.2
              obtain ⟨gl, ha, _, glt, cls⟩ := kk (by rw [HM.out]; omega)
              injection e' with e1 e2 e3
              clear e2
              subst a'
              subst e1
              subst e3
              have cj := cls j (by rw [HM.out]; exact hjm)
              have CL : Hid (∀ W, Below wr.heap.size wr W → W.cell? ⟨gl, j, none⟩ = some (.string ((Tr.lisL F (n : Int)).getD j ⟨#[]⟩))) := Hid.intro (fun W hW => (hW.cell (p := ⟨gl, j, none⟩) glt).trans cj)
              generalize (Tr.lisL F (n : Int)).getD j ⟨#[]⟩ = sj at cj CL
              clear kk cls glt
              go_wp2_with fail
              refine (tfind_any b (n : Int) sj F _ T.out.1.2.1 HP.out.1.sz).mono ?_
              rintro e V1 ⟨K1, E1, rfl, f1, bV⟩
              have T1 := Hid.intro (T.out.below bV)
              have cj1 := CL.out V1 bV
              have FN := Hid.intro f1
              clear f1 bV T cj CL
              obtain ⟨R9, rv9, hr9⟩ := T1.out.1.2.2.1
              go_wp2_with fail
              refine (rfind_any B c F R9 rv9 _ (n : Int) sj hr9 HP.out.1).mono ?_
              rintro e V2 ⟨K2, E2, rfl, f2, hV2⟩
              subst V2
              obtain ⟨rfl, rfl⟩ := FN.out.unique f2
              clear f2 hr9 cj1
              go_wp2_with fail
              refine (same_any _ FN.out.nn _).mono ?_
              rintro e w7 ⟨rfl, hw7⟩
              subst w7
              go_wp2_with fail
              go_roundw
              case rel => exact ⟨j + 1, by go_num, by omega, T1⟩
              case measure => simp [intOf]; omega
            · have hjmI : ¬ (j : Int) < (m2 : Int) := by omega
              have T1 := Hid.intro T.out.1
              clear T
              go_wp2_with fail
              go_roundw
              case rel => exact ⟨(n : Int) + 1, by go_num, by omega, by omega, T1⟩
              case measure => simp [intOf]; omega
        · have u1 : Tr.upN F z = 0 := by unfold Tr.upN; rw [if_neg c2]
          have u2 : Tr.treeN F z = 0 := by unfold Tr.treeN; rw [if_neg c0]
          obtain ⟨xu, hxu⟩ : ∃ x : Int, ((Tr.upN F z : Nat) : Int) = x := ⟨_, rfl⟩
          obtain ⟨xt, hxt⟩ : ∃ x : Int, ((Tr.treeN F z : Nat) : Int) = x := ⟨_, rfl⟩
          rw [errV_ne c2, errV_ne c0, hxu, hxt]
          obtain rfl : xu = 0 := by rw [← hxu, u1]; rfl
          obtain rfl : xt = 0 := by rw [← hxt, u2]; rfl
          clear hxu hxt
          generalize Tr.isE F z 2 = ee at c2 ⊢
          generalize Tr.nodeE F z = ef at c0 ⊢
          clear c0 u1 u2 c2
          go_upto_region 18 with fail
          clear S8 RR
          go_wp2_with fail
          go_loopw [22, 23, 24, 25, 26] (fun i _ _ _ _ wr => ∃ j : Nat, i = .int .i64 j ∧ j ≤ m2 ∧ Hid (AS w wr b c B F (Tr.lisL F z) v1 (.slice a2 m2 p2'))) (fun i _ _ _ _ _ => m2 - (intOf i).toNat)
          case atStart => exact ⟨0, rfl, by omega, SA⟩
          case round =>
            clear SA
            obtain ⟨j, rfl, hj, T⟩ := hrel
            by_cases hjm : j < m2
            · have hjmI : (j : Int) < (m2 : Int) := by omega
              obtain ⟨a', c', e', kk⟩ := T.out.2.2
              obtain ⟨gl, ha, _, glt, cls⟩ := kk (by rw [HM.out]; omega)
              injection e' with e1 e2 e3
              clear e2
              subst a'
              subst e1
              subst e3
              have cj := cls j (by rw [HM.out]; exact hjm)
              have CL : Hid (∀ W, Below wr.heap.size wr W → W.cell? ⟨gl, j, none⟩ = some (.string ((Tr.lisL F z).getD j ⟨#[]⟩))) := Hid.intro (fun W hW => (hW.cell (p := ⟨gl, j, none⟩) glt).trans cj)
              generalize (Tr.lisL F z).getD j ⟨#[]⟩ = sj at cj CL
              clear kk cls glt
              go_wp2_with fail
              refine (tfind_any b z sj F _ T.out.1.2.1 HP.out.1.sz).mono ?_
              rintro e V1 ⟨K1, E1, rfl, f1, bV⟩
              have T1 := Hid.intro (T.out.below bV)
              have cj1 := CL.out V1 bV
              have FN := Hid.intro f1
              clear f1 bV T cj CL
              obtain ⟨R9, rv9, hr9⟩ := T1.out.1.2.2.1
              go_wp2_with fail
              refine (rfind_any B c F R9 rv9 _ z sj hr9 HP.out.1).mono ?_
              rintro e V2 ⟨K2, E2, rfl, f2, hV2⟩
              subst V2
              obtain ⟨rfl, rfl⟩ := FN.out.unique f2
              clear f2 hr9 cj1
              go_wp2_with fail
              refine (same_any _ FN.out.nn _).mono ?_
              rintro e w7 ⟨rfl, hw7⟩
              subst w7
              go_wp2_with fail
              go_roundw
              case rel => exact ⟨j + 1, by go_num, by omega, T1⟩
              case measure => simp [intOf]; omega
            · have hjmI : ¬ (j : Int) < (m2 : Int) := by omega
              have T1 := Hid.intro T.out.1
              clear T
              go_wp2_with fail
              go_roundw
              case rel => exact ⟨z + 1, by go_num, by omega, by omega, T1⟩
              case measure => simp [intOf]; omega
    · have hltI : ¬ z < 41 := hlt
      go_wp2_with fail
      go_loopw [27, 28, 29, 30, 31] (fun t _ _ _ _ wr => ∃ y : Int, t = .int .i64 y ∧ -1 ≤ y ∧ y ≤ 5 ∧ Hid (GR w wr b c B F F)) (fun t _ _ _ _ _ => (5 - intOf t).toNat)
      case atStart => exact ⟨-1, rfl, by omega, by omega, S⟩
      case round =>
        clear S
        obtain ⟨y, rfl, hy1, hy2, S⟩ := hrel
        obtain ⟨R9, rv9, hr9⟩ := S.out.2.2.1
        have RR := Hid.intro hr9
        clear hr9
        by_cases hyt : y < 5
        · have NN : Hid (0 ≤ Tr.rootE F y) := Hid.intro (by unfold Tr.rootE; split <;> (try split) <;> omega)
          go_wp2_with fail
          refine (troot_any b y F _ S.out.2.1).mono ?_
          rintro e V1 ⟨rfl, hV1⟩
          subst V1
          go_wp2_with fail
          refine (rroot_any B c F R9 rv9 _ y RR.out).mono ?_
          rintro e V1 ⟨rfl, hV1⟩
          subst V1
          generalize Tr.rootN F y = rn
          generalize Tr.rootE F y = re at NN ⊢
          go_wp2_with fail
          refine (same_any _ NN.out _).mono ?_
          rintro e w7 ⟨rfl, hw7⟩
          subst w7
          go_wp2_with fail
          go_roundw
          case rel => exact ⟨y + 1, by go_num, by omega, by omega, S⟩
          case measure => simp [intOf]; omega
        · go_wp2_with fail
          refine (tnodes_any b F _ S.out.2.1).mono ?_
          rintro e V1 ⟨rfl, hV1⟩
          subst V1
          go_wp2_with fail
          refine (rnodes_any B c F R9 rv9 _ RR.out).mono ?_
          rintro e V1 ⟨rfl, hV1⟩
          subst V1
          generalize Tr.cntN F 40 = cn
          go_wp2_with fail
          go_ret
          exact ⟨rfl, S.out⟩
theorem asForest_any (h : GS w W b c B F F) (hp : PF k F) :
    Calls Tryz.prog 21 #[.pointer (some ⟨b, 0, none⟩), .pointer (some ⟨c, 0, none⟩)] W fun e w' => e = .returned (.bool true) ∧ GS w w' b c B F F :=
  (asForestR_any w W b c B k F ⟨h.1, h.2.1, h.2.2.1, trivial⟩ hp).mono fun _ _ g => ⟨g.1, g.2.1, g.2.2.1, g.2.2.2.1, h.2.2.2⟩
end
end Go.Proofs.YthdadmbpnoofoaaGreatDoor

/- The law VmSays: two rows of regions; a memory and its model. -/
import Derived.Test.YtnppahmlifnnnabPd
import Derived.Test.YtnppahmlifnnnabPf
namespace Go.Proofs.Ytnppahmlifnnnab
open Go.RowKit
open Bd (P)
open Mv (Me Bk Rg)

theorem sameRg_none (w : World) : Calls Try.prog 71 #[.slice none 0 0, .slice none 0 0] w fun e w' => e = .returned (.bool true) ∧ Below w.heap.size w w' := by
  go_enter Try.func71, Try.ntmps71
  go_wp2
  refine wp_loop_rounds 1 ?_
  rw [rounds_succ]
  go_wp2
  go_ret
  exact ⟨rfl, Below.refl _ _⟩
set_option maxRecDepth 100000 in
set_option maxHeartbeats 1000000 in
theorem sameRg_some (g1 g2 n c1 c2 : Nat) (F : Nat → Rg) (hn : n < 1000) (w : World) (h1 : ∀ i, i < n → w.cell? ⟨g1, i * 3, none⟩ = some (.int .i64 ((F i).1 : Int)) ∧ w.cell? ⟨g1, i * 3 + 1, none⟩ = some (.int .i64 ((F i).2.1 : Int)) ∧ w.cell? ⟨g1, i * 3 + 2, none⟩ = some (.bool (F i).2.2))
    (h2 : ∀ i, i < n → w.cell? ⟨g2, i * 3, none⟩ = some (.int .i64 ((F i).1 : Int)) ∧ w.cell? ⟨g2, i * 3 + 1, none⟩ = some (.int .i64 ((F i).2.1 : Int)) ∧ w.cell? ⟨g2, i * 3 + 2, none⟩ = some (.bool (F i).2.2)) :
    Calls Try.prog 71 #[.slice (some ⟨g1, 0, none⟩) n c1, .slice (some ⟨g2, 0, none⟩) n c2] w fun e w' => e = .returned (.bool true) ∧ Below w.heap.size w w' := by
  have H1 := Hid.intro h1
  have H2 := Hid.intro h2
  clear h1 h2
  go_enter Try.func71, Try.ntmps71
  go_wp2_with fail
  go_loopw [5] (fun i wr => ∃ (k nq : Nat), k ≤ n ∧ i = .int .i64 k ∧ wr = w.drewN nq) (fun i _ => n - (intOf i).toNat)
  case atStart => exact ⟨0, 0, Nat.zero_le _, rfl, rfl⟩
  case round =>
    obtain ⟨k, nq, hk, rfl, rfl⟩ := hrel
    by_cases hlt : k < n
    · have hlt' : (k : Int) < (n : Int) := by omega
      obtain ⟨a0, a1, a2⟩ := H1.out k hlt
      obtain ⟨e0, e1, e2⟩ := H2.out k hlt
      generalize (F k).1 = f0 at *
      generalize (F k).2.1 = f1 at *
      generalize (F k).2.2 = f2 at *
      go_wp2_with fail
      go_quiet (fail)
      go_wp2_with fail
      go_roundw
      case rel => exact ⟨k + 1, _, by omega, by go_num, rfl⟩
      case measure => simp [intOf]; omega
    · have hlt' : ¬ (k : Int) < (n : Int) := by omega
      go_wp2_with fail
      go_ret
      exact ⟨rfl, ⟨rfl, rfl, rfl, Nat.le_refl _, fun _ _ => rfl⟩⟩
theorem sameRg_any {u w1 w2 : World} {L : List Rg} {v1 v2 : Value} (h1 : RO u L v1 w1) (h2 : RO w1 L v2 w2) (hL : L.length < 1000) :
    Calls Try.prog 71 #[v1, v2] w2 fun e w' => e = .returned (.bool true) ∧ Below w2.heap.size w2 w' := by
  by_cases hl : L.length = 0
  · have e0 := List.eq_nil_of_length_eq_zero hl
    rw [h1.nil e0, h2.nil e0]
    exact sameRg_none w2
  · have k1 := (h1.below h2.bel).own
    have k2 := h2.own
    obtain ⟨g1, c1, e1, _, _⟩ := k1.form (by omega)
    obtain ⟨g2, c2, e2, _, _⟩ := k2.form (by omega)
    subst e1
    subst e2
    have at3 : ∀ i, i < L.length → ∀ j, j < 3 → (rcs L)[i * 3 + j]? = (rgC (L.getD i (0, 0, false)))[j]? := fun i hi j hj => rcs_at L i j _ (by rw [List.getD_eq_getElem?_getD, List.getElem?_eq_getElem hi]; rfl) hj
    refine sameRg_some g1 g2 L.length c1 c2 (fun i => L.getD i (0, 0, false)) hL w2 (fun i hi => ?_) (fun i hi => ?_)
    · refine ⟨?_, ?_, ?_⟩
      · rw [k1.cellAt _ (by omega)]; exact at3 i hi 0 (by omega)
      · rw [k1.cellAt _ (by omega)]; exact at3 i hi 1 (by omega)
      · rw [k1.cellAt _ (by omega)]; exact at3 i hi 2 (by omega)
    · refine ⟨?_, ?_, ?_⟩
      · rw [k2.cellAt _ (by omega)]; exact at3 i hi 0 (by omega)
      · rw [k2.cellAt _ (by omega)]; exact at3 i hi 1 (by omega)
      · rw [k2.cellAt _ (by omega)]; exact at3 i hi 2 (by omega)
set_option maxRecDepth 100000 in
set_option maxHeartbeats 2000000 in
theorem asMemory_any (b r c r2 : Nat) (m : Me) (own : Nat → Bool) (w : World) (h1 : UAt w b r m) (h2 : MAt w c r2 m own) (hle : ∀ n, n < 16 → m.fr n ≤ 64) (hm : ∀ i, i < 16 → m.is i ≤ 2) :
    Calls Try.prog 19 #[.pointer (some ⟨b, 0, none⟩), .pointer (some ⟨c, 0, none⟩)] w fun e w' => e = .returned (.bool true) ∧ Below w.heap.size w w' := by
  have S0 : Hid (UAt w b r m ∧ MAt w c r2 m own ∧ Below w.heap.size w w) := Hid.intro ⟨h1, h2, Below.refl _ _⟩
  have HL := Hid.intro hle
  have HM := Hid.intro hm
  clear h1 h2 hle hm
  go_enter Try.func19, Try.ntmps19
  go_wp2_with fail
  go_loopw [5, 6] (fun i x wr => ∃ (z : Int), i = .int .i64 z ∧ -1 ≤ z ∧ z ≤ 17 ∧ Hid (UAt wr b r m ∧ MAt wr c r2 m own ∧ Below w.heap.size w wr)) (fun i _ _ => (17 - intOf i).toNat)
  case atStart => exact ⟨-1, rfl, by omega, by omega, S0⟩
  case round =>
    clear S0
    obtain ⟨z, rfl, hz1, hz2, S⟩ := hrel
    by_cases hz : z < 17
    · by_cases k1 : z = -1
      · subst k1
        have EF : Hid (Mv.frN m (-1) = -1) := Hid.intro (if_pos (by omega))
        as_aux_lemma =>
        go_wp2_with fail
        refine (vframe_any b r (-1) m _ S.out.1).mono ?_
        rintro e w1 ⟨rfl, hw1⟩
        subst w1
        rw [EF.out]
        go_wp2_with fail
        refine (vmay_any b r (-8) false m _ S.out.1).mono ?_
        rintro e w1 ⟨rfl, b1⟩
        have T1 : Hid (UAt w1 b r m ∧ MAt w1 c r2 m own ∧ Below w.heap.size w w1) := Hid.intro ⟨S.out.1.below b1, S.out.2.1.below b1, S.out.2.2.trans (b1.mono S.out.2.2.size)⟩
        clear b1 S
        have M1 := Hid.intro (may_any c r2 (-8) false m own w1 T1.out.2.1)
        generalize Mv.mayB m (-8) false = mb1 at *
        go_wp2_with fail
        refine M1.out.mono ?_
        rintro e w2 ⟨rfl, hw2⟩
        subst w2
        clear M1
        go_wp2_with fail
        refine (vmay_any b r (-8) true m _ T1.out.1).mono ?_
        rintro e w3 ⟨rfl, b3⟩
        have T3 : Hid (UAt w3 b r m ∧ MAt w3 c r2 m own ∧ Below w.heap.size w w3) := Hid.intro ⟨T1.out.1.below b3, T1.out.2.1.below b3, T1.out.2.2.trans (b3.mono T1.out.2.2.size)⟩
        clear b3 T1
        have M3 := Hid.intro (may_any c r2 (-8) true m own w3 T3.out.2.1)
        generalize Mv.mayB m (-8) true = mb2 at *
        go_wp2_with fail
        refine M3.out.mono ?_
        rintro e w4 ⟨rfl, hw4⟩
        subst w4
        clear M3
        go_wp2_with fail
        refine (vwants_any b r (-8) m _ T3.out.1).mono ?_
        rintro e w5 ⟨rfl, b5⟩
        have T5 : Hid (UAt w5 b r m ∧ MAt w5 c r2 m own ∧ Below w.heap.size w w5) := Hid.intro ⟨T3.out.1.below b5, T3.out.2.1.below b5, T3.out.2.2.trans (b5.mono T3.out.2.2.size)⟩
        clear b5 T3
        have M5 := Hid.intro (wants_any c r2 (-8) m own w5 T5.out.2.1)
        generalize Mv.wantsB m (-8) = mb3 at *
        go_wp2_with fail
        refine M5.out.mono ?_
        rintro e w6 ⟨rfl, hw6⟩
        subst w6
        clear M5
        go_wp2_with fail
        go_roundw
        case rel => exact ⟨0, by go_num, by omega, by omega, T5⟩
        case measure => simp [intOf] <;> omega
      · by_cases k2 : z = 16
        · subst k2
          have EF : Hid (Mv.frN m 16 = -1) := Hid.intro (if_pos (by omega))
          as_aux_lemma =>
          go_wp2_with fail
          refine (vframe_any b r (16) m _ S.out.1).mono ?_
          rintro e w1 ⟨rfl, hw1⟩
          subst w1
          rw [EF.out]
          go_wp2_with fail
          refine (vmay_any b r 128 false m _ S.out.1).mono ?_
          rintro e w1 ⟨rfl, b1⟩
          have T1 : Hid (UAt w1 b r m ∧ MAt w1 c r2 m own ∧ Below w.heap.size w w1) := Hid.intro ⟨S.out.1.below b1, S.out.2.1.below b1, S.out.2.2.trans (b1.mono S.out.2.2.size)⟩
          clear b1 S
          have M1 := Hid.intro (may_any c r2 128 false m own w1 T1.out.2.1)
          generalize Mv.mayB m 128 false = mb1 at *
          go_wp2_with fail
          refine M1.out.mono ?_
          rintro e w2 ⟨rfl, hw2⟩
          subst w2
          clear M1
          go_wp2_with fail
          refine (vmay_any b r 128 true m _ T1.out.1).mono ?_
          rintro e w3 ⟨rfl, b3⟩
          have T3 : Hid (UAt w3 b r m ∧ MAt w3 c r2 m own ∧ Below w.heap.size w w3) := Hid.intro ⟨T1.out.1.below b3, T1.out.2.1.below b3, T1.out.2.2.trans (b3.mono T1.out.2.2.size)⟩
          clear b3 T1
          have M3 := Hid.intro (may_any c r2 128 true m own w3 T3.out.2.1)
          generalize Mv.mayB m 128 true = mb2 at *
          go_wp2_with fail
          refine M3.out.mono ?_
          rintro e w4 ⟨rfl, hw4⟩
          subst w4
          clear M3
          go_wp2_with fail
          refine (vwants_any b r 128 m _ T3.out.1).mono ?_
          rintro e w5 ⟨rfl, b5⟩
          have T5 : Hid (UAt w5 b r m ∧ MAt w5 c r2 m own ∧ Below w.heap.size w w5) := Hid.intro ⟨T3.out.1.below b5, T3.out.2.1.below b5, T3.out.2.2.trans (b5.mono T3.out.2.2.size)⟩
          clear b5 T3
          have M5 := Hid.intro (wants_any c r2 128 m own w5 T5.out.2.1)
          generalize Mv.wantsB m 128 = mb3 at *
          go_wp2_with fail
          refine M5.out.mono ?_
          rintro e w6 ⟨rfl, hw6⟩
          subst w6
          clear M5
          go_wp2_with fail
          go_roundw
          case rel => exact ⟨17, by go_num, by omega, by omega, T5⟩
          case measure => simp [intOf] <;> omega
        · obtain ⟨p, rfl⟩ := Int.eq_ofNat_of_zero_le (show 0 ≤ z by omega)
          have p16 : p < 16 := by omega
          have pI : (p : Int) < 16 := by omega
          have hp17 : (p : Int) < 17 := by omega
          have lp := HL.out p p16
          have d1 := S.out.2.1.cFr p p16
          obtain ⟨fz, hfz⟩ : ∃ fz : Int, (m.fr p : Int) = fz := ⟨_, rfl⟩
          have EF : Hid (Mv.frN m (p : Int) = fz - 1) := Hid.intro (by unfold Mv.frN; rw [if_neg (by omega), Int.toNat_natCast, hfz])
          have hwf : IntKind.i64.wrap (fz - 1) = fz - 1 := IntWalk.i64_in _ ⟨by omega, by omega⟩
          rw [hfz] at d1
          clear hfz lp hz1 hz2 hz k1 k2
          as_aux_lemma =>
          go_wp2_with fail
          refine (vframe_any b r ((p : Int)) m _ S.out.1).mono ?_
          rintro e w1 ⟨rfl, hw1⟩
          subst w1
          rw [EF.out]
          go_wp2_with fail
          refine (vmay_any b r (8 * ((p : Int))) false m _ S.out.1).mono ?_
          rintro e w1 ⟨rfl, b1⟩
          have T1 : Hid (UAt w1 b r m ∧ MAt w1 c r2 m own ∧ Below w.heap.size w w1) := Hid.intro ⟨S.out.1.below b1, S.out.2.1.below b1, S.out.2.2.trans (b1.mono S.out.2.2.size)⟩
          clear b1 S
          have M1 := Hid.intro (may_any c r2 (8 * ((p : Int))) false m own w1 T1.out.2.1)
          generalize Mv.mayB m (8 * ((p : Int))) false = mb1 at *
          go_wp2_with fail
          refine M1.out.mono ?_
          rintro e w2 ⟨rfl, hw2⟩
          subst w2
          clear M1
          go_wp2_with fail
          refine (vmay_any b r (8 * ((p : Int))) true m _ T1.out.1).mono ?_
          rintro e w3 ⟨rfl, b3⟩
          have T3 : Hid (UAt w3 b r m ∧ MAt w3 c r2 m own ∧ Below w.heap.size w w3) := Hid.intro ⟨T1.out.1.below b3, T1.out.2.1.below b3, T1.out.2.2.trans (b3.mono T1.out.2.2.size)⟩
          clear b3 T1
          have M3 := Hid.intro (may_any c r2 (8 * ((p : Int))) true m own w3 T3.out.2.1)
          generalize Mv.mayB m (8 * ((p : Int))) true = mb2 at *
          go_wp2_with fail
          refine M3.out.mono ?_
          rintro e w4 ⟨rfl, hw4⟩
          subst w4
          clear M3
          go_wp2_with fail
          refine (vwants_any b r (8 * ((p : Int))) m _ T3.out.1).mono ?_
          rintro e w5 ⟨rfl, b5⟩
          have T5 : Hid (UAt w5 b r m ∧ MAt w5 c r2 m own ∧ Below w.heap.size w w5) := Hid.intro ⟨T3.out.1.below b5, T3.out.2.1.below b5, T3.out.2.2.trans (b5.mono T3.out.2.2.size)⟩
          clear b5 T3
          have M5 := Hid.intro (wants_any c r2 (8 * ((p : Int))) m own w5 T5.out.2.1)
          generalize Mv.wantsB m (8 * ((p : Int))) = mb3 at *
          go_wp2_with fail
          refine M5.out.mono ?_
          rintro e w6 ⟨rfl, hw6⟩
          subst w6
          clear M5
          go_wp2_with fail
          go_roundw
          case rel => exact ⟨(p : Int) + 1, by go_num, by omega, by omega, T5⟩
          case measure => simp [intOf] <;> omega
    · have hzI : ¬ z < 17 := hz
      obtain rfl : z = 17 := by omega
      as_aux_lemma =>
      go_wp2_with fail
      refine (vresident_any b r m _ S.out.1).mono ?_
      rintro e w1 ⟨rfl, b1⟩
      have T1 : Hid (UAt w1 b r m ∧ MAt w1 c r2 m own ∧ Below w.heap.size w w1) := Hid.intro ⟨S.out.1.below b1, S.out.2.1.below b1, S.out.2.2.trans (b1.mono S.out.2.2.size)⟩
      clear b1 S
      have M1 := Hid.intro (resident_any c r2 m own w1 T1.out.2.1)
      generalize Mv.resK m 16 = rk at *
      go_wp2_with fail
      refine M1.out.mono ?_
      rintro e w2 ⟨rfl, hw2⟩
      subst w2
      clear M1
      go_wp2_with fail
      refine (vregions_any b r m _ T1.out.1 HM.out).mono ?_
      rintro e w3 ⟨v3, rfl, h3⟩
      have R3 := Hid.intro h3
      clear h3
      go_wp2_with fail
      refine (rregions_any c r2 m own _ (T1.out.2.1.below R3.out.bel) HM.out).mono ?_
      rintro e w4 ⟨v4, rfl, h4⟩
      have R4 := Hid.intro h4
      clear h4
      go_wp2_with fail
      refine (sameRg_any R3.out R4.out (by have := rgK_len m 16; omega)).mono ?_
      rintro e w5 ⟨rfl, b5⟩
      have B5 : Hid (Below w.heap.size w w5) := Hid.intro (by
        have s1 := T1.out.2.2.size
        have s3 := R3.out.bel.size
        have s4 := R4.out.bel.size
        exact ((T1.out.2.2.trans (R3.out.bel.mono s1)).trans (R4.out.bel.mono (by omega))).trans (b5.mono (by omega)))
      clear b5
      go_wp2_with fail
      go_ret
      exact ⟨rfl, B5.out⟩
end Go.Proofs.Ytnppahmlifnnnab

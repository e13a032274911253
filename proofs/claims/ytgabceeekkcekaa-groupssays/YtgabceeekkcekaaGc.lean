/- Small functions of groups: from, passes, refuses, newGroup, New. -/
import Derived.Test.YtgabceeekkcekaaGd
import Derived.Deep.MidRow
namespace Go.Proofs.Ytgabceeekkcekaa
open Go.RowKit Go.Shelf

/-- Is each number from the least one to as many as there can be? -/
def fromB (p q l : Int) : Bool := decide (l ≤ p ∧ p ≤ 20 ∧ l ≤ q ∧ q ≤ 64)
set_option maxHeartbeats 400000 in
theorem from_any (p q l : Int) (w : World) : Calls Try.prog 61 #[.agg #[.int .i64 p, .int .i64 q], .int .i64 l] w fun e w' => e = .returned (.bool (fromB p q l)) ∧ Below w.heap.size w w' := by
  have HF : Hid (∀ r : Bool, (r = true ↔ (l ≤ p ∧ p ≤ 20 ∧ l ≤ q ∧ q ≤ 64)) → r = fromB p q l) := fun r hr => by unfold fromB; rw [Bool.eq_iff_iff, hr, decide_eq_true_eq]
  by_cases h1 : l ≤ p
  · have d1 : decide (l ≤ p) = true := by simp [h1]
    by_cases h2 : p ≤ 20
    · have d2 : decide (p ≤ 20) = true := by simp [h2]
      by_cases h3 : l ≤ q
      · have d3 : decide (l ≤ q) = true := by simp [h3]
        by_cases h4 : q ≤ 64
        · have HH : Hid (l ≤ p ∧ p ≤ 20 ∧ l ≤ q ∧ q ≤ 64) := ⟨h1, h2, h3, h4⟩
          go_enter Try.func61, Try.ntmps61
          go_wp2
          go_ret
          exact ⟨ret_bool (HF.out _ (by simp; exact HH.out)), (Below.refl _ _).alloc (Nat.le_refl _) _⟩
        · have d4 : decide (q ≤ 64) = false := by simp; omega
          have HH : Hid (¬ q ≤ 64) := h4
          clear h4
          go_enter Try.func61, Try.ntmps61
          go_wp2
          go_ret
          exact ⟨ret_bool (HF.out _ (by have := HH.out; simp; omega)), (Below.refl _ _).alloc (Nat.le_refl _) _⟩
      · have d3 : decide (l ≤ q) = false := by simp; omega
        have HH : Hid (¬ l ≤ q) := h3
        clear h3
        go_enter Try.func61, Try.ntmps61
        go_wp2
        go_ret
        exact ⟨ret_bool (HF.out _ (by have := HH.out; simp; omega)), (Below.refl _ _).alloc (Nat.le_refl _) _⟩
    · have d2 : decide (p ≤ 20) = false := by simp; omega
      have HH : Hid (¬ p ≤ 20) := h2
      clear h2
      go_enter Try.func61, Try.ntmps61
      go_wp2
      go_ret
      exact ⟨ret_bool (HF.out _ (by have := HH.out; simp; omega)), (Below.refl _ _).alloc (Nat.le_refl _) _⟩
  · have d1 : decide (l ≤ p) = false := by simp; omega
    have HH : Hid (¬ l ≤ p) := h1
    clear h1
    go_enter Try.func61, Try.ntmps61
    go_wp2
    go_ret
    exact ⟨ret_bool (HF.out _ (by have := HH.out; simp; omega)), (Below.refl _ _).alloc (Nat.le_refl _) _⟩

/-- Would a limit be passed? -/
def passB (h m l : Int) : Bool := decide (l ≠ -1 ∧ 0 < m ∧ l < h + m)
set_option maxHeartbeats 400000 in
theorem passes_any (h m l : Int) (w : World) (hh : 0 ≤ h ∧ h ≤ 100000000) (hm : 0 ≤ m ∧ m ≤ 1000) : Calls Try.prog 75 #[.int .i64 h, .int .i64 m, .int .i64 l] w fun e w' => e = .returned (.bool (passB h m l)) ∧ w' = w := by
  have HF : Hid (∀ r : Bool, (r = true ↔ (l ≠ -1 ∧ 0 < m ∧ l < h + m)) → r = passB h m l) := fun r hr => by unfold passB; rw [Bool.eq_iff_iff, hr, decide_eq_true_eq]
  obtain ⟨hh0, hh1⟩ := hh
  obtain ⟨hm0, hm1⟩ := hm
  by_cases h1 : l = -1
  · have HH : Hid (l = -1) := h1
    have d1 : (l != -1) = false := by simp [h1]
    clear h1
    go_enter Try.func75, Try.ntmps75
    go_wp2
    go_ret
    exact ⟨ret_bool (HF.out _ (by simp [HH.out])), rfl⟩
  · have HH : Hid (l ≠ -1) := h1
    have d1 : (l != -1) = true := by simp [h1]
    clear h1
    by_cases h2 : 0 < m
    · by_cases h3 : l < h + m
      · go_enter Try.func75, Try.ntmps75
        go_wp2
        go_ret
        exact ⟨ret_bool (HF.out _ (by have := HH.out; simp; omega)), rfl⟩
      · go_enter Try.func75, Try.ntmps75
        go_wp2
        go_ret
        exact ⟨ret_bool (HF.out _ (by have := HH.out; simp; omega)), rfl⟩
    · have d2 : decide (0 < m) = false := by simp; omega
      have HH2 : Hid (¬ 0 < m) := h2
      clear h2
      go_enter Try.func75, Try.ntmps75
      go_wp2
      go_ret
      exact ⟨ret_bool (HF.out _ (by have := HH2.out; simp; omega)), rfl⟩

set_option maxHeartbeats 400000 in
theorem refuses_bad (b : Nat) (g p q : Int) (w : World) (hg : g < 0 ∨ 10 ≤ g) : Calls Try.prog 62 #[.pointer (some ⟨b, 0, none⟩), .int .i64 g, .agg #[.int .i64 p, .int .i64 q]] w fun e w' => e = .returned (.iface 81 (.int .i64 1)) ∧ Below w.heap.size w w' := by
  have HG : Hid (g < 0 ∨ 10 ≤ g) := hg
  clear hg
  go_enter Try.func62, Try.ntmps62
  go_wp2_with fail
  refine (wrong_bad b g _ HG.out).mono ?_
  rintro e w1 ⟨rfl, rfl⟩
  go_wp2
  go_ret
  exact ⟨rfl, (Below.refl _ _).alloc (Nat.le_refl _) _⟩
set_option maxHeartbeats 400000 in
theorem refuses_none (b g : Nat) (p q : Int) (t : Nat → Gp) (w : World) (h : TAt w b t) (hg : g < 10) (hh : (t g).there = false) : Calls Try.prog 62 #[.pointer (some ⟨b, 0, none⟩), .int .i64 g, .agg #[.int .i64 p, .int .i64 q]] w fun e w' => e = .returned (.iface 81 (.int .i64 2)) ∧ Below w.heap.size w w' := by
  have H : Hid (TAt w b t ∧ (t g).there = false) := ⟨h, hh⟩
  clear h hh
  go_enter Try.func62, Try.ntmps62
  go_wp2_with fail
  refine (wrong_none b g t _ (H.out.1.below ((Below.refl _ _).alloc (Nat.le_refl _) _) H.out.1.lt) hg H.out.2).mono ?_
  rintro e w1 ⟨rfl, hw⟩
  subst hw
  go_wp2
  go_ret
  exact ⟨rfl, (Below.refl _ _).alloc (Nat.le_refl _) _⟩
set_option maxHeartbeats 400000 in
theorem refuses_ok (b g : Nat) (p q : Int) (t : Nat → Gp) (w : World) (h : TAt w b t) (hg : g < 10) (hh : (t g).there = true) (hf : fromB p q 0 = true) : Calls Try.prog 62 #[.pointer (some ⟨b, 0, none⟩), .int .i64 g, .agg #[.int .i64 p, .int .i64 q]] w fun e w' => e = .returned .nilIface ∧ Below w.heap.size w w' := by
  have H : Hid (TAt w b t ∧ (t g).there = true ∧ fromB p q 0 = true) := ⟨h, hh, hf⟩
  clear h hh hf
  go_enter Try.func62, Try.ntmps62
  go_wp2_with fail
  refine (wrong_ok b g t _ (H.out.1.below ((Below.refl _ _).alloc (Nat.le_refl _) _) H.out.1.lt) hg H.out.2.1).mono ?_
  rintro e w1 ⟨rfl, hw⟩
  subst hw
  go_wp2_with fail
  refine (from_any p q 0 _).mono ?_
  rintro e w2 ⟨rfl, hb⟩
  rw [H.out.2.2]
  have HB : Hid (Below w.heap.size w w2) := ((Below.refl _ w).alloc (Nat.le_refl _) _).trans (hb.mono (by simp))
  clear hb
  go_wp2
  go_ret
  exact ⟨rfl, HB.out⟩
set_option maxHeartbeats 400000 in
theorem refuses_bound (b g : Nat) (p q : Int) (t : Nat → Gp) (w : World) (h : TAt w b t) (hg : g < 10) (hh : (t g).there = true) (hf : fromB p q 0 = false) : Calls Try.prog 62 #[.pointer (some ⟨b, 0, none⟩), .int .i64 g, .agg #[.int .i64 p, .int .i64 q]] w fun e w' => e = .returned (.iface 81 (.int .i64 1)) ∧ Below w.heap.size w w' := by
  have H : Hid (TAt w b t ∧ (t g).there = true ∧ fromB p q 0 = false) := ⟨h, hh, hf⟩
  clear h hh hf
  go_enter Try.func62, Try.ntmps62
  go_wp2_with fail
  refine (wrong_ok b g t _ (H.out.1.below ((Below.refl _ _).alloc (Nat.le_refl _) _) H.out.1.lt) hg H.out.2.1).mono ?_
  rintro e w1 ⟨rfl, hw⟩
  subst hw
  go_wp2_with fail
  refine (from_any p q 0 _).mono ?_
  rintro e w2 ⟨rfl, hb⟩
  rw [H.out.2.2]
  have HB : Hid (Below w.heap.size w w2) := ((Below.refl _ w).alloc (Nat.le_refl _) _).trans (hb.mono (by simp))
  clear hb
  go_wp2
  go_ret
  exact ⟨rfl, HB.out⟩

end Go.Proofs.Ytgabceeekkcekaa

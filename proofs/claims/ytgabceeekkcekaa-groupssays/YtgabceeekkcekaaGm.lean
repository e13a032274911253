/- Limit, Charge, Uncharge. -/
import Derived.Test.YtgabceeekkcekaaGn
namespace Go.Proofs.Ytgabceeekkcekaa
open Go.RowKit Go.Shelf

theorem updT_updT (t : Nat → Gp) (n : Nat) (g g' : Gp) : updT (updT t n g) n g' = updT t n g' := by
  funext k
  unfold updT
  split <;> rfl
/-- Why nothing of that amount can be charged, whatever is in the group. -/
def refE (t : Nat → Gp) (g p q : Int) : Int := if wr t g = 0 then (if fromB p q 0 = true then 0 else 1) else wr t g
theorem refuses_any (b : Nat) (g p q : Int) (t : Nat → Gp) (w : World) (h : TAt w b t) : Calls Try.prog 62 #[.pointer (some ⟨b, 0, none⟩), .int .i64 g, .agg #[.int .i64 p, .int .i64 q]] w fun e w' => e = .returned (errV (refE t g p q)) ∧ Below w.heap.size w w' := by
  unfold refE
  by_cases hw : wr t g = 0
  · rw [if_pos hw]
    obtain ⟨n, rfl, hn, hh⟩ := wr_zero hw
    cases hf : fromB p q 0
    · exact refuses_bound b n p q t w h hn hh hf
    · exact refuses_ok b n p q t w h hn hh hf
  · rw [if_neg hw]
    unfold wr at hw ⊢
    by_cases hb : g < 0 ∨ 10 ≤ g
    · rw [if_pos hb]; exact refuses_bad b g p q w hb
    · rw [if_neg hb] at hw ⊢
      obtain ⟨n, rfl⟩ := Int.eq_ofNat_of_zero_le (show 0 ≤ g by omega)
      rw [Int.toNat_natCast] at hw ⊢
      cases hh : (t n).there
      · exact refuses_none b n p q t w h (by omega) hh
      · rw [hh] at hw; simp at hw
theorem fromB_iff {p q l : Int} : fromB p q l = true ↔ (l ≤ p ∧ p ≤ 20 ∧ l ≤ q ∧ q ≤ 64) := by unfold fromB; exact decide_eq_true_iff
theorem refE_zero {t : Nat → Gp} {g p q : Int} (h : refE t g p q = 0) : ∃ n : Nat, g = n ∧ n < 10 ∧ (t n).there = true ∧ (0 ≤ p ∧ p ≤ 20) ∧ (0 ≤ q ∧ q ≤ 64) := by
  unfold refE at h
  by_cases hw : wr t g = 0
  · rw [if_pos hw] at h
    obtain ⟨n, e, hn, hh⟩ := wr_zero hw
    cases hf : fromB p q 0
    · rw [hf] at h; simp at h
    · have := fromB_iff.1 hf
      exact ⟨n, e, hn, hh, ⟨this.1, this.2.1⟩, this.2.2.1, this.2.2.2⟩
  · rw [if_neg hw] at h; exact absurd h hw

set_option maxRecDepth 100000 in
set_option maxHeartbeats 400000 in
theorem limit_bad (b : Nat) (g p q : Int) (t : Nat → Gp) (w : World) (h : TAt w b t) (hw : wr t g ≠ 0) : Calls Try.prog 27 #[.pointer (some ⟨b, 0, none⟩), .int .i64 g, .int .i64 p, .int .i64 q] w fun e w' => e = .returned (errV (wr t g)) ∧ w' = w := by
  have HT : Hid (TAt w b t) := h
  have HW : Hid (errV (wr t g) = .iface 81 (.int .i64 (wr t g))) := if_neg hw
  clear h hw
  go_enter Try.func27, Try.ntmps27
  go_wp2_with fail
  refine (wrong_any b g t _ HT.out).mono ?_
  rintro e w1 ⟨rfl, hw1⟩
  subst w1
  rw [HW.out]
  go_wp2
  go_ret
  exact ⟨by rw [HW.out]; rfl, rfl⟩

set_option maxRecDepth 100000 in
set_option maxHeartbeats 400000 in
theorem limit_bound (b n : Nat) (p q : Int) (t : Nat → Gp) (w : World) (h : TAt w b t) (hn : n < 10) (hh : (t n).there = true) (hf : fromB p q (-1) = false) : Calls Try.prog 27 #[.pointer (some ⟨b, 0, none⟩), .int .i64 n, .int .i64 p, .int .i64 q] w fun e w' => e = .returned (errV 1) ∧ Below w.heap.size w w' := by
  have HT : Hid (TAt w b t ∧ (t n).there = true) := ⟨h, hh⟩
  have HF : Hid (fromB p q (-1) = false) := hf
  clear h hh hf
  go_enter Try.func27, Try.ntmps27
  go_wp2_with fail
  refine (wrong_ok b n t _ HT.out.1 hn HT.out.2).mono ?_
  rintro e w1 ⟨rfl, hw1⟩
  subst w1
  go_wp2_with fail
  refine (from_any p q (-1) _).mono ?_
  rintro e w2 ⟨rfl, hb⟩
  rw [HF.out]
  have HB : Hid (Below w.heap.size w w2) := ((Below.refl _ w).alloc (Nat.le_refl _) _).trans (hb.mono (by simp))
  clear hb
  go_wp2
  go_ret
  exact ⟨rfl, HB.out⟩

set_option maxRecDepth 100000 in
set_option maxHeartbeats 400000 in
theorem limit_ok (b n : Nat) (p q : Int) (t : Nat → Gp) (w : World) (h : TAt w b t) (hn : n < 10) (hh : (t n).there = true) (hf : fromB p q (-1) = true) : Calls Try.prog 27 #[.pointer (some ⟨b, 0, none⟩), .int .i64 n, .int .i64 p, .int .i64 q] w fun e w' => e = .returned (errV 0) ∧ TAt w' b (updT t n { t n with lp := p, lq := q }) ∧ Frm b w w' := by
  have HT : Hid (TAt w b t ∧ (t n).there = true) := ⟨h, hh⟩
  have HF : Hid (fromB p q (-1) = true) := hf
  have hnI : (n : Int) < 10 := by omega
  clear h hh hf
  go_enter Try.func27, Try.ntmps27
  go_wp2_with fail
  refine (wrong_ok b n t _ HT.out.1 hn HT.out.2).mono ?_
  rintro e w1 ⟨rfl, hw1⟩
  subst w1
  go_wp2_with fail
  refine (from_any p q (-1) _).mono ?_
  rintro e w2 ⟨rfl, hb⟩
  rw [HF.out]
  have HB : Hid (Below w.heap.size w w2) := ((Below.refl _ w).alloc (Nat.le_refl _) _).trans (hb.mono (by simp))
  have hbx : w2.heap[w.heap.size]? = some (.cells #[.int .i64 p, .int .i64 q] 91 (0, 0)) := (hb.block _ (by simp)).trans (heap_alloc_new w _)
  have x0 : w2.cell? ⟨w.heap.size, 0, none⟩ = some (.int .i64 p) := heap_cell hbx 0
  have x1 : w2.cell? ⟨w.heap.size, 1, none⟩ = some (.int .i64 q) := heap_cell hbx 1
  have T2 : Hid (TAt w2 b t) := HT.out.1.below HB.out HT.out.1.lt
  have y0 : w2.cell? ⟨b, n * 6 + 2, none⟩ = some (.int .i64 (t n).lp) := T2.out.cell n 2 hn (by omega)
  have y1 : w2.cell? ⟨b, n * 6 + 2 + 1, none⟩ = some (.int .i64 (t n).lq) := T2.out.cell n 3 hn (by omega)
  have yf := T2.out.frozen
  have ne1 : b ≠ w.heap.size := by have := HT.out.1.lt; omega
  clear hb hbx
  generalize (t n).lp = LP at y0
  generalize (t n).lq = LQ at y1
  go_wp2_with fail
  go_region_held3 (fun w' => w'.cell? ⟨w.heap.size, 0, none⟩ = some (.int .i64 p) ∧ w'.cell? ⟨w.heap.size, 1, none⟩ = some (.int .i64 q)) (go_keep) (fail)
  go_wp2
  go_ret
  refine ⟨rfl, ?_, (((Frm.of_below HB.out).setCell _ _).setCell _ _).drew⟩
  have Z := ((T2.out.set n 2 hn (by omega) (.int .i64 p) { t n with lp := p } (fun i hi => by match i, hi with | 0, _ => rfl | 1, _ => rfl | 2, _ => rfl | 3, _ => rfl | 4, _ => rfl | 5, _ => rfl)).set n 3 hn (by omega) (.int .i64 q) { t n with lp := p, lq := q } (fun i hi => by rw [updT_same]; match i, hi with | 0, _ => rfl | 1, _ => rfl | 2, _ => rfl | 3, _ => rfl | 4, _ => rfl | 5, _ => rfl)).drew
  rw [updT_updT] at Z
  exact Z
end Go.Proofs.Ytgabceeekkcekaa

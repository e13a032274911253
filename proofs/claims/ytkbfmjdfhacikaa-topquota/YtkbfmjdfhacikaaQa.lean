/- TopQuota: what the law has in its hands. -/
import Derived.Test.YtkbfmjdfhacikaaQm
import Derived.Test.YtkbfmjdfhacikaaAr
namespace Go.Proofs.Ytkbfmjdfhacikaa
open Go.RowKit
open Fr (Un M)

theorem Hid.both {p q : Prop} (h : p) (k : q) : Hid (p ∧ q) := ⟨h, k⟩
structure QS (w W : World) (b c : Nat) (m : M) (aw fz : Nat → Bool) : Prop where
  bel : Below w.heap.size w W
  le : w.heap.size ≤ b
  lt : b < c
  fair : Fair W b m
  awA : BAt W c 6 95 aw
  fzA : BAt W (c + 1) 3 96 fz
section
variable {w W W' : World} {b c : Nat} {m m' : M} {aw fz : Nat → Bool}
theorem QS.frm (h : QS w W b c m aw fz) (f : Fair W' b m') (r : Frm b W W') : QS w W' b c m' aw fz := by
  have l := h.fzA.lt
  have l2 := h.lt
  have hl := h.le
  exact ⟨r.below h.bel hl (by omega), hl, l2, f, h.awA.same (r.block _ (by omega) (by omega)), h.fzA.same (r.block _ (by omega) (by omega))⟩
theorem QS.alloc (h : QS w W b c m aw fz) (o : Obj) : QS w (W.alloc o) b c m aw fz := by
  have l := h.fzA.lt
  have l2 := h.lt
  have hl := h.le
  have e : ∀ k, k < W.heap.size → (W.alloc o).heap[k]? = W.heap[k]? := fun k hk => Below.heap_alloc W o k hk
  exact ⟨h.bel.alloc (by omega) o, hl, l2, h.fair.same (e _ (by omega)), h.awA.same (e _ (by omega)), h.fzA.same (e _ (by omega))⟩
theorem QS.setAw (h : QS w W b c m aw fz) (i : Nat) (v : Bool) (hi : i < 6) : QS w (W.setCell ⟨c, i, none⟩ (.bool v)) b c m (Fr.upB' aw i v) fz := by
  have l := h.fzA.lt
  have l2 := h.lt
  have hl := h.le
  exact ⟨h.bel.setCell (by show _ ≤ c; omega) _, hl, l2, h.fair.same (setBlk _ _ _ _ (by omega)), h.awA.set i v hi, h.fzA.same (setBlk _ _ _ _ (by omega))⟩
theorem QS.setFz (h : QS w W b c m aw fz) (i : Nat) (v : Bool) (hi : i < 3) : QS w (W.setCell ⟨c + 1, i, none⟩ (.bool v)) b c m aw (Fr.upB' fz i v) := by
  have l := h.fzA.lt
  have l2 := h.lt
  have hl := h.le
  exact ⟨h.bel.setCell (by show _ ≤ c + 1; omega) _, hl, l2, h.fair.same (setBlk _ _ _ _ (by omega)), h.awA.same (setBlk _ _ _ _ (by omega)), h.fzA.set i v hi⟩
end
structure QA (w W : World) (b c ba : Nat) (m : M) (aw fz : Nat → Bool) (act : Array Value) : Prop where
  qs : QS w W b c m aw fz
  act : W.heap[ba]? = some (.cells act 36 (0, 0))
  lt : c + 1 < ba
section
variable {w W W' : World} {b c ba : Nat} {m m' : M} {aw fz : Nat → Bool} {act : Array Value}
theorem QA.start (h : QS w W b c m aw fz) (act : Array Value) : QA w (W.alloc (.cells act 36)) b c W.heap.size m aw fz act :=
  ⟨h.alloc _, heap_alloc_new W _, h.fzA.lt⟩
theorem QA.frm (h : QA w W b c ba m aw fz act) (f : Fair W' b m') (r : Frm b W W') : QA w W' b c ba m' aw fz act :=
  ⟨h.qs.frm f r, (r.block ba (Array.getElem?_eq_some_iff.1 h.act).1 (by have := h.lt; have := h.qs.lt; omega)).trans h.act, h.lt⟩
theorem QA.setAw (h : QA w W b c ba m aw fz act) (i : Nat) (v : Bool) (hi : i < 6) : QA w (W.setCell ⟨c, i, none⟩ (.bool v)) b c ba m (Fr.upB' aw i v) fz act :=
  ⟨h.qs.setAw i v hi, (setBlk _ _ _ _ (by have := h.lt; omega)).trans h.act, h.lt⟩
theorem QA.setFz (h : QA w W b c ba m aw fz act) (i : Nat) (v : Bool) (hi : i < 3) : QA w (W.setCell ⟨c + 1, i, none⟩ (.bool v)) b c ba m aw (Fr.upB' fz i v) act :=
  ⟨h.qs.setFz i v hi, (setBlk _ _ _ _ (by have := h.lt; omega)).trans h.act, h.lt⟩
end
theorem zeroB6 : arrB 6 (fun _ => false) = #[.bool false, .bool false, .bool false, .bool false, .bool false, .bool false] := by kernel_rfl
theorem zeroB3 : arrB 3 (fun _ => false) = #[.bool false, .bool false, .bool false] := by kernel_rfl
theorem qs_start {w W : World} {b : Nat} {m : M} (hb : Below w.heap.size w W) (hl : w.heap.size ≤ b) (hF : Fair W b m) :
    QS w ((W.alloc (.cells (arrB 6 (fun _ => false)) 95)).alloc (.cells (arrB 3 (fun _ => false)) 96)) b W.heap.size m (fun _ => false) (fun _ => false) := by
  have hlt := hF.lt
  have hs := hb.size
  refine ⟨(hb.alloc hs _).alloc (by simp; omega) _, hl, hlt, hF.same ?_, ?_, ?_⟩
  · show ((W.heap.push _).push _)[b]? = W.heap[b]?
    simp only [Array.getElem?_push, Array.size_push]
    rw [if_neg (by omega), if_neg (by omega)]
  · show ((W.heap.push _).push _)[W.heap.size]? = _
    simp only [Array.getElem?_push, Array.size_push]
    rw [if_neg (by omega), if_pos trivial]
  · show ((W.heap.push _).push _)[W.heap.size + 1]? = _
    simp only [Array.getElem?_push, Array.size_push]
    rw [if_pos trivial]

namespace Fr
/-- Is there one, of the first x, that may run? -/
def mayTo (q : Nat) (fz : Nat → Bool) (us : Nat) (aw : Nat → Bool) (x : Nat) : Bool := (List.range x).any fun i => aw i && !stop q fz us i
theorem mayTo_zero (q : Nat) (fz : Nat → Bool) (us : Nat) (aw : Nat → Bool) : mayTo q fz us aw 0 = false := rfl
theorem mayTo_step (q : Nat) (fz : Nat → Bool) (us : Nat) (aw : Nat → Bool) (x : Nat) : mayTo q fz us aw (x + 1) = (mayTo q fz us aw x || (aw x && !stop q fz us x)) := by
  unfold mayTo; rw [List.range_succ, List.any_append]; simp
theorem mayTo_false {q : Nat} {fz : Nat → Bool} {us : Nat} {aw : Nat → Bool} {n : Nat} (h : ∀ x, x < n → aw x = true → stop q fz us x = true) : mayTo q fz us aw n = false := by
  unfold mayTo
  rw [List.any_eq_false]
  intro x hx
  have := h x (by simpa using hx)
  cases ha : aw x
  · simp
  · rw [this ha]; simp
theorem mayTo_true {q : Nat} {fz : Nat → Bool} {us : Nat} {aw : Nat → Bool} {n y : Nat} (hy : y < n) (ha : aw y = true) (hs : stop q fz us y = false) : mayTo q fz us aw n = true := by
  unfold mayTo
  rw [List.any_eq_true]
  exact ⟨y, by simpa using hy, by rw [ha, hs]; rfl⟩
theorem stop0 {q : Nat} {fz : Nat → Bool} {us x : Nat} (h : x % 3 = 0) : stop q fz us x = false := by unfold stop; rw [h]; simp
theorem stop1 {q : Nat} {fz : Nat → Bool} {us x : Nat} (h : x % 3 = 1) : stop q fz us x = (fz 1 || decide (q ≤ us)) := by unfold stop; rw [h]; simp
theorem stop2 {q : Nat} {fz : Nat → Bool} {us x : Nat} (h : x % 3 = 2) : stop q fz us x = ((fz 1 || decide (q ≤ us)) || fz 2) := by unfold stop; rw [h]; simp
end Fr

set_option maxRecDepth 100000 in
set_option maxHeartbeats 1000000 in
theorem tu_wrong (a0 : Option Addr) (n0 c0 : Nat) (q p : Int) (w : World) (h : q < 0 ∨ p < q ∨ p < 1 ∨ 100 < p) :
    Calls Try.prog 9 #[.slice a0 n0 c0, .int .i64 q, .int .i64 p] w fun e w' => e = .returned (.bool true) ∧ Below w.heap.size w w' := by
  go_enter Try.func9, Try.ntmps9
  go_wp2_with fail
  refine (new_any _).mono ?_
  rintro e W1 ⟨rfl, f1, b1, _⟩
  have F1 := Hid.intro f1
  have B1 := Hid.intro b1
  clear f1 b1
  go_wp2_with fail
  refine (addGroup_any w.heap.size 1 0 5 Fr.m0 _ F1.out Fr.inv0).mono ?_
  rintro e W2 ⟨rfl, f2, r2⟩
  have B2 := Hid.intro (r2.below B1.out (Nat.le_refl _) B1.out.size)
  rw [Fr.qt_g1.2] at f2
  have F2 := Hid.intro f2
  clear f2 r2
  rw [Fr.qt_g1.1, errV_zero]
  go_wp2_with fail
  refine (addGroup_any w.heap.size 2 1 5 _ _ F2.out Fr.inv_g1).mono ?_
  rintro e W3 ⟨rfl, f3, r3⟩
  have B3 := Hid.intro (r3.below B2.out (Nat.le_refl _) B2.out.size)
  rw [Fr.qt_g2.2] at f3
  have F3 := Hid.intro f3
  clear f3 r3
  rw [Fr.qt_g2.1, errV_zero]
  go_wp2_with fail
  refine (quota_any w.heap.size 1 q p _ _ F3.out Fr.inv_g2).mono ?_
  rintro e W4 ⟨rfl, m', k4, f4, r4⟩
  have B4 := Hid.intro (r4.below B3.out (Nat.le_refl _) B3.out.size)
  have hE : Fr.quotaE Fr.mg 1 q p = 1 := by
    rcases Fr.qt_quota k4 with ⟨_, h1, h2, h3, h4, _⟩ | ⟨e, _⟩
    · omega
    · exact e
  rw [hE, errV_ne (by decide)]
  clear k4 f4 r4 hE
  by_cases h1 : q < 0
  · go_wp2
    go_ret
    exact ⟨rfl, B4.out⟩
  · have d1 : decide (q < 0) = false := by simp; omega
    by_cases h2 : p < 1
    · clear h
      go_wp2
      go_ret
      exact ⟨rfl, B4.out⟩
    · have d2 : decide (p < 1) = false := by simp; omega
      by_cases h3 : 100 < p
      · clear h
        go_wp2
        go_ret
        exact ⟨rfl, B4.out⟩
      · have d3 : decide (100 < p) = false := by simp; omega
        have h4 : p < q := by omega
        clear h
        go_wp2
        go_ret
        exact ⟨rfl, B4.out⟩

end Go.Proofs.Ytkbfmjdfhacikaa

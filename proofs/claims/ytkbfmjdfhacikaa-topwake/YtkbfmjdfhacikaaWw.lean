/- The walk of the law TopWake. -/
import Derived.Test.YtkbfmjdfhacikaaWm
import Derived.Test.YtkbfmjdfhacikaaAr
namespace Go.Proofs.Ytkbfmjdfhacikaa
open Go.RowKit
open Fr (Un M)

/-- What the law has in its hands: the sched at b; the arrays from c on. -/
structure WS (w W : World) (b c : Nat) (m : M) (wt ran mine : Nat → Nat) (aw : Nat → Bool) : Prop where
  bel : Below w.heap.size w W
  le : w.heap.size ≤ b
  lt : b < c
  fair : Fair W b m
  wtA : ZAt W c 20 92 (fun i => (wt i : Int))
  ranA : ZAt W (c + 1) 20 92 (fun i => (ran i : Int))
  minA : ZAt W (c + 1 + 1) 20 92 (fun i => (mine i : Int))
  awA : BAt W (c + 1 + 1 + 1) 20 98 aw
section
variable {w W W' : World} {b c : Nat} {m m' : M} {wt ran mine : Nat → Nat} {aw : Nat → Bool}
theorem WS.frm (h : WS w W b c m wt ran mine aw) (f : Fair W' b m') (r : Frm b W W') : WS w W' b c m' wt ran mine aw := by
  have l := h.awA.lt
  have l2 := h.lt
  have hl := h.le
  exact ⟨r.below h.bel hl (by omega), hl, l2, f, h.wtA.same (r.block _ (by omega) (by omega)), h.ranA.same (r.block _ (by omega) (by omega)), h.minA.same (r.block _ (by omega) (by omega)), h.awA.same (r.block _ (by omega) (by omega))⟩
theorem WS.alloc (h : WS w W b c m wt ran mine aw) (o : Obj) : WS w (W.alloc o) b c m wt ran mine aw := by
  have l := h.awA.lt
  have l2 := h.lt
  have hl := h.le
  have e : ∀ k, k < W.heap.size → (W.alloc o).heap[k]? = W.heap[k]? := fun k hk => Below.heap_alloc W o k hk
  exact ⟨h.bel.alloc (by omega) o, hl, l2, h.fair.same (e _ (by omega)), h.wtA.same (e _ (by omega)), h.ranA.same (e _ (by omega)), h.minA.same (e _ (by omega)), h.awA.same (e _ (by omega))⟩
theorem WS.drewN (h : WS w W b c m wt ran mine aw) (n : Nat) : WS w (W.drewN n) b c m wt ran mine aw :=
  ⟨below_drewN h.bel n, h.le, h.lt, h.fair.drewN n, h.wtA, h.ranA, h.minA, h.awA⟩
theorem WS.setWt (h : WS w W b c m wt ran mine aw) (i v : Nat) (hi : i < 20) : WS w (W.setCell ⟨c, i, none⟩ (.int .i64 (v : Int))) b c m (Fr.upN wt i v) ran mine aw := by
  have l := h.awA.lt
  have l2 := h.lt
  have hl := h.le
  refine ⟨h.bel.setCell (by show _ ≤ c; omega) _, hl, l2, h.fair.same (setBlk _ _ _ _ (by omega)), ?_, h.ranA.same (setBlk _ _ _ _ (by omega)), h.minA.same (setBlk _ _ _ _ (by omega)), h.awA.same (setBlk _ _ _ _ (by omega))⟩
  have := h.wtA.set i v hi
  have e : updZ (fun i => (wt i : Int)) i v = fun j => (Fr.upN wt i v j : Int) := by funext j; unfold updZ Fr.upN; split <;> rfl
  rw [e] at this; exact this
theorem WS.setRan (h : WS w W b c m wt ran mine aw) (i v : Nat) (hi : i < 20) : WS w (W.setCell ⟨c + 1, i, none⟩ (.int .i64 (v : Int))) b c m wt (Fr.upN ran i v) mine aw := by
  have l := h.awA.lt
  have l2 := h.lt
  have hl := h.le
  refine ⟨h.bel.setCell (by show _ ≤ c + 1; omega) _, hl, l2, h.fair.same (setBlk _ _ _ _ (by omega)), h.wtA.same (setBlk _ _ _ _ (by omega)), ?_, h.minA.same (setBlk _ _ _ _ (by omega)), h.awA.same (setBlk _ _ _ _ (by omega))⟩
  have := h.ranA.set i v hi
  have e : updZ (fun i => (ran i : Int)) i v = fun j => (Fr.upN ran i v j : Int) := by funext j; unfold updZ Fr.upN; split <;> rfl
  rw [e] at this; exact this
theorem WS.setMine (h : WS w W b c m wt ran mine aw) (i v : Nat) (hi : i < 20) : WS w (W.setCell ⟨c + 1 + 1, i, none⟩ (.int .i64 (v : Int))) b c m wt ran (Fr.upN mine i v) aw := by
  have l := h.awA.lt
  have l2 := h.lt
  have hl := h.le
  refine ⟨h.bel.setCell (by show _ ≤ c + 1 + 1; omega) _, hl, l2, h.fair.same (setBlk _ _ _ _ (by omega)), h.wtA.same (setBlk _ _ _ _ (by omega)), h.ranA.same (setBlk _ _ _ _ (by omega)), ?_, h.awA.same (setBlk _ _ _ _ (by omega))⟩
  have := h.minA.set i v hi
  have e : updZ (fun i => (mine i : Int)) i v = fun j => (Fr.upN mine i v j : Int) := by funext j; unfold updZ Fr.upN; split <;> rfl
  rw [e] at this; exact this
theorem WS.setAw (h : WS w W b c m wt ran mine aw) (i : Nat) (v : Bool) (hi : i < 20) : WS w (W.setCell ⟨c + 1 + 1 + 1, i, none⟩ (.bool v)) b c m wt ran mine (Fr.upB aw i v) := by
  have l := h.awA.lt
  have l2 := h.lt
  have hl := h.le
  exact ⟨h.bel.setCell (by show _ ≤ c + 1 + 1 + 1; omega) _, hl, l2, h.fair.same (setBlk _ _ _ _ (by omega)), h.wtA.same (setBlk _ _ _ _ (by omega)), h.ranA.same (setBlk _ _ _ _ (by omega)), h.minA.same (setBlk _ _ _ _ (by omega)), h.awA.set i v hi⟩
end
/-- .. and the act. -/
structure WA (w W : World) (b c ba : Nat) (m : M) (wt ran mine : Nat → Nat) (aw : Nat → Bool) (act : Array Value) : Prop where
  ws : WS w W b c m wt ran mine aw
  act : W.heap[ba]? = some (.cells act 36 (0, 0))
  lt : c + 1 + 1 + 1 < ba
section
variable {w W W' : World} {b c ba : Nat} {m m' : M} {wt ran mine : Nat → Nat} {aw : Nat → Bool} {act : Array Value}
theorem WA.start (h : WS w W b c m wt ran mine aw) (act : Array Value) : WA w (W.alloc (.cells act 36)) b c W.heap.size m wt ran mine aw act :=
  ⟨h.alloc _, heap_alloc_new W _, h.awA.lt⟩
theorem WA.frm (h : WA w W b c ba m wt ran mine aw act) (f : Fair W' b m') (r : Frm b W W') : WA w W' b c ba m' wt ran mine aw act :=
  ⟨h.ws.frm f r, (r.block ba (Array.getElem?_eq_some_iff.1 h.act).1 (by have := h.lt; have := h.ws.lt; omega)).trans h.act, h.lt⟩
theorem WA.drewN (h : WA w W b c ba m wt ran mine aw act) (n : Nat) : WA w (W.drewN n) b c ba m wt ran mine aw act := ⟨h.ws.drewN n, h.act, h.lt⟩
theorem WA.setRan (h : WA w W b c ba m wt ran mine aw act) (i v : Nat) (hi : i < 20) : WA w (W.setCell ⟨c + 1, i, none⟩ (.int .i64 (v : Int))) b c ba m wt (Fr.upN ran i v) mine aw act :=
  ⟨h.ws.setRan i v hi, (setBlk _ _ _ _ (by have := h.lt; omega)).trans h.act, h.lt⟩
theorem WA.setMine (h : WA w W b c ba m wt ran mine aw act) (i v : Nat) (hi : i < 20) : WA w (W.setCell ⟨c + 1 + 1, i, none⟩ (.int .i64 (v : Int))) b c ba m wt ran (Fr.upN mine i v) aw act :=
  ⟨h.ws.setMine i v hi, (setBlk _ _ _ _ (by have := h.lt; omega)).trans h.act, h.lt⟩
theorem WA.setAw (h : WA w W b c ba m wt ran mine aw act) (i : Nat) (v : Bool) (hi : i < 20) : WA w (W.setCell ⟨c + 1 + 1 + 1, i, none⟩ (.bool v)) b c ba m wt ran mine (Fr.upB aw i v) act :=
  ⟨h.ws.setAw i v hi, (setBlk _ _ _ _ (by have := h.lt; omega)).trans h.act, h.lt⟩
end
theorem zero20 : arrZ 20 (fun _ => 0) = #[.int .i64 0, .int .i64 0, .int .i64 0, .int .i64 0, .int .i64 0, .int .i64 0, .int .i64 0, .int .i64 0, .int .i64 0, .int .i64 0, .int .i64 0, .int .i64 0, .int .i64 0, .int .i64 0, .int .i64 0, .int .i64 0, .int .i64 0, .int .i64 0, .int .i64 0, .int .i64 0] := by kernel_rfl
theorem zeroB20 : arrB 20 (fun _ => false) = #[.bool false, .bool false, .bool false, .bool false, .bool false, .bool false, .bool false, .bool false, .bool false, .bool false, .bool false, .bool false, .bool false, .bool false, .bool false, .bool false, .bool false, .bool false, .bool false, .bool false] := by kernel_rfl
theorem zero20w : arrZ 20 (fun i => ((if i = 0 then 7 else 0 : Nat) : Int)) = #[.int .i64 7, .int .i64 0, .int .i64 0, .int .i64 0, .int .i64 0, .int .i64 0, .int .i64 0, .int .i64 0, .int .i64 0, .int .i64 0, .int .i64 0, .int .i64 0, .int .i64 0, .int .i64 0, .int .i64 0, .int .i64 0, .int .i64 0, .int .i64 0, .int .i64 0, .int .i64 0] := by kernel_rfl
theorem ws_start {w W : World} {b : Nat} {m : M} (wt : Nat → Nat) (hb : Below w.heap.size w W) (hl : w.heap.size ≤ b) (hF : Fair W b m) :
    WS w ((((W.alloc (.cells (arrZ 20 (fun i => (wt i : Int))) 92)).alloc (.cells (arrZ 20 (fun _ => 0)) 92)).alloc (.cells (arrZ 20 (fun _ => 0)) 92)).alloc (.cells (arrB 20 (fun _ => false)) 98)) b W.heap.size m wt (fun _ => 0) (fun _ => 0) (fun _ => false) := by
  have hlt := hF.lt
  have hs := hb.size
  refine ⟨(((hb.alloc hs _).alloc (by simp; omega) _).alloc (by simp; omega) _).alloc (by simp; omega) _, hl, hlt, hF.same ?_, ?_, ?_, ?_, ?_⟩
  · show ((((W.heap.push _).push _).push _).push _)[b]? = W.heap[b]?
    simp only [Array.getElem?_push, Array.size_push]
    rw [if_neg (by omega), if_neg (by omega), if_neg (by omega), if_neg (by omega)]
  · show ((((W.heap.push _).push _).push _).push _)[W.heap.size]? = _
    simp only [Array.getElem?_push, Array.size_push]
    rw [if_neg (by omega), if_neg (by omega), if_neg (by omega), if_pos trivial]
  · show ((((W.heap.push _).push _).push _).push _)[W.heap.size + 1]? = _
    simp only [Array.getElem?_push, Array.size_push]
    rw [if_neg (by omega), if_neg (by omega), if_pos trivial]; rfl
  · show ((((W.heap.push _).push _).push _).push _)[W.heap.size + 1 + 1]? = _
    simp only [Array.getElem?_push, Array.size_push]
    rw [if_neg (by omega), if_pos trivial]; rfl
  · show ((((W.heap.push _).push _).push _).push _)[W.heap.size + 1 + 1 + 1]? = _
    simp only [Array.getElem?_push, Array.size_push]
    rw [if_pos trivial]

set_option maxRecDepth 100000 in
set_option maxHeartbeats 1000000 in
theorem tw_far (a0 a1 : Option Addr) (n0 n1 c0 c1 : Nat) (w : World) (h : 15 < n0 ∨ 150 < n1) (hm0 : n0 ≤ maxLen) (hm1 : n1 ≤ maxLen) :
    Calls Try.prog 10 #[.slice a0 n0 c0, .slice a1 n1 c1] w fun e w' => e = .returned (.bool true) ∧ Below w.heap.size w w' := by
  unfold maxLen at hm0 hm1
  go_enter Try.func10, Try.ntmps10
  go_wp2_with fail
  refine (new_any _).mono ?_
  rintro e W1 ⟨rfl, f1, b1, _⟩
  have F1 := Hid.intro f1
  have B1 := Hid.intro b1
  clear f1 b1
  go_wp2_with fail
  refine (addTask_any w.heap.size 0 0 7 Fr.m0 _ F1.out Fr.inv0).mono ?_
  rintro e W2 ⟨rfl, f2, r2⟩
  have F2 := Hid.intro f2
  have B2 := Hid.intro (r2.below B1.out (Nat.le_refl _) B1.out.size)
  clear f2 r2
  rw [Fr.wk_add0, errV_zero]
  go_wp2_with fail
  refine (wake_any w.heap.size 0 true _ _ F2.out (Fr.inv0.addTask 0 0 7)).mono ?_
  rintro e W3 ⟨rfl, m', k3, f3, r3⟩
  have B3 := Hid.intro (r3.below B2.out (Nat.le_refl _) B2.out.size)
  rw [(Fr.wk_start k3).1, errV_zero]
  clear k3 f3 r3
  by_cases k0 : 15 < n0
  · have k0' : (15 : Int) < (n0 : Int) := by omega
    go_wp2
    go_ret
    exact ⟨rfl, B3.out⟩
  · have d : decide ((n1 : Int) ≤ 150) = false := by simp; omega
    have k0' : decide ((15 : Int) < (n0 : Int)) = false := by simp; omega
    go_wp2_with fail
    refine (light_any _ _ _ _ _).mono ?_
    rintro e W4 ⟨rfl, hW4⟩
    subst W4
    rw [d]
    go_wp2
    go_ret
    exact ⟨rfl, B3.out⟩

end Go.Proofs.Ytkbfmjdfhacikaa

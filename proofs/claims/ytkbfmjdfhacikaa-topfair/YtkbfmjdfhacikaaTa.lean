/- TopFair: what the law has in its hands. -/
import Derived.Test.YtkbfmjdfhacikaaTf
import Derived.Test.YtkbfmjdfhacikaaAr
namespace Go.Proofs.Ytkbfmjdfhacikaa
open Go.RowKit
open Fr (Un M)

theorem Hid.two {p q : Prop} (h : p) (k : q) : Hid (p ∧ q) := ⟨h, k⟩
def natF (f : Nat → Nat) : Nat → Int := fun i => (f i : Int)
theorem natF_up (f : Nat → Nat) (i v : Nat) : updZ (natF f) i (v : Int) = natF (Fr.up' f i v) := by funext j; unfold updZ natF Fr.up'; split <;> rfl
/-- The sched at b; weights, groups, the groups' weights from c on. -/
structure Fqq (w W : World) (b c : Nat) (m : M) (wt gf gw : Nat → Nat) : Prop where
  bel : Below w.heap.size w W
  le : w.heap.size ≤ b
  lt : b < c
  fair : Fair W b m
  wtA : ZAt W c 20 92 (natF wt)
  gfA : ZAt W (c + 1) 20 92 (natF gf)
  gwA : ZAt W (c + 1 + 1) 4 93 (natF gw)
section
variable {w W W' : World} {b c : Nat} {m m' : M} {wt gf gw : Nat → Nat}
theorem Fqq.frm (h : Fqq w W b c m wt gf gw) (f : Fair W' b m') (r : Frm b W W') : Fqq w W' b c m' wt gf gw := by
  have l := h.gwA.lt
  have l2 := h.lt
  have hl := h.le
  exact ⟨r.below h.bel hl (by omega), hl, l2, f, h.wtA.same (r.block _ (by omega) (by omega)), h.gfA.same (r.block _ (by omega) (by omega)), h.gwA.same (r.block _ (by omega) (by omega))⟩
theorem Fqq.alloc (h : Fqq w W b c m wt gf gw) (o : Obj) : Fqq w (W.alloc o) b c m wt gf gw := by
  have l := h.gwA.lt
  have l2 := h.lt
  have hl := h.le
  have e : ∀ k, k < W.heap.size → (W.alloc o).heap[k]? = W.heap[k]? := fun k hk => Below.heap_alloc W o k hk
  exact ⟨h.bel.alloc (by omega) o, hl, l2, h.fair.same (e _ (by omega)), h.wtA.same (e _ (by omega)), h.gfA.same (e _ (by omega)), h.gwA.same (e _ (by omega))⟩
theorem Fqq.drewN (h : Fqq w W b c m wt gf gw) (n : Nat) : Fqq w (W.drewN n) b c m wt gf gw := ⟨below_drewN h.bel n, h.le, h.lt, h.fair.drewN n, h.wtA, h.gfA, h.gwA⟩
/-- A block behind them has turned. -/
theorem Fqq.setO (h : Fqq w W b c m wt gf gw) (d i : Nat) (v : Value) (hd : c + 1 + 1 < d) : Fqq w (W.setCell ⟨d, i, none⟩ v) b c m wt gf gw := by
  have l2 := h.lt
  have hl := h.le
  exact ⟨h.bel.setCell (by show _ ≤ d; omega) _, hl, l2, h.fair.same (setBlk _ _ _ _ (by omega)), h.wtA.same (setBlk _ _ _ _ (by omega)), h.gfA.same (setBlk _ _ _ _ (by omega)), h.gwA.same (setBlk _ _ _ _ (by omega))⟩
theorem Fqq.setWt (h : Fqq w W b c m wt gf gw) (i v : Nat) (hi : i < 20) : Fqq w (W.setCell ⟨c, i, none⟩ (.int .i64 (v : Int))) b c m (Fr.up' wt i v) gf gw := by
  have l2 := h.lt
  have hl := h.le
  refine ⟨h.bel.setCell (by show _ ≤ c; omega) _, hl, l2, h.fair.same (setBlk _ _ _ _ (by omega)), ?_, h.gfA.same (setBlk _ _ _ _ (by omega)), h.gwA.same (setBlk _ _ _ _ (by omega))⟩
  rw [← natF_up]; exact h.wtA.set i v hi
theorem Fqq.setGf (h : Fqq w W b c m wt gf gw) (i v : Nat) (hi : i < 20) : Fqq w (W.setCell ⟨c + 1, i, none⟩ (.int .i64 (v : Int))) b c m wt (Fr.up' gf i v) gw := by
  have l2 := h.lt
  have hl := h.le
  refine ⟨h.bel.setCell (by show _ ≤ c + 1; omega) _, hl, l2, h.fair.same (setBlk _ _ _ _ (by omega)), h.wtA.same (setBlk _ _ _ _ (by omega)), ?_, h.gwA.same (setBlk _ _ _ _ (by omega))⟩
  rw [← natF_up]; exact h.gfA.set i v hi
theorem Fqq.setGw (h : Fqq w W b c m wt gf gw) (i v : Nat) (hi : i < 4) : Fqq w (W.setCell ⟨c + 1 + 1, i, none⟩ (.int .i64 (v : Int))) b c m wt gf (Fr.up' gw i v) := by
  have l2 := h.lt
  have hl := h.le
  refine ⟨h.bel.setCell (by show _ ≤ c + 1 + 1; omega) _, hl, l2, h.fair.same (setBlk _ _ _ _ (by omega)), h.wtA.same (setBlk _ _ _ _ (by omega)), h.gfA.same (setBlk _ _ _ _ (by omega)), ?_⟩
  rw [← natF_up]; exact h.gwA.set i v hi
end
/-- .. and how often each ran, from d on. -/
structure FR (w W : World) (b c d : Nat) (m : M) (wt gf gw ran gr : Nat → Nat) : Prop where
  fs : Fqq w W b c m wt gf gw
  lt : c + 1 + 1 < d
  ranA : ZAt W d 20 92 (natF ran)
  grA : ZAt W (d + 1) 4 93 (natF gr)
section
variable {w W W' : World} {b c d : Nat} {m m' : M} {wt gf gw ran gr : Nat → Nat}
theorem FR.frm (h : FR w W b c d m wt gf gw ran gr) (f : Fair W' b m') (r : Frm b W W') : FR w W' b c d m' wt gf gw ran gr := by
  have l := h.grA.lt
  have l2 := h.lt
  have l3 := h.fs.lt
  exact ⟨h.fs.frm f r, h.lt, h.ranA.same (r.block _ (by omega) (by omega)), h.grA.same (r.block _ (by omega) (by omega))⟩
theorem FR.drewN (h : FR w W b c d m wt gf gw ran gr) (n : Nat) : FR w (W.drewN n) b c d m wt gf gw ran gr := ⟨h.fs.drewN n, h.lt, h.ranA, h.grA⟩
theorem FR.drew (h : FR w W b c d m wt gf gw ran gr) : FR w W.drew b c d m wt gf gw ran gr := h.drewN 1
theorem FR.setRan (h : FR w W b c d m wt gf gw ran gr) (i v : Nat) (hi : i < 20) : FR w (W.setCell ⟨d, i, none⟩ (.int .i64 (v : Int))) b c d m wt gf gw (Fr.up' ran i v) gr := by
  refine ⟨h.fs.setO d i _ h.lt, h.lt, ?_, h.grA.same (setBlk _ _ _ _ (by omega))⟩
  rw [← natF_up]; exact h.ranA.set i v hi
theorem FR.setGr (h : FR w W b c d m wt gf gw ran gr) (i v : Nat) (hi : i < 4) : FR w (W.setCell ⟨d + 1, i, none⟩ (.int .i64 (v : Int))) b c d m wt gf gw ran (Fr.up' gr i v) := by
  refine ⟨h.fs.setO (d + 1) i _ (by have := h.lt; omega), h.lt, h.ranA.same (setBlk _ _ _ _ (by omega)), ?_⟩
  rw [← natF_up]; exact h.grA.set i v hi
end
theorem zeroF20 : arrZ 20 (natF (fun _ => 0)) = #[.int .i64 0, .int .i64 0, .int .i64 0, .int .i64 0, .int .i64 0, .int .i64 0, .int .i64 0, .int .i64 0, .int .i64 0, .int .i64 0, .int .i64 0, .int .i64 0, .int .i64 0, .int .i64 0, .int .i64 0, .int .i64 0, .int .i64 0, .int .i64 0, .int .i64 0, .int .i64 0] := by kernel_rfl
theorem zeroF4 : arrZ 4 (natF (fun _ => 0)) = #[.int .i64 0, .int .i64 0, .int .i64 0, .int .i64 0] := by kernel_rfl
theorem fs_start {w W : World} {b : Nat} {m : M} (hb : Below w.heap.size w W) (hl : w.heap.size ≤ b) (hF : Fair W b m) :
    Fqq w (((W.alloc (.cells (arrZ 20 (natF (fun _ => 0))) 92)).alloc (.cells (arrZ 20 (natF (fun _ => 0))) 92)).alloc (.cells (arrZ 4 (natF (fun _ => 0))) 93)) b W.heap.size m (fun _ => 0) (fun _ => 0) (fun _ => 0) := by
  have hlt := hF.lt
  have hs := hb.size
  refine ⟨((hb.alloc hs _).alloc (by simp; omega) _).alloc (by simp; omega) _, hl, hlt, hF.same ?_, ?_, ?_, ?_⟩
  · show (((W.heap.push _).push _).push _)[b]? = W.heap[b]?
    simp only [Array.getElem?_push, Array.size_push]
    rw [if_neg (by omega), if_neg (by omega), if_neg (by omega)]
  · show (((W.heap.push _).push _).push _)[W.heap.size]? = _
    simp only [Array.getElem?_push, Array.size_push]
    rw [if_neg (by omega), if_neg (by omega), if_pos trivial]
  · show (((W.heap.push _).push _).push _)[W.heap.size + 1]? = _
    simp only [Array.getElem?_push, Array.size_push]
    rw [if_neg (by omega), if_pos trivial]
  · show (((W.heap.push _).push _).push _)[W.heap.size + 1 + 1]? = _
    simp only [Array.getElem?_push, Array.size_push]
    rw [if_pos trivial]
theorem fr_start {w W : World} {b c : Nat} {m : M} {wt gf gw : Nat → Nat} (h : Fqq w W b c m wt gf gw) :
    FR w ((W.alloc (.cells (arrZ 20 (natF (fun _ => 0))) 92)).alloc (.cells (arrZ 4 (natF (fun _ => 0))) 93)) b c W.heap.size m wt gf gw (fun _ => 0) (fun _ => 0) := by
  refine ⟨(h.alloc _).alloc _, h.gwA.lt, ?_, ?_⟩
  · show ((W.heap.push _).push _)[W.heap.size]? = _
    simp only [Array.getElem?_push, Array.size_push]
    rw [if_neg (by omega), if_pos trivial]
  · show ((W.heap.push _).push _)[W.heap.size + 1]? = _
    simp only [Array.getElem?_push, Array.size_push]
    rw [if_pos trivial]

namespace Fr
/-- How often the first n ran. -/
def ranF (m : M) (n : Nat) : Nat → Nat := fun i => if i < n then (m.u (10 + i)).ran else 0
theorem ranF_at {m : M} {n i : Nat} (h : i < n) : ranF m n i = (m.u (10 + i)).ran := if_pos h
theorem ranF_zr {m : M} (z : Zr m) {n : Nat} (hn : n ≤ 12) : ranF m n = fun _ => 0 := by
  funext i; unfold ranF; split
  · exact (z.2 (10 + i) (by omega)).2.2
  · rfl
theorem ranF_up {m m' : M} {n y : Nat} (hy : y < n) (h : ∀ i, i < n → (m'.u (10 + i)).ran = (m.u (10 + i)).ran + if i = y then 1 else 0) : ranF m' n = up' (ranF m n) y ((m.u (10 + y)).ran + 1) := by
  funext i; unfold ranF up'
  by_cases e : i = y
  · rw [if_pos e, if_pos (by omega), h i (by omega), if_pos e, e]
  · rw [if_neg e]
    show _ = if i < n then _ else _
    by_cases e2 : i < n
    · rw [if_pos e2, if_pos e2, h i e2, if_neg e, Nat.add_zero]
    · rw [if_neg e2, if_neg e2]
theorem Tf.wtb {m : M} {j n k : Nat} {wt gf gw : Nat → Nat} (h : Tf m j n k wt gf gw) {i : Nat} (hi : i < n) : 1 ≤ wt i ∧ wt i ≤ 1000 := by
  have := h.inv.wt (10 + i) (by omega) (by have := h.n12; omega) (h.hT hi)
  rw [(h.inT i hi).2.1] at this; exact this
theorem Tf.gwb {m : M} {j n k : Nat} {wt gf gw : Nat → Nat} (h : Tf m j n k wt gf gw) {g : Nat} (g0 : 0 < g) (hg : g < j) : 1 ≤ gw g ∧ gw g ≤ 1000 := by
  have := h.inv.wt g g0 (by have := h.j4; omega) (h.hG g0 hg)
  rw [(h.inG g g0 hg).2] at this; exact this
theorem Tf.ranb {m : M} {j n k : Nat} {wt gf gw : Nat → Nat} (h : Tf m j n k wt gf gw) {i : Nat} (hi : i < n) : ranF m n i ≤ m.now := by
  rw [ranF_at hi]; exact (h.inv.tm (10 + i) (by have := h.n12; omega)).2.2.2
/-- A first look: one task runs. -/
theorem tf_one {m1 m2 : M} {r : Int} (k : WakeTo (addTaskM m0 0 0 1) 0 true m1) (t : Tick m1 r m2) : addTaskE m0 0 0 1 = 0 ∧ taskE (addTaskM m0 0 0 1) 0 = 0 ∧ Inv m1 ∧ m1.now = 0 ∧ r = 0 := by
  have e0 : addTaskE m0 0 0 1 = 0 := by decide
  have a := tf0.1.addTask tf0.2 (g := 0) (w := 1) (by omega) e0
  have b := a.1.wake (k := 0) a.2.1 (by omega) k
  have c := b.1.tick (even_zr b.2 b.1) t
  refine ⟨e0, taskE_nat (n := 0) (by omega) (a.1.hT (i := 0) (by omega)), b.1.inv, b.2.1, ?_⟩
  rcases c.2.2.2 with ⟨h, _, _⟩ | ⟨y, hy, e, _⟩
  · omega
  · omega
theorem tf_one' {m1 : M} (k : WakeTo (addTaskM m0 0 0 1) 0 true m1) : addTaskE m0 0 0 1 = 0 ∧ taskE (addTaskM m0 0 0 1) 0 = 0 ∧ Inv m1 ∧ m1.now = 0 := by
  have e0 : addTaskE m0 0 0 1 = 0 := by decide
  have a := tf0.1.addTask tf0.2 (g := 0) (w := 1) (by omega) e0
  have b := a.1.wake (k := 0) a.2.1 (by omega) k
  exact ⟨e0, taskE_nat (n := 0) (by omega) (a.1.hT (i := 0) (by omega)), b.1.inv, b.2.1⟩
end Fr

set_option maxRecDepth 100000 in
set_option maxHeartbeats 1000000 in
theorem tt_far (a0 a1 : Option Addr) (n0 n1 c0 c1 : Nat) (T : Int) (w : World) (h : 12 < n0 ∨ 12 < n1 ∨ T < 0 ∨ 500 < T) (hm0 : n0 ≤ maxLen) (hm1 : n1 ≤ maxLen) :
    Calls Try.prog 8 #[.slice a0 n0 c0, .slice a1 n1 c1, .int .i64 T] w fun e w' => e = .returned (.bool true) ∧ Below w.heap.size w w' := by
  unfold maxLen at hm0 hm1
  go_enter Try.func8, Try.ntmps8
  go_wp2_with fail
  refine (new_any _).mono ?_
  rintro e W1 ⟨rfl, f1, b1, _⟩
  have F1 := Hid.intro f1
  have B1 := Hid.intro b1
  clear f1 b1
  go_wp2_with fail
  refine (addTask_any w.heap.size 0 0 1 Fr.m0 _ F1.out Fr.inv0).mono ?_
  rintro e W2 ⟨rfl, f2, r2⟩
  have F2 := Hid.intro f2
  have B2 := Hid.intro (r2.below B1.out (Nat.le_refl _) B1.out.size)
  clear f2 r2
  rw [show Fr.addTaskE Fr.m0 0 0 1 = 0 by decide, errV_zero]
  go_wp2_with fail
  refine (wake_any w.heap.size 0 true _ _ F2.out (Fr.inv0.addTask 0 0 1)).mono ?_
  rintro e W3 ⟨rfl, m', k3, f3, r3⟩
  have B3 := Hid.intro (r3.below B2.out (Nat.le_refl _) B2.out.size)
  have F3 := Hid.intro f3
  have K3 := Hid.intro k3
  rw [(Fr.tf_one' k3).2.1, errV_zero]
  clear k3 f3 r3
  go_wp2_with fail
  refine (tick_any w.heap.size m' _ F3.out (Fr.tf_one' K3.out).2.2.1 (by rw [(Fr.tf_one' K3.out).2.2.2]; omega)).mono ?_
  rintro e W4 ⟨r, m4, rfl, t4, f4, r4⟩
  have B4 := Hid.intro (r4.below B3.out (Nat.le_refl _) B3.out.size)
  rw [(Fr.tf_one K3.out t4).2.2.2.2]
  clear t4 f4 r4
  by_cases k0 : 12 < n0
  · have k0' : (12 : Int) < (n0 : Int) := by omega
    go_wp2
    go_ret
    exact ⟨rfl, B4.out⟩
  · have k0' : decide ((12 : Int) < (n0 : Int)) = false := by simp; omega
    by_cases k1 : 12 < n1
    · have k1' : (12 : Int) < (n1 : Int) := by omega
      clear h
      go_wp2
      go_ret
      exact ⟨rfl, B4.out⟩
    · have k1' : decide ((12 : Int) < (n1 : Int)) = false := by simp; omega
      by_cases k2 : T < 0
      · clear h
        go_wp2
        go_ret
        exact ⟨rfl, B4.out⟩
      · have k2' : decide (T < 0) = false := by simp; omega
        have k3 : 500 < T := by omega
        clear h
        go_wp2
        go_ret
        exact ⟨rfl, B4.out⟩

end Go.Proofs.Ytkbfmjdfhacikaa

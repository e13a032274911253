/- The tree of groups in memory; the way to the root. -/
import Derived.Test.YtgabceeekkcekaaRef
import Derived.RangeFuncNested
import Derived.RangeFuncBound
import Derived.RangeFuncCalls
import Derived.RangeFuncLeaves
import Derived.RangeFuncFrom
import Derived.Shelf.Abstract
import Derived.Shelf.RegionOpen
import Derived.OwnWalkIn
import Derived.TacticsInMore
import Derived.LoopNIn
import Derived.LoopIn
namespace Go.Proofs.Ytgabceeekkcekaa
open Go.RowKit Go.Shelf

/-- A group: is it there, its parent, its limits, what is charged to itself. -/
structure Gp where
  there : Bool
  par : Int
  lp : Int
  lq : Int
  op : Int
  oq : Int
def Gp.cell (g : Gp) : Nat → Value
  | 0 => .bool g.there
  | 1 => .int .i64 g.par
  | 2 => .int .i64 g.lp
  | 3 => .int .i64 g.lq
  | 4 => .int .i64 g.op
  | _ => .int .i64 g.oq
def encT (t : Nat → Gp) : Array Value := ((List.range 60).map fun i => (t (i / 6)).cell (i % 6)).toArray
theorem encT_size (t : Nat → Gp) : (encT t).size = 60 := by simp [encT]
theorem encT_at (t : Nat → Gp) (n j : Nat) (hn : n < 10) (hj : j < 6) : (encT t)[n * 6 + j]? = some ((t n).cell j) := by
  have e1 : (n * 6 + j) / 6 = n := by omega
  have e2 : (n * 6 + j) % 6 = j := by omega
  have e3 : n * 6 + j < 60 := by omega
  simp [encT, e3, e1, e2]
theorem encT_ext (t : Nat → Gp) (c : Array Value) (hs : c.size = 60) (h : ∀ n j, n < 10 → j < 6 → c[n * 6 + j]? = some ((t n).cell j)) : c = encT t := by
  apply Array.ext_getElem?
  intro i
  rcases Nat.lt_or_ge i 60 with hi | hi
  · have e : i = i / 6 * 6 + i % 6 := by omega
    rw [e, h (i / 6) (i % 6) (by omega) (by omega), encT_at t (i / 6) (i % 6) (by omega) (by omega)]
  · rw [Array.getElem?_eq_none (by omega), Array.getElem?_eq_none (by rw [encT_size]; omega)]

def TAt (w : World) (b : Nat) (t : Nat → Gp) : Prop := w.heap[b]? = some (.cells (encT t) 96 (0, 0))
def updT (t : Nat → Gp) (n : Nat) (g : Gp) : Nat → Gp := fun k => if k = n then g else t k
theorem updT_same (t : Nat → Gp) (n : Nat) (g : Gp) : updT t n g n = g := by simp [updT]
theorem updT_ne (t : Nat → Gp) (n k : Nat) (g : Gp) (h : k ≠ n) : updT t n g k = t k := by simp [updT, h]
section
variable {w : World} {b : Nat} {t : Nat → Gp}
theorem TAt.cell (h : TAt w b t) (n j : Nat) (hn : n < 10) (hj : j < 6) : w.cell? ⟨b, n * 6 + j, none⟩ = some ((t n).cell j) := by rw [heap_cell h, encT_at t n j hn hj]
theorem TAt.frozen (h : TAt w b t) (o : Nat) : w.frozen? ⟨b, o, none⟩ = false := heap_frozen h o
theorem TAt.drewN (h : TAt w b t) (n : Nat) : TAt (w.drewN n) b t := h
theorem TAt.drew (h : TAt w b t) : TAt w.drew b t := h
theorem TAt.below {w' : World} (h : TAt w b t) {B : Nat} (hB : Below B w w') (hb : b < B) : TAt w' b t := (hB.block b hb).trans h
theorem TAt.lt (h : TAt w b t) : b < w.heap.size := (Array.getElem?_eq_some_iff.1 h).1
theorem TAt.set (h : TAt w b t) (n j : Nat) (hn : n < 10) (hj : j < 6) (v : Value) (g : Gp) (hg : ∀ i, i < 6 → g.cell i = if i = j then v else (t n).cell i) : TAt (w.setCell ⟨b, n * 6 + j, none⟩ v) b (updT t n g) := by
  unfold TAt
  rw [heap_set h]
  refine congrArg (fun c => some (Obj.cells c 96 (0, 0))) ?_
  refine encT_ext _ _ (by simp [encT_size]) fun m i hm hi => ?_
  by_cases e : m = n
  · subst e
    rw [updT_same, hg i hi]
    by_cases e2 : i = j
    · subst e2
      rw [Array.getElem?_setIfInBounds_self_of_lt (by rw [encT_size]; omega), if_pos rfl]
    · rw [Array.getElem?_setIfInBounds_ne (by omega), encT_at t m i hm hi, if_neg e2]
  · rw [updT_ne _ _ _ _ e, Array.getElem?_setIfInBounds_ne (by omega), encT_at t m i hm hi]
end

/-- Is it a group? -/
def valid (t : Nat → Gp) (g : Int) : Prop := 0 ≤ g ∧ g < 10 ∧ (t g.toNat).there = true
/-- L is the way from g up, as far as there are groups. -/
def Way (t : Nat → Gp) : Int → List Nat → Prop
  | g, [] => ¬ valid t g
  | g, x :: L => g = x ∧ x < 10 ∧ (t x).there = true ∧ Way t (t x).par L
theorem Way.unique {t : Nat → Gp} : ∀ {g : Int} {L M : List Nat}, Way t g L → Way t g M → L = M
  | _, [], [], _, _ => rfl
  | g, [], x :: M, h, ⟨e, h1, h2, _⟩ => absurd ⟨by omega, by omega, by rw [e]; exact h2⟩ h
  | g, x :: L, [], ⟨e, h1, h2, _⟩, h => absurd ⟨by omega, by omega, by rw [e]; exact h2⟩ h
  | g, x :: L, y :: M, ⟨e, _, _, h⟩, ⟨e', _, _, h'⟩ => by
    obtain rfl : x = y := by omega
    rw [Way.unique h h']

set_option maxHeartbeats 400000 in
theorem wrong_bad (b : Nat) (g : Int) (w : World) (hg : g < 0 ∨ 10 ≤ g) : Calls Try.prog 54 #[.pointer (some ⟨b, 0, none⟩), .int .i64 g] w fun e w' => e = .returned (.iface 81 (.int .i64 1)) ∧ w' = w := by
  by_cases h : g < 0
  · go_enter Try.func54, Try.ntmps54
    go_wp2
    go_ret
    exact ⟨rfl, rfl⟩
  · have h1 : decide (g < 0) = false := by simp; omega
    have h2 : 10 ≤ g := by omega
    clear h hg
    go_enter Try.func54, Try.ntmps54
    go_wp2
    go_ret
    exact ⟨rfl, rfl⟩
set_option maxHeartbeats 400000 in
theorem wrong_none (b g : Nat) (t : Nat → Gp) (w : World) (h : TAt w b t) (hg : g < 10) (hh : (t g).there = false) : Calls Try.prog 54 #[.pointer (some ⟨b, 0, none⟩), .int .i64 g] w fun e w' => e = .returned (.iface 81 (.int .i64 2)) ∧ w' = w := by
  have c : w.cell? ⟨b, g * 6, none⟩ = some (.bool false) := by have := h.cell g 0 hg (by omega); rw [show (t g).cell 0 = .bool (t g).there from rfl, hh] at this; exact this
  have h1 : (g : Int) < 10 := by omega
  have h2 : ¬ (10 : Int) ≤ (g : Int) := by omega
  clear h hh
  go_enter Try.func54, Try.ntmps54
  go_wp2
  go_ret
  exact ⟨rfl, rfl⟩
set_option maxHeartbeats 400000 in
theorem wrong_ok (b g : Nat) (t : Nat → Gp) (w : World) (h : TAt w b t) (hg : g < 10) (hh : (t g).there = true) : Calls Try.prog 54 #[.pointer (some ⟨b, 0, none⟩), .int .i64 g] w fun e w' => e = .returned .nilIface ∧ w' = w := by
  have c : w.cell? ⟨b, g * 6, none⟩ = some (.bool true) := by have := h.cell g 0 hg (by omega); rw [show (t g).cell 0 = .bool (t g).there from rfl, hh] at this; exact this
  have h1 : (g : Int) < 10 := by omega
  have h2 : ¬ (10 : Int) ≤ (g : Int) := by omega
  clear h hh
  go_enter Try.func54, Try.ntmps54
  go_wp2
  go_ret
  exact ⟨rfl, rfl⟩
/-- What is wrong with it: 0: nothing. -/
def wr (t : Nat → Gp) (g : Int) : Int := if g < 0 ∨ 10 ≤ g then 1 else if (t g.toNat).there = true then 0 else 2
theorem wrong_not (b : Nat) (g : Int) (t : Nat → Gp) (w : World) (h : TAt w b t) (hg : ¬ valid t g) : Calls Try.prog 54 #[.pointer (some ⟨b, 0, none⟩), .int .i64 g] w fun e w' => (∃ n, e = .returned (.iface 81 (.int .i64 n))) ∧ w' = w := by
  by_cases hb : g < 0 ∨ 10 ≤ g
  · exact (wrong_bad b g w hb).mono fun e w' ⟨h1, h2⟩ => ⟨⟨1, h1⟩, h2⟩
  · obtain ⟨n, rfl⟩ := Int.eq_ofNat_of_zero_le (show 0 ≤ g by omega)
    have hf : (t n).there = false := by
      cases hh : (t n).there
      · rfl
      · exact absurd ⟨by omega, by omega, hh⟩ hg
    exact (wrong_none b n t w h (by omega) hf).mono fun e w' ⟨h1, h2⟩ => ⟨⟨2, h1⟩, h2⟩

/-- t.way(n): both are boxed; the function value captures the boxes. -/
theorem way_any (b : Nat) (n : Int) (w : World) : Calls Try.prog 66 #[.pointer (some ⟨b, 0, none⟩), .int .i64 n] w fun e w' =>
    e = .returned (.func (.func 76) #[] #[.pointer (some ⟨w.heap.size + 1, 0, none⟩), .pointer (some ⟨w.heap.size, 0, none⟩)]) ∧ w' = (w.alloc (.cells #[.pointer (some ⟨b, 0, none⟩)] 53)).alloc (.cells #[.int .i64 n] 3) := by
  go_enter Try.func66, Try.ntmps66
  go_wp2
  go_ret
  exact ⟨rfl, rfl⟩

end Go.Proofs.Ytgabceeekkcekaa

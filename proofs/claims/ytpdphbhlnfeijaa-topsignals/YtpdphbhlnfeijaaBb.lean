/- Arrays of integers, of bools, in memory. -/
import Derived.Test.YtpdphbhlnfeijaaBa
namespace Go.Proofs.Ytpdphbhlnfeijaa
open Go.RowKit

/-- The cells of arrays of integers, of bools. -/
def arrZ (n : Nat) (f : Nat → Int) : Array Value := ((List.range n).map fun i => Value.int .i64 (f i)).toArray
def arrB (n : Nat) (g : Nat → Bool) : Array Value := ((List.range n).map fun i => Value.bool (g i)).toArray
def updZ (f : Nat → Int) (i : Nat) (v : Int) : Nat → Int := fun j => if j = i then v else f j
def updB (g : Nat → Bool) (i : Nat) (v : Bool) : Nat → Bool := fun j => if j = i then v else g j
theorem updZ_same (f : Nat → Int) (i : Nat) (v : Int) : updZ f i v i = v := by simp [updZ]
theorem updZ_ne (f : Nat → Int) (i : Nat) (v : Int) (j : Nat) (h : j ≠ i) : updZ f i v j = f j := by simp [updZ, h]
theorem updB_same (f : Nat → Bool) (i : Nat) (v : Bool) : updB f i v i = v := by simp [updB]
theorem updB_ne (f : Nat → Bool) (i : Nat) (v : Bool) (j : Nat) (h : j ≠ i) : updB f i v j = f j := by simp [updB, h]
theorem arrZ_at (n : Nat) (f : Nat → Int) (i : Nat) (h : i < n) : (arrZ n f)[i]? = some (.int .i64 (f i)) := by simp [arrZ, h]
theorem arrB_at (n : Nat) (g : Nat → Bool) (i : Nat) (h : i < n) : (arrB n g)[i]? = some (.bool (g i)) := by simp [arrB, h]
theorem arrZ_set (n : Nat) (f : Nat → Int) (i : Nat) (v : Int) (h : i < n) : (arrZ n f).setIfInBounds i (.int .i64 v) = arrZ n (updZ f i v) := by
  apply Array.ext_getElem?
  intro j
  rcases Nat.lt_or_ge j n with hj | hj
  · rw [arrZ_at n _ j hj]
    by_cases e : j = i
    · subst e; rw [Array.getElem?_setIfInBounds_self_of_lt (by simp [arrZ, hj]), updZ_same]
    · rw [Array.getElem?_setIfInBounds_ne (by omega), arrZ_at n f j hj, updZ_ne _ _ _ _ e]
  · rw [Array.getElem?_eq_none (by simp [arrZ]; omega), Array.getElem?_eq_none (by simp [arrZ]; omega)]
theorem arrB_set (n : Nat) (f : Nat → Bool) (i : Nat) (v : Bool) (h : i < n) : (arrB n f).setIfInBounds i (.bool v) = arrB n (updB f i v) := by
  apply Array.ext_getElem?
  intro j
  rcases Nat.lt_or_ge j n with hj | hj
  · rw [arrB_at n _ j hj]
    by_cases e : j = i
    · subst e; rw [Array.getElem?_setIfInBounds_self_of_lt (by simp [arrB, hj]), updB_same]
    · rw [Array.getElem?_setIfInBounds_ne (by omega), arrB_at n f j hj, updB_ne _ _ _ _ e]
  · rw [Array.getElem?_eq_none (by simp [arrB]; omega), Array.getElem?_eq_none (by simp [arrB]; omega)]
/-- An array of integers, of bools, lies in block b. -/
def ZAt (w : World) (b n : Nat) (T : TypeId) (f : Nat → Int) : Prop := w.heap[b]? = some (.cells (arrZ n f) T (0, 0))
def BAt (w : World) (b n : Nat) (T : TypeId) (f : Nat → Bool) : Prop := w.heap[b]? = some (.cells (arrB n f) T (0, 0))
section
variable {w : World} {b n : Nat} {T : TypeId}
theorem ZAt.cell {f : Nat → Int} (h : ZAt w b n T f) (i : Nat) (hi : i < n) : w.cell? ⟨b, i, none⟩ = some (.int .i64 (f i)) := by rw [cell_blk h, arrZ_at n f i hi]
theorem BAt.cell {f : Nat → Bool} (h : BAt w b n T f) (i : Nat) (hi : i < n) : w.cell? ⟨b, i, none⟩ = some (.bool (f i)) := by rw [cell_blk h, arrB_at n f i hi]
theorem ZAt.frozen {f : Nat → Int} (h : ZAt w b n T f) (i : Nat) : w.frozen? ⟨b, i, none⟩ = false := frozen_blk h i
theorem BAt.frozen {f : Nat → Bool} (h : BAt w b n T f) (i : Nat) : w.frozen? ⟨b, i, none⟩ = false := frozen_blk h i
theorem ZAt.set {f : Nat → Int} (h : ZAt w b n T f) (i : Nat) (v : Int) (hi : i < n) : ZAt (w.setCell ⟨b, i, none⟩ (.int .i64 v)) b n T (updZ f i v) := by
  unfold ZAt; rw [blk_set h, arrZ_set n f i v hi]
theorem BAt.set {f : Nat → Bool} (h : BAt w b n T f) (i : Nat) (v : Bool) (hi : i < n) : BAt (w.setCell ⟨b, i, none⟩ (.bool v)) b n T (updB f i v) := by
  unfold BAt; rw [blk_set h, arrB_set n f i v hi]
theorem ZAt.same {w' : World} {f : Nat → Int} (h : ZAt w b n T f) (e : w'.heap[b]? = w.heap[b]?) : ZAt w' b n T f := e.trans h
theorem BAt.same {w' : World} {f : Nat → Bool} (h : BAt w b n T f) (e : w'.heap[b]? = w.heap[b]?) : BAt w' b n T f := e.trans h
theorem ZAt.lt {f : Nat → Int} (h : ZAt w b n T f) : b < w.heap.size := (Array.getElem?_eq_some_iff.1 h).1
theorem BAt.lt {f : Nat → Bool} (h : BAt w b n T f) : b < w.heap.size := (Array.getElem?_eq_some_iff.1 h).1
end
end Go.Proofs.Ytpdphbhlnfeijaa

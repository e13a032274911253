/- The law FairSays: both scheds, in step; 'scheduled', act by act. -/
import Derived.Test.YtgabfkaadflciaaGd
import Derived.Test.YtgabfkaadflciaaKa
import Derived.Deep.RegionHeld3
namespace Go.Proofs.Ytgabfkaadflciaa
open Go.RowKit
open Fr (Un M)

namespace Fr
theorem taskE_ge (m : M) (z : Int) : 0 ≤ taskE m z := by rcases taskE_cases m z with h | h <;> omega
theorem groupE_ge (m : M) (z : Int) : 0 ≤ groupE m z := by rcases groupE_cases m z with h | h <;> omega
theorem lowerE_ge (m : M) (z : Int) : 0 ≤ lowerE m z := by unfold lowerE; have := groupE_ge m z; split; split <;> omega; omega
theorem quotaE_ge (m : M) (z q p : Int) : 0 ≤ quotaE m z q p := by unfold quotaE; have := lowerE_ge m z; split; split <;> omega; omega
theorem addE_ge (m : M) (u : Nat) (g wt : Int) : 0 ≤ addE m u g wt := by unfold addE; have := groupE_ge m g; split; omega; split <;> omega
theorem addGroupE_ge (m : M) (z g wt : Int) : 0 ≤ addGroupE m z g wt := by unfold addGroupE; have := addE_ge m z.toNat g wt; split <;> omega
theorem addTaskE_ge (m : M) (z g wt : Int) : 0 ≤ addTaskE m z g wt := by unfold addTaskE; have := addE_ge m (10 + z.toNat) g wt; split <;> omega
theorem dropGroupE_ge (m : M) (z : Int) : 0 ≤ dropGroupE m z := by unfold dropGroupE; have := groupE_ge m z; split; split <;> omega; omega
theorem moveE_ge (m : M) (z g : Int) : 0 ≤ moveE m z g := by unfold moveE; have := groupE_ge m g; have := taskE_ge m z; split <;> omega
theorem addM_now (m : M) (e : Int) (u : Nat) (g wt : Int) : (addM m e u g wt).now = m.now := by unfold addM; split <;> rfl
theorem WakeTo.now {m m' : M} {z : Int} {on : Bool} (k : WakeTo m z on m') : m'.now = m.now := by
  rcases k with ⟨_, k⟩ | ⟨_, rfl⟩
  · exact (look_here k).1
  · rfl
theorem FreezeTo.now {m m' : M} {z : Int} {on : Bool} (k : FreezeTo m z on m') : m'.now = m.now := by
  rcases k with ⟨_, k⟩ | ⟨_, rfl⟩
  · exact (look_here k).1
  · rfl
theorem QuotaTo.now {m m' : M} {z q p : Int} (k : QuotaTo m z q p m') : m'.now = m.now := by
  rcases k with ⟨_, k⟩ | ⟨_, rfl⟩
  · exact (look_here k).1
  · rfl
theorem Sync.addGroup {m : M} (hI : Inv m) (hS : Sync m) (z g wt : Int) : Sync (addGroupM m z g wt) := by
  unfold addGroupM addM
  by_cases k : addGroupE m z g wt = 0
  · rw [if_pos k]
    unfold addGroupE at k
    by_cases k1 : z < 0 ∨ 10 ≤ z
    · rw [if_pos k1] at k; omega
    · rw [if_neg k1] at k
      obtain ⟨g', x, rfl, rfl, h1, h2, h3, h4, h5⟩ := addE_zero k
      rw [Int.toNat_natCast]
      exact hS.add hI (by omega) h5
  · rw [if_neg k]; exact hS
theorem Sync.addTask {m : M} (hI : Inv m) (hS : Sync m) (z g wt : Int) : Sync (addTaskM m z g wt) := by
  unfold addTaskM addM
  by_cases k : addTaskE m z g wt = 0
  · rw [if_pos k]
    unfold addTaskE at k
    by_cases k1 : z < 0 ∨ 20 ≤ z
    · rw [if_pos k1] at k; omega
    · rw [if_neg k1] at k
      obtain ⟨g', x, rfl, rfl, h1, h2, h3, h4, h5⟩ := addE_zero k
      rw [Int.toNat_natCast]
      exact hS.add hI (by omega) h5
  · rw [if_neg k]; exact hS
end Fr

/-- Only blocks b and r have turned, of those that were there. -/
structure Two (b r : Nat) (w w' : World) : Prop where
  os : w'.os = w.os
  tape : w'.tape = w.tape
  output : w'.output = w.output
  size : w.heap.size ≤ w'.heap.size
  block : ∀ k, k < w.heap.size → k ≠ b → k ≠ r → w'.heap[k]? = w.heap[k]?
section
variable {b r : Nat} {u v w : World}
theorem Two.refl (b r : Nat) (w : World) : Two b r w w := ⟨rfl, rfl, rfl, Nat.le_refl _, fun _ _ _ _ => rfl⟩
theorem Two.below (h : Below u.heap.size u v) : Two b r u v := ⟨h.os, h.tape, h.output, h.size, fun k hk _ _ => h.block k hk⟩
theorem Two.left (h : Two b r u v) (k : Frm b v w) : Two b r u w := ⟨k.os.trans h.os, k.tape.trans h.tape, k.output.trans h.output, Nat.le_trans h.size k.size, fun j hj h1 h2 => (k.block j (Nat.lt_of_lt_of_le hj h.size) h1).trans (h.block j hj h1 h2)⟩
theorem Two.right (h : Two b r u v) (k : Frm r v w) : Two b r u w := ⟨k.os.trans h.os, k.tape.trans h.tape, k.output.trans h.output, Nat.le_trans h.size k.size, fun j hj h1 h2 => (k.block j (Nat.lt_of_lt_of_le hj h.size) h2).trans (h.block j hj h1 h2)⟩
theorem Two.drew (h : Two b r u v) : Two b r u v.drew := ⟨h.os, h.tape, h.output, h.size, h.block⟩
theorem Two.trans (h : Two b r u v) (k : Two b r v w) : Two b r u w := ⟨k.os.trans h.os, k.tape.trans h.tape, k.output.trans h.output, Nat.le_trans h.size k.size, fun j hj h1 h2 => (k.block j (Nat.lt_of_lt_of_le hj h.size) h1 h2).trans (h.block j hj h1 h2)⟩
theorem Two.behind {B : Nat} {t : World} (h : Two b r u v) (k : Below B t u) (hb : B ≤ b) (hr : B ≤ r) (hs : B ≤ u.heap.size) : Below B t v := k.trans ⟨h.os, h.tape, h.output, h.size, fun j hj => h.block j (by omega) (by omega) (by omega)⟩
end
/-- The code's sched at b, the document's own at r: both are m. -/
structure FB (w : World) (b r : Nat) (m : M) : Prop where
  fair : Fair w b m
  ref : RAt w r m
  inv : Fr.Inv m
  syn : Fr.Sync m
  ne : b ≠ r
section
variable {w w' w4 w5 : World} {b r : Nat} {m m' : M}
theorem FB.below (h : FB w b r m) (k : Below w.heap.size w w') : FB w' b r m := ⟨h.fair.same (k.block b h.fair.lt), h.ref.below k, h.inv, h.syn, h.ne⟩
theorem FB.drew (h : FB w b r m) : FB w.drew b r m := ⟨h.fair.drew, h.ref.drew, h.inv, h.syn, h.ne⟩
theorem FB.ref' (h : FB w b r m) (k : Frm b w w') : RAt w' r m := h.ref.same (k.block r h.ref.lt (Ne.symm h.ne))
theorem FB.step (h : FB w b r m) (f4 : Fair w4 b m') (r5 : RAt w5 r m') (k5 : Frm r w4 w5) (i : Fr.Inv m') (s : Fr.Sync m') : FB w5 b r m' := ⟨f4.same (k5.block b f4.lt h.ne), r5, i, s, h.ne⟩
end
/-- What an act leaves: both are the same still. -/
def Both (w : World) (b r : Nat) (m : M) (w' : World) : Prop := ∃ m', FB w' b r m' ∧ m'.now ≤ m.now + 50 ∧ Two b r w w'
/-- The cells of an act, in a block of their own. -/
theorem act_cells {w : World} {ba : Nat} {T : TypeId} {cs : Array Value} (h : w.heap[ba]? = some (.cells cs T (0, 0))) (j : Nat) (v : Value) (e : cs[j]? = some v) : w.cell? ⟨ba, j, none⟩ = some v := by rw [cell_blk h]; exact e
end Go.Proofs.Ytgabfkaadflciaa

/- The document's own bank: a new one. -/
import Derived.Test.YtnppahmlifnnnabMe
namespace Go.Proofs.Ytnppahmlifnnnab
open Go.RowKit
open Bd (P)
open Mv (Bk)
def Mv.bk0 : Bk := ⟨Bd.b0, fun _ _ => 0, fun _ => 0⟩
def nzA : Array Value := ((List.range 577).map fun i => if i = 0 then Value.pointer none else if i < 513 then Value.int .u8 0 else .int .i64 0).toArray
set_option maxRecDepth 100000 in
theorem nz_eq : Try.zeroCells50 = nzA := by kernel_rfl
theorem nz_at (i : Nat) (h : i < 577) : nzA[i]? = some (if i = 0 then Value.pointer none else if i < 513 then Value.int .u8 0 else .int .i64 0) := by simp [nzA, h]
theorem n_new {w : World} {r q : Nat} (h : w.heap[r]? = some (.cells (nzA.setIfInBounds 0 (.pointer (some ⟨q, 0, none⟩))) 50 (0, 0))) (hp : KAt w q Bd.b0) (hne : q ≠ r) : NAt w r q Mv.bk0 := by
  refine ⟨⟨_, h, by simp [nzA]⟩, fun o ho => ?_, hp, hne⟩
  rw [cell_blk h]
  unfold cellNk
  by_cases c : o = 0
  · subst c; rw [Array.getElem?_setIfInBounds_self_of_lt (by simp [nzA]), if_pos rfl]
  · rw [Array.getElem?_setIfInBounds_ne (by omega), nz_at o ho, if_neg c, if_neg c]
    split <;> rfl
set_option maxRecDepth 100000 in
set_option maxHeartbeats 1000000 in
theorem newBank_any (w : World) : Calls Try.prog 12 #[] w fun e w' => ∃ r, e = .returned (.pointer (some ⟨r, 0, none⟩)) ∧ NAt w' r w.heap.size Mv.bk0 ∧ Below w.heap.size w w' ∧ w.heap.size < r := by
  go_enter Try.func12, Try.ntmps12
  go_wp2_with fail
  refine (newBlocks_any _).mono ?_
  rintro e w1 ⟨rfl, hk, hb, hs⟩
  have FIN : Hid (NAt (w1.alloc (.cells (Try.zeroCells50.setIfInBounds 0 (.pointer (some ⟨w.heap.size, 0, none⟩))) 50)) w1.heap.size w.heap.size Mv.bk0 ∧ Below w.heap.size w (w1.alloc (.cells (Try.zeroCells50.setIfInBounds 0 (.pointer (some ⟨w.heap.size, 0, none⟩))) 50)) ∧ w.heap.size < w1.heap.size) := Hid.intro (by
    rw [nz_eq]
    have bb : Below w1.heap.size w1 (w1.alloc (.cells (nzA.setIfInBounds 0 (.pointer (some ⟨w.heap.size, 0, none⟩))) 50)) := (Below.refl _ _).alloc (Nat.le_refl _) _
    exact ⟨n_new (heap_alloc_new w1 _) (hk.same (bb.block _ hs)) (by omega), hb.alloc (by omega) _, hs⟩)
  clear hk hb hs
  go_wp2_with fail
  go_ret
  exact ⟨_, rfl, FIN.out⟩
end Go.Proofs.Ytnppahmlifnnnab

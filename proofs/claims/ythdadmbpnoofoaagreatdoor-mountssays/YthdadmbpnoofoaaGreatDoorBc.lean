/- A slice that a call owns: a list of numbers. -/
import Derived.Test.YthdadmbpnoofoaaGreatDoorBa
namespace Go.Proofs.YthdadmbpnoofoaaGreatDoor
open Go.RowKit

/-- A slice that the call owns: the numbers of L. -/
structure LO (w : World) (L : List Nat) (v : Value) (wr : World) : Prop where
  bel : Below w.heap.size w wr
  own : wr.ownsRow w.heap.size 3 1 v L.length (rowOf L)
theorem LO.nil (w : World) : LO w [] (.slice none 0 0) w := ⟨Below.refl _ _, World.ownsRow_nil _ _ _ _⟩
theorem LO.more {w w1 wr : World} {L : List Nat} {gg cap N x : Nat} {l : Value} (h : LO w L l wr) (hN : L.length = N) (hl : w1.ownsRow w.heap.size 3 1 (.slice (some ⟨gg, 0, none⟩) (N + 1) cap) (N + 1) (rowOf L ++ [.int .i64 x])) (o : Obj) (hg : (wr.alloc o).grownBy w1 l.ownBlock) :
    LO w (L ++ [x]) (.slice (some ⟨gg, 0, none⟩) (N + 1) cap) w1 := by
  have hs := h.bel.size
  refine ⟨(h.bel.alloc hs o).grown hg (by simp; omega) (fun k e => (h.own.lt k e).1), ?_⟩
  have e2 : rowOf (L ++ [x]) = rowOf L ++ [.int .i64 x] := by simp [rowOf]
  rw [e2, show (L ++ [x]).length = N + 1 by simp [hN]]
  exact hl
theorem LO.cells {u w : World} {L : List Nat} {v : Value} (h : LO u L v w) (hl : 0 < L.length) : ∃ gg cap, v = .slice (some ⟨gg, 0, none⟩) L.length cap ∧ gg < w.heap.size ∧ ∀ i, i < L.length → w.cell? ⟨gg, 0 + i, none⟩ = some (.int .i64 ((L.getD i 0 : Nat) : Int)) := by
  have ho := h.own
  obtain ⟨gg, cap, hv, _, hg⟩ := ho.form hl
  refine ⟨gg, cap, hv, hg, fun i hi => ?_⟩
  rw [hv] at ho
  rw [Nat.zero_add, ho.cellAt i (by omega)]
  exact rowOf_at _ _ _ (by rw [List.getD_eq_getElem?_getD, List.getElem?_eq_getElem hi]; rfl)
end Go.Proofs.YthdadmbpnoofoaaGreatDoor

/- The code's forest: List. -/
import Derived.Test.YtfgnhldnmbfnkabTo
import Derived.Test.YtfgnhldnmbfnkabBc
namespace Go.Proofs.Ytfgnhldnmbfnkab
open Go.RowKit
open Go.Sort
open Tr (Fo Nd)

def stC (L : List ByteArray) : List Value := L.map Value.string
/-- A slice that the call owns: the texts of L. -/
structure SO (w : World) (L : List ByteArray) (v : Value) (wr : World) : Prop where
  bel : RowKit.Below w.heap.size w wr
  own : wr.ownsRow w.heap.size 9 1 v L.length (stC L)
  nil : L = [] → v = .slice none 0 0
theorem SO.start (w : World) : SO w [] (.slice none 0 0) w := ⟨Below.refl _ _, World.ownsRow_nil _ _ _ _, fun _ => rfl⟩
theorem SO.form {w wr : World} {L : List ByteArray} {v : Value} (h : SO w L v wr) : ∃ a c, v = .slice a L.length c := by
  rcases h.own.2 with ⟨e, e2⟩ | ⟨g, cap, _, e, _⟩
  · exact ⟨none, 0, by rw [e, e2]⟩
  · exact ⟨_, cap, e⟩
theorem SO.below {w wr w1 : World} {L : List ByteArray} {v : Value} (h : SO w L v wr) (b : RowKit.Below wr.heap.size wr w1) : SO w L v w1 :=
  ⟨h.bel.trans (b.mono h.bel.size), h.own.kept (row := none) ⟨b.os, b.tape, b.output, b.size, fun k hk _ => b.block k hk⟩ (Classical.em _), h.nil⟩
theorem SO.more {w w1 wr : World} {L : List ByteArray} {gg cap N : Nat} {l : Value} (h : SO w L l wr) (x : ByteArray) (hN : L.length = N) (hl : w1.ownsRow w.heap.size 9 1 (.slice (some ⟨gg, 0, none⟩) (N + 1) cap) (N + 1) (stC L ++ [.string x])) (o : Obj) (hg : (wr.alloc o).grownBy w1 l.ownBlock) :
    SO w (L ++ [x]) (.slice (some ⟨gg, 0, none⟩) (N + 1) cap) w1 := by
  have hs := h.bel.size
  refine ⟨(h.bel.alloc hs o).grown hg (by simp; omega) (fun k e => (h.own.lt k e).1), ?_, fun e => by simp at e⟩
  rw [show stC (L ++ [x]) = stC L ++ [.string x] by simp [stC], show (L ++ [x]).length = N + 1 by simp [hN]]
  exact hl
theorem infoSt : ∃ i, Try.prog.info? 9 = some i ∧ i.zero = some (.string ⟨#[]⟩) ∧ i.size = 1 ∧ i.bytes = 16 := ⟨(Try.prog.info? 9).get (by kernel_rfl), by kernel_rfl, by kernel_rfl, by kernel_rfl, by kernel_rfl⟩
/-- The first j names. -/
def Tr.nmK (x : Nd) (j : Nat) : List ByteArray := (List.range j).map x.nam
theorem Tr.nmK_len (x : Nd) (j : Nat) : (Tr.nmK x j).length = j := by simp [Tr.nmK]
theorem Tr.nmK_succ (x : Nd) (j : Nat) : Tr.nmK x (j + 1) = Tr.nmK x j ++ [x.nam j] := by simp [Tr.nmK, List.range_succ]
/-- Texts in their order. -/
def srtS (L : List ByteArray) : List ByteArray := ((L.map fun s => s.data.toList).mergeSort fun x y => decide (x ≤ y)).map fun l => ⟨l.toArray⟩
theorem srtS_len (L : List ByteArray) : (srtS L).length = L.length := by simp [srtS]
set_option maxRecDepth 100000 in
theorem sortS_any (w w1 : World) (L : List ByteArray) (v : Value) (h : SO w L v w1) (hl : L.length < 100) :
    Calls Try.prog 119 #[v] w1 fun e w' => e = .returned (.tuple #[]) ∧ SO w (srtS L) v w' := by
  by_cases h0 : L.length = 0
  · obtain rfl := List.eq_nil_of_length_eq_zero h0
    rw [h.nil rfl]
    refine (Try.slices_Sort_string_none none 0 w1).mono ?_
    rintro e w' ⟨rfl, hw⟩
    subst w'
    exact ⟨rfl, by rw [← h.nil rfl, show srtS [] = [] by simp [srtS]]; exact h⟩
  · obtain ⟨g, cap, hv, hb, hg⟩ := h.own.form (by omega)
    subst hv
    have hat : ∀ (M : List ByteArray) (j : Nat), (stC M)[j]? = ((M.map fun s => s.data.toList)[j]?).map encStr := fun M j => by
      simp only [stC, List.getElem?_map]
      cases M[j]? <;> simp [encStr]
    have hH : Holds encStr w1 g 0 (L.map fun s => s.data.toList).toArray := fun j hj => by
      have hj' : j < L.length := by simpa using hj
      rw [Nat.zero_add]
      refine ⟨?_, h.own.frozenAt j⟩
      rw [h.own.cellAt j (by omega), hat, List.getElem?_eq_getElem (by simpa using hj'), Option.map_some, getElem!_pos _ j hj]
      simp
    have hS := Try.slices_Sort_string g 0 cap (L.map fun s => s.data.toList) w1 hH hg (by simp; omega)
    rw [List.length_map] at hS
    refine hS.mono ?_
    rintro e w' ⟨rfl, n, os, rfl⟩
    refine ⟨rfl, ?_⟩
    obtain ⟨D, hD⟩ : ∃ D, ((L.map fun s => s.data.toList).mergeSort fun x y => decide (x ≤ y)) = D := ⟨_, rfl⟩
    have hDl : D.length = L.length := by rw [← hD]; simp
    have hsr : srtS L = D.map fun l => ⟨l.toArray⟩ := by unfold srtS; rw [hD]
    rw [hD]
    have hgr : w1.grownBy (grow (putRow encStr (Sort.ahead w1 n) g 0 D.toArray) os) (some g) := by
      refine ⟨rfl, rfl, rfl, ?_, fun k hk hne => ?_⟩
      · unfold Sort.grow Sort.putRow Sort.mapBlock Sort.ahead
        simp
      · unfold Sort.grow Sort.putRow Sort.mapBlock Sort.ahead
        simp only
        rw [Array.getElem?_append_left (by simpa using hk), Array.getElem?_modify, if_neg (fun e => hne (by rw [e]))]
    have hbl : ∀ k, (some g : Option Nat) = some k → w.heap.size ≤ k := fun k e => by injection e with e; omega
    refine ⟨h.bel.grown hgr h.bel.size hbl, ?_, fun e => by
      have := srtS_len L
      rw [e] at this
      simp at this; omega⟩
    rcases h.own.2 with ⟨hv, _⟩ | ⟨g', cap', cur, hv, hb', hgg, hnc, hcm, hcs, htake⟩
    · cases hv
    · simp only [Value.slice.injEq, Option.some.injEq, Addr.mk.injEq, and_true, true_and] at hv
      obtain ⟨rfl, rfl⟩ := hv
      have hheap : (grow (putRow encStr (Sort.ahead w1 n) g 0 D.toArray) os).heap[g]? = some (.cells (putCells encStr 0 D.toArray cur) 9 (0, 0)) := by
        rw [heap_grow_old _ _ (by simpa [putRow, mapBlock, Sort.ahead] using hg)]
        simp [putRow, mapBlock, Sort.ahead, Array.getElem?_modify, hgg, onCells]
      rw [srtS_len]
      refine ⟨by simp [stC, srtS_len], .inr ⟨g, cap, _, rfl, hb, hheap, hnc, hcm, by simpa [putCells] using hcs, ?_⟩⟩
      apply List.ext_getElem?
      intro t
      by_cases ht : t < L.length
      · have hc : t < cur.size := by rw [hcs]; omega
        rw [List.getElem?_take_of_lt (by omega), hsr, Array.getElem?_toList]
        unfold putCells
        simp only [Array.getElem?_mapIdx, Array.getElem?_eq_getElem hc, Option.map_some]
        rw [if_pos ⟨Nat.zero_le _, by simp [hDl, ht]⟩]
        simp [stC, hDl, ht]
      · rw [List.getElem?_eq_none (by rw [List.length_take]; omega), List.getElem?_eq_none (by simp [stC, srtS_len]; omega)]
end Go.Proofs.Ytfgnhldnmbfnkab

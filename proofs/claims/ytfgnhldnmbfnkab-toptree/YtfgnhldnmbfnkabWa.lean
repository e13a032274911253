/- TopTree, plain: names in their order; how often each node is held; the way up. -/
import Derived.Test.YtfgnhldnmbfnkabVe
namespace Go.Proofs.Ytfgnhldnmbfnkab
open Go.RowKit
open Tr (Fo Nd)

theorem srtS_map (L : List ByteArray) : (srtS L).map (fun s => s.toList) = (L.map fun s => s.toList).mergeSort fun x y => decide (x ≤ y) := by
  unfold srtS
  rw [List.map_map]
  have e : ((fun s : ByteArray => s.toList) ∘ fun l : List UInt8 => (⟨l.toArray⟩ : ByteArray)) = id := by
    funext l
    simp [ByteArray.toList_eq]
  rw [e, List.map_id]
  simp only [ByteArray.toList_eq]
theorem srtS_perm (L : List ByteArray) : ((srtS L).map fun s => s.toList).Perm (L.map fun s => s.toList) := by
  rw [srtS_map]
  exact List.mergeSort_perm _ _
theorem srtS_sorted (L : List ByteArray) : ((srtS L).map fun s => s.toList).Pairwise fun x y => x ≤ y := by
  rw [srtS_map]
  refine (List.pairwise_mergeSort (le := fun x y => decide (x ≤ y)) (fun a b c h k => ?_) (fun a b => ?_) _).imp (fun h => of_decide_eq_true h)
  · exact decide_eq_true (List.le_trans (of_decide_eq_true h) (of_decide_eq_true k))
  · rcases List.le_total a b with c | c
    · rw [decide_eq_true c]; rfl
    · rw [decide_eq_true c, Bool.or_true]
/-- Where a name of a directory leads. -/
def Tr.fk (x : Nd) (l : List UInt8) : Nat := match (List.range x.size).find? (fun i => (x.nam i).toList == l) with
  | some i => x.kid i
  | none => 0
theorem Tr.fk_plc {x : Nd} {s : ByteArray} {i : Nat} (h : Tr.PlcTo x s (i : Int)) : Tr.fk x s.toList = x.kid i := by
  rcases h with ⟨j, e, h1, h2, h3⟩ | ⟨e, _⟩
  · obtain rfl : i = j := by omega
    unfold Tr.fk
    have : (List.range x.size).find? (fun i => (x.nam i).toList == s.toList) = some i := by
      rw [List.find?_range_eq_some]
      exact ⟨by simpa using h2, by simpa using h1, fun j hj => by simpa using h3 j hj⟩
    rw [this]
  · omega
theorem Tr.Nodup.plc {x : Nd} (h : Tr.Nodup x) {i : Nat} (hi : i < x.size) {s : ByteArray} (e : (x.nam i).toList = s.toList) : Tr.PlcTo x s (i : Int) :=
  .inl ⟨i, rfl, hi, e, fun j hj => by rw [← e]; exact h j i hj hi⟩
theorem Tr.nmK_map (x : Nd) (j : Nat) : (Tr.nmK x j).map (fun s => s.toList) = (List.range j).map fun i => (x.nam i).toList := by
  unfold Tr.nmK; rw [List.map_map]; rfl
theorem Tr.nmK_nodup {x : Nd} (h : Tr.Nodup x) : ((Tr.nmK x x.size).map fun s => s.toList).Nodup := by
  rw [Tr.nmK_map, List.nodup_iff_pairwise_ne, List.pairwise_map]
  refine List.Pairwise.imp_of_mem (R := fun a b => a < b) (fun {a b} ha hb hab => ?_) List.pairwise_lt_range
  exact h a b hab (by simpa using hb)
/-- The sum of a list, by its places. -/
theorem sumN_list (L : List Nat) : sumN (fun i => L.getD i 0) L.length = L.sum := by
  have a : ∀ k, k ≤ L.length → sumN (fun i => L.getD i 0) k = (L.take k).sum := fun k => by
    induction k with
    | zero => intro _; simp [sumN]
    | succ k ih =>
      intro hk
      show sumN _ k + L.getD k 0 = _
      rw [ih (by omega), List.take_add_one, List.sum_append_nat]
      simp [List.getD_eq_getElem?_getD]
      cases L[k]? <;> simp
  rw [a _ (Nat.le_refl _), List.take_length]
theorem Tr.lis_len {F : Fo} {n : Nat} (h2 : Tr.isE F (n : Int) 2 = 0) : (Tr.lisL F (n : Int)).length = (F.nd n).size := by
  unfold Tr.lisL
  rw [if_pos h2, srtS_len, Tr.nmK_len, Int.toNat_natCast]
theorem Tr.lis_at {F : Fo} (h : Tr.Ok F) {n : Nat} (hn : n < 40) (k2 : (F.nd n).kind = 2) (h2 : Tr.isE F (n : Int) 2 = 0) {i : Nat} (hi : i < (Tr.lisL F (n : Int)).length) :
    ∃ j, j < (F.nd n).size ∧ (F.nd n).nam j = (Tr.lisL F (n : Int)).getD i ⟨#[]⟩ ∧ Tr.PlcTo (F.nd n) ((Tr.lisL F (n : Int)).getD i ⟨#[]⟩) (j : Int) := by
  have hL : Tr.lisL F (n : Int) = srtS (Tr.nmK (F.nd n) (F.nd n).size) := by unfold Tr.lisL; rw [if_pos h2, Int.toNat_natCast]
  have hp := srtS_perm (Tr.nmK (F.nd n) (F.nd n).size)
  rw [← hL] at hp
  obtain ⟨L, hLL⟩ : ∃ L, Tr.lisL F (n : Int) = L := ⟨_, rfl⟩
  rw [hLL] at hp hi ⊢
  have hm : (L.getD i ⟨#[]⟩).toList ∈ (Tr.nmK (F.nd n) (F.nd n).size).map fun s => s.toList := by
    refine hp.mem_iff.1 (List.mem_map_of_mem ?_)
    rw [List.getD_eq_getElem?_getD, List.getElem?_eq_getElem hi, Option.getD_some]
    exact List.getElem_mem hi
  rw [Tr.nmK_map, List.mem_map] at hm
  obtain ⟨j, hj, e⟩ := hm
  rw [List.mem_range] at hj
  refine ⟨j, hj, ?_, (h.dp n hn k2).plc hj e⟩
  rw [ByteArray.toList_eq, ByteArray.toList_eq] at e
  exact Go.WideShapes.bytes_inj e
theorem Tr.lis_lt {F : Fo} (h : Tr.Ok F) {n : Nat} (hn : n < 40) (k2 : (F.nd n).kind = 2) (h2 : Tr.isE F (n : Int) 2 = 0) {i : Nat} (hi : i + 1 < (Tr.lisL F (n : Int)).length) :
    ((Tr.lisL F (n : Int)).getD i ⟨#[]⟩).toList < ((Tr.lisL F (n : Int)).getD (i + 1) ⟨#[]⟩).toList := by
  have hL : Tr.lisL F (n : Int) = srtS (Tr.nmK (F.nd n) (F.nd n).size) := by unfold Tr.lisL; rw [if_pos h2, Int.toNat_natCast]
  have hp := srtS_perm (Tr.nmK (F.nd n) (F.nd n).size)
  have hs := srtS_sorted (Tr.nmK (F.nd n) (F.nd n).size)
  have hd := hp.nodup_iff.2 (Tr.nmK_nodup (h.dp n hn k2))
  rw [← hL] at hp hs hd
  obtain ⟨L, hLL⟩ : ∃ L, Tr.lisL F (n : Int) = L := ⟨_, rfl⟩
  rw [hLL] at hp hi hs hd ⊢
  rw [List.pairwise_map] at hs
  rw [List.nodup_iff_pairwise_ne, List.pairwise_map] at hd
  have a := List.pairwise_iff_getElem.1 hs i (i + 1) (by omega) hi (by omega)
  have b := List.pairwise_iff_getElem.1 hd i (i + 1) (by omega) hi (by omega)
  rw [List.getD_eq_getElem?_getD, List.getD_eq_getElem?_getD, List.getElem?_eq_getElem hi, List.getElem?_eq_getElem (show i < L.length by omega), Option.getD_some, Option.getD_some]
  exact Std.lt_of_le_of_ne a b
theorem Tr.lis_cnt {F : Fo} (h : Tr.Ok F) {n : Nat} (hn : n < 40) (k2 : (F.nd n).kind = 2) (h2 : Tr.isE F (n : Int) 2 = 0) (m : Nat) :
    sumN (fun i => oneN (Tr.fk (F.nd n) ((Tr.lisL F (n : Int)).getD i ⟨#[]⟩).toList) m) (Tr.lisL F (n : Int)).length = Tr.cntM (F.nd n) m := by
  have hL : Tr.lisL F (n : Int) = srtS (Tr.nmK (F.nd n) (F.nd n).size) := by unfold Tr.lisL; rw [if_pos h2, Int.toNat_natCast]
  have hp := srtS_perm (Tr.nmK (F.nd n) (F.nd n).size)
  rw [← hL] at hp
  obtain ⟨L, hLL⟩ : ∃ L, Tr.lisL F (n : Int) = L := ⟨_, rfl⟩
  rw [hLL] at hp ⊢
  have e1 := (hp.map fun l => oneN (Tr.fk (F.nd n) l) m).sum_nat
  rw [List.map_map, List.map_map] at e1
  have e2 := sumN_list (L.map ((fun l => oneN (Tr.fk (F.nd n) l) m) ∘ fun s : ByteArray => s.toList))
  rw [e1, List.length_map] at e2
  have e3 := sumN_list ((Tr.nmK (F.nd n) (F.nd n).size).map ((fun l => oneN (Tr.fk (F.nd n) l) m) ∘ fun s : ByteArray => s.toList))
  rw [← e2, List.length_map, Tr.nmK_len] at e3
  unfold Tr.cntM
  rw [if_pos k2]
  refine (sumN_congr (fun i hi => ?_)).trans (e3.symm.trans (sumN_congr (fun i hi => ?_)))
  · simp [List.getD_eq_getElem?_getD, hi]
  · have hi' : i < (Tr.nmK (F.nd n) (F.nd n).size).length := by rw [Tr.nmK_len]; exact hi
    have : (Tr.nmK (F.nd n) (F.nd n).size)[i]'hi' = (F.nd n).nam i := by simp [Tr.nmK]
    simp [List.getD_eq_getElem?_getD, hi', this]
    rw [Tr.fk_plc ((h.dp n hn k2).plc hi rfl)]
/-- All nodes are held k times at most. -/
def Tr.Hb (F : Fo) (k : Nat) : Prop := ∀ n, n < 40 → (F.nd n).held ≤ k
theorem Tr.Hb.mono {F : Fo} {k l : Nat} (h : Tr.Hb F k) (hl : k ≤ l) : Tr.Hb F l := fun n hn => Nat.le_trans (h n hn) hl
theorem Tr.Hb.put {F : Fo} {k n : Nat} {x : Nd} (h : Tr.Hb F k) (hx : x.held ≤ k) : Tr.Hb (F.put n x) k := fun m hm => by
  by_cases c : m = n
  · subst c; rw [Tr.put_same]; exact hx
  · rw [Tr.put_ne _ _ _ _ c]; exact h m hm
theorem Tr.Hb.swe {F : Fo} {k n : Nat} (h : Tr.Hb F k) : Tr.Hb (Tr.swe F n) k := by
  unfold Tr.swe
  split
  · exact h.put (Nat.zero_le _)
  · exact h
theorem Tr.Hb.leaF {F : Fo} {k n q : Nat} {s : ByteArray} (h : Tr.Hb F k) (hn : n < 40) (hq : q < 40) : Tr.Hb (Tr.leaF F n s q) k := by
  have a : Tr.Hb (F.put n (Tr.adN (F.nd n) s q)) k := h.put (h n hn)
  unfold Tr.leaF
  split
  · exact a.put (a q hq)
  · exact a
end Go.Proofs.Ytfgnhldnmbfnkab

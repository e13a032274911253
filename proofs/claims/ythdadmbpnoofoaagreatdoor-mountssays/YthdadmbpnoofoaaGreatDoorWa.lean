/- TopTree, plain: names in their order; how often each node is held; the way up. -/
import Derived.Test.YthdadmbpnoofoaaGreatDoorVa
namespace Go.Proofs.YthdadmbpnoofoaaGreatDoor
open Go.RowKit
open Tr (Fo Nd)

theorem srtS_map (L : List ByteArray) : (srtS L).map (fun s => s.toList) = (L.map fun s => s.toList).mergeSort fun x y => decide (x ≤ y) := by
  unfold srtS
  rw [List.map_map]
  have e : ((fun s : ByteArray => s.toList) ∘ fun l : List UInt8 => (⟨l.toArray⟩ : ByteArray)) = id := by
    funext l
    simp [ByteArray.toList_eq]
  rw [e, List.map_id]
  simp only [ByteArray.toList_eq]
theorem srtS_perm (L : List ByteArray) : ((srtS L).map fun s => s.toList).Perm (L.map fun s => s.toList) := by
  rw [srtS_map]
  exact List.mergeSort_perm _ _
theorem srtS_sorted (L : List ByteArray) : ((srtS L).map fun s => s.toList).Pairwise fun x y => x ≤ y := by
  rw [srtS_map]
  refine (List.pairwise_mergeSort (le := fun x y => decide (x ≤ y)) (fun a b c h k => ?_) (fun a b => ?_) _).imp (fun h => of_decide_eq_true h)
  · exact decide_eq_true (List.le_trans (of_decide_eq_true h) (of_decide_eq_true k))
  · rcases List.le_total a b with c | c
    · rw [decide_eq_true c]; rfl
    · rw [decide_eq_true c, Bool.or_true]
/-- Where a name of a directory leads. -/
def Tr.fk (x : Nd) (l : List UInt8) : Nat := match (List.range x.size).find? (fun i => (x.nam i).toList == l) with
  | some i => x.kid i
  | none => 0
theorem Tr.fk_plc {x : Nd} {s : ByteArray} {i : Nat} (h : Tr.PlcTo x s (i : Int)) : Tr.fk x s.toList = x.kid i := by
  rcases h with ⟨j, e, h1, h2, h3⟩ | ⟨e, _⟩
  · obtain rfl : i = j := by omega
    unfold Tr.fk
    have : (List.range x.size).find? (fun i => (x.nam i).toList == s.toList) = some i := by
      rw [List.find?_range_eq_some]
      exact ⟨by simpa using h2, by simpa using h1, fun j hj => by simpa using h3 j hj⟩
    rw [this]
  · omega
theorem Tr.Nodup.plc {x : Nd} (h : Tr.Nodup x) {i : Nat} (hi : i < x.size) {s : ByteArray} (e : (x.nam i).toList = s.toList) : Tr.PlcTo x s (i : Int) :=
  .inl ⟨i, rfl, hi, e, fun j hj => by rw [← e]; exact h j i hj hi⟩
theorem Tr.nmK_map (x : Nd) (j : Nat) : (Tr.nmK x j).map (fun s => s.toList) = (List.range j).map fun i => (x.nam i).toList := by
  unfold Tr.nmK; rw [List.map_map]; rfl
theorem Tr.nmK_nodup {x : Nd} (h : Tr.Nodup x) : ((Tr.nmK x x.size).map fun s => s.toList).Nodup := by
  rw [Tr.nmK_map, List.nodup_iff_pairwise_ne, List.pairwise_map]
  refine List.Pairwise.imp_of_mem (R := fun a b => a < b) (fun {a b} ha hb hab => ?_) List.pairwise_lt_range
  exact h a b hab (by simpa using hb)
/-- The sum of a list, by its places. -/
theorem sumN_list (L : List Nat) : sumN (fun i => L.getD i 0) L.length = L.sum := by
  have a : ∀ k, k ≤ L.length → sumN (fun i => L.getD i 0) k = (L.take k).sum := fun k => by
    induction k with
    | zero => intro _; simp [sumN]
    | succ k ih =>
      intro hk
      show sumN _ k + L.getD k 0 = _
      rw [ih (by omega), List.take_add_one, List.sum_append_nat]
      simp [List.getD_eq_getElem?_getD]
      cases L[k]? <;> simp
  rw [a _ (Nat.le_refl _), List.take_length]
theorem Tr.lis_len {F : Fo} {n : Nat} (h2 : Tr.isE F (n : Int) 2 = 0) : (Tr.lisL F (n : Int)).length = (F.nd n).size := by
  unfold Tr.lisL
  rw [if_pos h2, srtS_len, Tr.nmK_len, Int.toNat_natCast]
theorem Tr.lis_at {F : Fo} (h : Tr.Ok F) {n : Nat} (hn : n < 40) (k2 : (F.nd n).kind = 2) (h2 : Tr.isE F (n : Int) 2 = 0) {i : Nat} (hi : i < (Tr.lisL F (n : Int)).length) :
    ∃ j, j < (F.nd n).size ∧ (F.nd n).nam j = (Tr.lisL F (n : Int)).getD i ⟨#[]⟩ ∧ Tr.PlcTo (F.nd n) ((Tr.lisL F (n : Int)).getD i ⟨#[]⟩) (j : Int) := by
  have hL : Tr.lisL F (n : Int) = srtS (Tr.nmK (F.nd n) (F.nd n).size) := by unfold Tr.lisL; rw [if_pos h2, Int.toNat_natCast]
  have hp := srtS_perm (Tr.nmK (F.nd n) (F.nd n).size)
  rw [← hL] at hp
  obtain ⟨L, hLL⟩ : ∃ L, Tr.lisL F (n : Int) = L := ⟨_, rfl⟩
  rw [hLL] at hp hi ⊢
  have hm : (L.getD i ⟨#[]⟩).toList ∈ (Tr.nmK (F.nd n) (F.nd n).size).map fun s => s.toList := by
    refine hp.mem_iff.1 (List.mem_map_of_mem ?_)
    rw [List.getD_eq_getElem?_getD, List.getElem?_eq_getElem hi, Option.getD_some]
    exact List.getElem_mem hi
  rw [Tr.nmK_map, List.mem_map] at hm
  obtain ⟨j, hj, e⟩ := hm
  rw [List.mem_range] at hj
  refine ⟨j, hj, ?_, (h.dp n hn k2).plc hj e⟩
  rw [ByteArray.toList_eq, ByteArray.toList_eq] at e
  exact Go.WideShapes.bytes_inj e
theorem Tr.lis_lt {F : Fo} (h : Tr.Ok F) {n : Nat} (hn : n < 40) (k2 : (F.nd n).kind = 2) (h2 : Tr.isE F (n : Int) 2 = 0) {i : Nat} (hi : i + 1 < (Tr.lisL F (n : Int)).length) :
    ((Tr.lisL F (n : Int)).getD i ⟨#[]⟩).toList < ((Tr.lisL F (n : Int)).getD (i + 1) ⟨#[]⟩).toList := by
  have hL : Tr.lisL F (n : Int) = srtS (Tr.nmK (F.nd n) (F.nd n).size) := by unfold Tr.lisL; rw [if_pos h2, Int.toNat_natCast]
  have hp := srtS_perm (Tr.nmK (F.nd n) (F.nd n).size)
  have hs := srtS_sorted (Tr.nmK (F.nd n) (F.nd n).size)
  have hd := hp.nodup_iff.2 (Tr.nmK_nodup (h.dp n hn k2))
  rw [← hL] at hp hs hd
  obtain ⟨L, hLL⟩ : ∃ L, Tr.lisL F (n : Int) = L := ⟨_, rfl⟩
  rw [hLL] at hp hi hs hd ⊢
  rw [List.pairwise_map] at hs
  rw [List.nodup_iff_pairwise_ne, List.pairwise_map] at hd
  have a := List.pairwise_iff_getElem.1 hs i (i + 1) (by omega) hi (by omega)
  have b := List.pairwise_iff_getElem.1 hd i (i + 1) (by omega) hi (by omega)
  rw [List.getD_eq_getElem?_getD, List.getD_eq_getElem?_getD, List.getElem?_eq_getElem hi, List.getElem?_eq_getElem (show i < L.length by omega), Option.getD_some, Option.getD_some]
  exact Std.lt_of_le_of_ne a b
theorem Tr.lis_cnt {F : Fo} (h : Tr.Ok F) {n : Nat} (hn : n < 40) (k2 : (F.nd n).kind = 2) (h2 : Tr.isE F (n : Int) 2 = 0) (m : Nat) :
    sumN (fun i => oneN (Tr.fk (F.nd n) ((Tr.lisL F (n : Int)).getD i ⟨#[]⟩).toList) m) (Tr.lisL F (n : Int)).length = Tr.cntM (F.nd n) m := by
  have hL : Tr.lisL F (n : Int) = srtS (Tr.nmK (F.nd n) (F.nd n).size) := by unfold Tr.lisL; rw [if_pos h2, Int.toNat_natCast]
  have hp := srtS_perm (Tr.nmK (F.nd n) (F.nd n).size)
  rw [← hL] at hp
  obtain ⟨L, hLL⟩ : ∃ L, Tr.lisL F (n : Int) = L := ⟨_, rfl⟩
  rw [hLL] at hp ⊢
  have e1 := (hp.map fun l => oneN (Tr.fk (F.nd n) l) m).sum_nat
  rw [List.map_map, List.map_map] at e1
  have e2 := sumN_list (L.map ((fun l => oneN (Tr.fk (F.nd n) l) m) ∘ fun s : ByteArray => s.toList))
  rw [e1, List.length_map] at e2
  have e3 := sumN_list ((Tr.nmK (F.nd n) (F.nd n).size).map ((fun l => oneN (Tr.fk (F.nd n) l) m) ∘ fun s : ByteArray => s.toList))
  rw [← e2, List.length_map, Tr.nmK_len] at e3
  unfold Tr.cntM
  rw [if_pos k2]
  refine (sumN_congr (fun i hi => ?_)).trans (e3.symm.trans (sumN_congr (fun i hi => ?_)))
  · simp [List.getD_eq_getElem?_getD, hi]
  · have hi' : i < (Tr.nmK (F.nd n) (F.nd n).size).length := by rw [Tr.nmK_len]; exact hi
    have : (Tr.nmK (F.nd n) (F.nd n).size)[i]'hi' = (F.nd n).nam i := by simp [Tr.nmK]
    simp [List.getD_eq_getElem?_getD, hi', this]
    rw [Tr.fk_plc ((h.dp n hn k2).plc hi rfl)]
/-- All nodes are held k times at most. -/
def Tr.Hb (F : Fo) (k : Nat) : Prop := ∀ n, n < 40 → (F.nd n).held ≤ k
theorem Tr.Hb.mono {F : Fo} {k l : Nat} (h : Tr.Hb F k) (hl : k ≤ l) : Tr.Hb F l := fun n hn => Nat.le_trans (h n hn) hl
theorem Tr.Hb.put {F : Fo} {k n : Nat} {x : Nd} (h : Tr.Hb F k) (hx : x.held ≤ k) : Tr.Hb (F.put n x) k := fun m hm => by
  by_cases c : m = n
  · subst c; rw [Tr.put_same]; exact hx
  · rw [Tr.put_ne _ _ _ _ c]; exact h m hm
theorem Tr.Hb.swe {F : Fo} {k n : Nat} (h : Tr.Hb F k) : Tr.Hb (Tr.swe F n) k := by
  unfold Tr.swe
  split
  · exact h.put (Nat.zero_le _)
  · exact h
theorem Tr.Hb.leaF {F : Fo} {k n q : Nat} {s : ByteArray} (h : Tr.Hb F k) (hn : n < 40) (hq : q < 40) : Tr.Hb (Tr.leaF F n s q) k := by
  have a : Tr.Hb (F.put n (Tr.adN (F.nd n) s q)) k := h.put (h n hn)
  unfold Tr.leaF
  split
  · exact a.put (a q hq)
  · exact a
end Go.Proofs.YthdadmbpnoofoaaGreatDoor
/- TopTree, plain: how often each node is held behind each act; the way up comes to an end. -/
namespace Go.Proofs.YthdadmbpnoofoaaGreatDoor
open Go.RowKit
open Tr (Fo Nd)

theorem Tr.Hb.pla {F G : Fo} {k T : Nat} {E : Int} (h : Tr.Hb F k) (hm : Tr.PlaTo F T E G) : Tr.Hb G k := by
  rcases hm with ⟨_, _, _, rfl⟩ | ⟨_, n, e, hf, hm⟩
  · exact h
  rcases hm with ⟨_, _, _, rfl⟩ | ⟨_, _, _, rfl⟩
  · exact h
  · exact h.put (x := newN 2 F.trees n) (n := n) (Nat.zero_le _)
theorem Tr.Hb.mak {F G : Fo} {k K : Nat} {z kz E : Int} {s : ByteArray} (h : Tr.Hb F k) (hm : Tr.MakTo F z s kz K E G) : Tr.Hb G k := by
  rcases hm with ⟨_, _, _, _, rfl⟩ | ⟨hkz, e, hw, hm⟩
  · exact h
  rcases hm with ⟨_, _, _, rfl⟩ | ⟨rfl, q, e2, hf, hm⟩
  · exact h
  rcases hm with ⟨_, _, _, rfl⟩ | ⟨rfl, _, _, rfl⟩
  · exact h
  obtain ⟨n, rfl, n40, _⟩ := hw.ok
  have q40 : q < 40 := by
    rcases hf with ⟨_, h1, _⟩ | ⟨h1, _⟩
    · exact h1
    · omega
  rw [Int.toNat_natCast]
  unfold Tr.makF
  exact (h.put (Nat.zero_le _)).leaF n40 q40
theorem Tr.Hb.lin {F G : Fo} {k : Nat} {y z E : Int} {s : ByteArray} (h : Tr.Hb F k) (hm : Tr.LinTo F y z s E G) : Tr.Hb G k := by
  rcases hm with ⟨_, _, rfl⟩ | ⟨ey, e, hw, hm⟩
  · exact h
  rcases hm with ⟨_, _, rfl⟩ | ⟨rfl, hm⟩
  · exact h
  rcases hm with ⟨_, _, rfl⟩ | ⟨_, _, rfl⟩
  · exact h
  obtain ⟨n, rfl, n40, _⟩ := hw.ok
  obtain ⟨q, rfl, q40, _⟩ := Tr.isE_ok ey
  rw [Int.toNat_natCast, Int.toNat_natCast]
  unfold Tr.linF
  have a : Tr.Hb (F.put q { F.nd q with links := (F.nd q).links + 1 }) k := h.put (h q q40)
  exact a.leaF n40 q40
theorem Tr.Hb.rem {F G : Fo} {k : Nat} {z E : Int} {s : ByteArray} (h : Tr.Hb F k) (ho : Tr.Ok F) (hm : Tr.RemTo F z s E G) : Tr.Hb G k := by
  obtain ⟨K, e, hf, ⟨_, _, rfl⟩ | ⟨rfl, hm⟩⟩ := hm
  · exact h
  rcases hm with ⟨_, _, _, rfl⟩ | ⟨_, _, i, hp, rfl⟩
  · exact h
  obtain ⟨n, i', rfl, n40, n2, hp', hK⟩ := hf.ok
  have K40 : K < 40 := by rw [hK]; exact (ho.ki n i' n40 n2 hp'.lt).1
  rw [Int.toNat_natCast]
  unfold Tr.remF
  have a : Tr.Hb (F.put n (Tr.forN (F.nd n) i)) k := h.put (h n n40)
  refine Tr.Hb.swe (a.put ?_)
  exact a K K40
theorem Tr.Hb.mov {F G : Fo} {k : Nat} {z y E : Int} {s o : ByteArray} (h : Tr.Hb F k) (ho : Tr.Ok F) (hm : Tr.MovTo F z s y o E G) : Tr.Hb G k := by
  obtain ⟨K, e, hf, ⟨_, _, rfl⟩ | ⟨rfl, hm⟩⟩ := hm
  · exact h
  rcases hm with ⟨_, _, rfl⟩ | ⟨ey, hm⟩
  · exact h
  rcases hm with ⟨_, _, rfl⟩ | ⟨_, hm⟩
  · exact h
  rcases hm with ⟨_, _, rfl⟩ | ⟨_, i, _, e2, _, hm⟩
  · exact h
  rcases hm with ⟨_, _, rfl⟩ | ⟨_, _, rfl⟩
  · exact h
  obtain ⟨n, i', rfl, n40, n2, hp', hK⟩ := hf.ok
  obtain ⟨t, rfl, t40, _⟩ := Tr.isE_ok ey
  have K40 : K < 40 := by rw [hK]; exact (ho.ki n i' n40 n2 hp'.lt).1
  rw [Int.toNat_natCast, Int.toNat_natCast]
  unfold Tr.movF
  have a : Tr.Hb (F.put n (Tr.forN (F.nd n) i)) k := h.put (h n n40)
  exact a.leaF t40 K40
theorem Tr.Hb.hol {F : Fo} {k : Nat} (h : Tr.Hb F k) (z : Int) : Tr.Hb (Tr.hol F z) (k + 1) := by
  unfold Tr.hol
  split
  · rename_i c
    obtain ⟨n, rfl, n40, _⟩ := Tr.nodeE_ok c
    rw [Int.toNat_natCast]
    refine (h.mono (Nat.le_succ k)).put ?_
    exact Nat.succ_le_succ (h n n40)
  · exact h.mono (Nat.le_succ k)
theorem Tr.Hb.letT {F : Fo} {k : Nat} (h : Tr.Hb F k) (z : Int) : Tr.Hb (Tr.letT F z) k := by
  unfold Tr.letT
  split
  · rename_i c
    have c' : Tr.nodeE F z = 0 := by
      unfold Tr.letE at c
      by_cases d : Tr.nodeE F z = 0
      · exact d
      · rw [if_neg d] at c; exact c
    obtain ⟨n, rfl, n40, _⟩ := Tr.nodeE_ok c'
    rw [Int.toNat_natCast]
    refine Tr.Hb.swe (h.put ?_)
    exact Nat.le_trans (Nat.sub_le _ _) (h n n40)
  · exact h
theorem Tr.Hb.wri {F : Fo} {k : Nat} (h : Tr.Hb F k) (z a : Int) (s : ByteArray) : Tr.Hb (Tr.wriF F z a s) k := by
  unfold Tr.wriF
  split
  · rename_i c
    have c' : Tr.isE F z 1 = 0 := by
      have c1 := c.1
      unfold Tr.wriE at c1
      by_cases d : Tr.isE F z 1 = 0
      · exact d
      · first | (rw [if_neg d] at c1; exact c1) | (rw [if_pos d] at c1; exact c1)
    obtain ⟨n, rfl, n40, _⟩ := Tr.isE_ok c'
    rw [Int.toNat_natCast]
    refine h.put ?_
    exact h n n40
  · exact h
theorem Tr.Hb.cut {F : Fo} {k : Nat} (h : Tr.Hb F k) (z a : Int) : Tr.Hb (Tr.cutF F z a) k := by
  unfold Tr.cutF
  split
  · rename_i c
    have c' : Tr.isE F z 1 = 0 := by
      unfold Tr.cutE at c
      by_cases d : Tr.isE F z 1 = 0
      · exact d
      · first | (rw [if_neg d] at c; exact c) | (rw [if_pos d] at c; exact c)
    obtain ⟨n, rfl, n40, _⟩ := Tr.isE_ok c'
    rw [Int.toNat_natCast]
    refine h.put ?_
    exact h n n40
  · exact h
theorem Tr.hb_g1 : Tr.Hb Tr.g1 0 := by
  have h0 : Tr.Hb Tr.f0 0 := fun n _ => Nat.le_refl _
  exact h0.put (n := 0) (x := newN 2 0 0) (Nat.zero_le _)
theorem Tr.Hb.lt {F : Fo} {k : Nat} (h : Tr.Hb F k) (hk : k < 1000) : ∀ n, n < 40 → (F.nd n).held < 2 ^ 60 := fun n hn => by have := h n hn; omega
/-- Where a directory is, that is one too. -/
theorem Tr.Ok.up_dir {F : Fo} (h : Tr.Ok F) {n : Nat} (hn : n < 40) (k2 : (F.nd n).kind = 2) : (F.nd n).up < 40 ∧ (F.nd (F.nd n).up).kind = 2 := by
  rcases Tr.up_of h.ki k2 (by rw [h.dr n hn k2]; exact Nat.le_refl _) with ⟨t, ht, rfl⟩ | ⟨i, h1, h2, _⟩
  · obtain ⟨a, b, c, _⟩ := h.rt t ht
    rw [c]; exact ⟨a, b⟩
  · exact ⟨h1, h2⟩
/-- The way up comes to an end in forty steps. -/
theorem Tr.EndsF.within {F : Fo} : ∀ {m n : Nat}, Tr.EndsF F m n → ∃ e, e ≤ m ∧ (F.nd (Tr.upI F n e)).up = Tr.upI F n e ∧ ∀ j, j < e → (F.nd (Tr.upI F n j)).up ≠ Tr.upI F n j
  | 0, n, h => ⟨0, Nat.le_refl _, h.2, fun j hj => by omega⟩
  | m + 1, n, h => by
    by_cases c : (F.nd n).up = n
    · exact ⟨0, Nat.zero_le _, c, fun j hj => by omega⟩
    · obtain ⟨e, h1, h2, h3⟩ := Tr.EndsF.within (h.2.resolve_left c)
      refine ⟨e + 1, by omega, ?_, fun j hj => ?_⟩
      · rw [← Tr.upI_shift]; exact h2
      · cases j with
        | zero => exact c
        | succ j => rw [← Tr.upI_shift]; exact h3 j (by omega)
theorem Tr.Ok.way {F : Fo} (h : Tr.Ok F) {n : Nat} (hn : n < 40) (k2 : (F.nd n).kind = 2) : ∀ j, Tr.upI F n j < 40 ∧ (F.nd (Tr.upI F n j)).kind = 2
  | 0 => ⟨hn, k2⟩
  | j + 1 => by
    obtain ⟨a, b⟩ := h.way hn k2 j
    exact h.up_dir a b
end Go.Proofs.YthdadmbpnoofoaaGreatDoor
/- TopTree: is a forest rooted? -/
namespace Go.Proofs.YthdadmbpnoofoaaGreatDoor
open Go.RowKit
open Tr (Fo Nd)

theorem bytesLess_lt : ∀ (x y : List UInt8), Op.bytesLess x y = decide (x < y)
  | _, [] => by simp [Op.bytesLess]
  | [], _ :: _ => by simp [Op.bytesLess]
  | a :: x, b :: y => by
    rw [Op.bytesLess, bytesLess_lt x y]
    simp only [List.cons_lt_cons_iff]
    by_cases c : a < b
    · simp [c]
    · by_cases d : a = b
      · subst d; simp
      · simp [c, d]
/-- What was counted of the roots. -/
def Tr.rN (F : Fo) (j i : Nat) : Nat := sumN (fun t => oneN (F.root t) i) (min j F.trees)
theorem Tr.rN_yes {F : Fo} {j : Nat} (h : j < F.trees) (i : Nat) : Tr.rN F (j + 1) i = Tr.rN F j i + oneN (F.root j) i := by
  unfold Tr.rN
  rw [show min (j + 1) F.trees = min j F.trees + 1 by omega]
  show sumN _ _ + _ = _
  rw [show min j F.trees = j by omega]
theorem Tr.rN_no {F : Fo} {j : Nat} (h : F.trees ≤ j) (i : Nat) : Tr.rN F (j + 1) i = Tr.rN F j i := by
  unfold Tr.rN
  rw [show min (j + 1) F.trees = min j F.trees by omega]
theorem Tr.rN_all {F : Fo} (h : F.trees ≤ 4) (i : Nat) : Tr.rN F 4 i = Tr.cntR F i := by
  unfold Tr.rN Tr.cntR
  rw [show min 4 F.trees = F.trees by omega]
/-- .. and of the first directories; of the names of one. -/
def Tr.dN (F : Fo) (n i : Nat) : Nat := Tr.cntR F i + sumN (fun m => Tr.cntM (F.nd m) i) n
def Tr.eN (F : Fo) (n j i : Nat) : Nat := Tr.dN F n i + sumN (fun q => oneN (Tr.fk (F.nd n) ((Tr.lisL F (n : Int)).getD q ⟨#[]⟩).toList) i) j
theorem Tr.dN_no {F : Fo} {n : Nat} (h : (F.nd n).kind ≠ 2) (i : Nat) : Tr.dN F (n + 1) i = Tr.dN F n i := by
  unfold Tr.dN
  show _ + (sumN _ n + Tr.cntM (F.nd n) i) = _
  rw [Tr.cntM_no i h]; omega
theorem Tr.eN_all {F : Fo} (h : Tr.Ok F) {n : Nat} (hn : n < 40) (k2 : (F.nd n).kind = 2) (h2 : Tr.isE F (n : Int) 2 = 0) (i : Nat) : Tr.dN F (n + 1) i = Tr.eN F n (Tr.lisL F (n : Int)).length i := by
  unfold Tr.eN
  rw [Tr.lis_cnt h hn k2 h2]
  unfold Tr.dN
  show _ + (sumN _ n + Tr.cntM (F.nd n) i) = _
  omega
theorem Tr.dN_le {F : Fo} (h : Tr.Ok F) {n : Nat} (hn : n ≤ 40) (i : Nat) : Tr.dN F n i ≤ 324 := by
  have := h.cnt_le i
  have m : ∀ k, sumN (fun m => Tr.cntM (F.nd m) i) n ≤ sumN (fun m => Tr.cntM (F.nd m) i) (n + k) := fun k => by
    induction k with
    | zero => exact Nat.le_refl _
    | succ k ih => exact Nat.le_trans ih (Nat.le_add_right _ _)
  have := m (40 - n)
  rw [show n + (40 - n) = 40 by omega] at this
  unfold Tr.dN
  unfold Tr.cnt at *
  omega
theorem sumN_one_le (f : Nat → Nat) (h : ∀ i, f i ≤ 1) : ∀ n, sumN f n ≤ n
  | 0 => Nat.le_refl _
  | n + 1 => by
    have := sumN_one_le f h n
    have := h n
    show sumN f n + f n ≤ n + 1
    omega
theorem oneN_le (a b : Nat) : oneN a b ≤ 1 := by unfold oneN; split <;> omega
theorem Tr.isE_two {F : Fo} {n : Nat} (hn : n < 40) : Tr.isE F (n : Int) 2 = 0 ↔ (F.nd n).kind = 2 := by
  unfold Tr.isE Tr.nodeE
  rw [if_neg (show ¬((n : Int) < 0 ∨ 39 < (n : Int)) by omega), Int.toNat_natCast]
  constructor
  · intro h
    by_cases c : (F.nd n).kind = 0
    · rw [if_pos c] at h; simp at h
    · rw [if_neg c] at h
      by_cases d : (F.nd n).kind = 2
      · exact d
      · simp [d] at h
  · intro h
    rw [if_neg (by omega)]; simp [h]
/-- What is true of the i-th name of a directory. -/
theorem Tr.lis_kid {F : Fo} (h : Tr.Ok F) {n : Nat} (hn : n < 40) (k2 : (F.nd n).kind = 2) {i : Nat} (hi : i < (Tr.lisL F (n : Int)).length) :
    ∃ K, K < 40 ∧ Tr.FndTo F (n : Int) ((Tr.lisL F (n : Int)).getD i ⟨#[]⟩) K 0 ∧ Tr.fk (F.nd n) ((Tr.lisL F (n : Int)).getD i ⟨#[]⟩).toList = K ∧ Tr.nameB ((Tr.lisL F (n : Int)).getD i ⟨#[]⟩) = true ∧ Tr.nodeE F (K : Int) = 0 ∧ (F.nd K).tree = (F.nd n).tree ∧ ((F.nd K).kind = 2 → (F.nd K).up = n) := by
  have h2 := (Tr.isE_two hn).2 k2
  obtain ⟨j, hj, e, hp⟩ := Tr.lis_at h hn k2 h2 hi
  obtain ⟨a, b, c, d⟩ := h.ki n j hn k2 hj
  refine ⟨(F.nd n).kid j, a, .inr ⟨h2, .inl ⟨j, by rw [Int.toNat_natCast]; exact hp, by rw [Int.toNat_natCast], rfl⟩⟩, Tr.fk_plc hp, ?_, ?_, c, d⟩
  · rw [← e]; exact h.nb n j hn k2 hj
  · unfold Tr.nodeE
    rw [if_neg (by omega), Int.toNat_natCast, if_neg b]
theorem Tr.nodeE_some {F : Fo} {n : Nat} (hn : n < 40) : Tr.nodeE F (n : Int) = if (F.nd n).kind = 0 then 2 else 0 := by
  unfold Tr.nodeE
  rw [if_neg (by omega), Int.toNat_natCast]
end Go.Proofs.YthdadmbpnoofoaaGreatDoor

/- TopTree: is a forest rooted? -/
import Derived.Test.YtfgnhldnmbfnkabWb
import Derived.Test.YtfgnhldnmbfnkabBb
namespace Go.Proofs.Ytfgnhldnmbfnkab
open Go.RowKit
open Tr (Fo Nd)

theorem bytesLess_lt : ∀ (x y : List UInt8), Op.bytesLess x y = decide (x < y)
  | _, [] => by simp [Op.bytesLess]
  | [], _ :: _ => by simp [Op.bytesLess]
  | a :: x, b :: y => by
    rw [Op.bytesLess, bytesLess_lt x y]
    simp only [List.cons_lt_cons_iff]
    by_cases c : a < b
    · simp [c]
    · by_cases d : a = b
      · subst d; simp
      · simp [c, d]
/-- The forest, and how many names were counted, in an array. -/
def RT (w W : World) (b g : Nat) (F : Fo) (f : Nat → Nat) : Prop := Below w.heap.size w W ∧ FAt W b F ∧ ZAt W g 40 183 (fun i => (f i : Int)) ∧ w.heap.size ≤ g ∧ b ≠ g
theorem RT.below {w W W' : World} {b g : Nat} {F : Fo} {f : Nat → Nat} (h : RT w W b g F f) (k : Below W.heap.size W W') : RT w W' b g F f := ⟨h.1.trans (k.mono h.1.size), h.2.1.below k, h.2.2.1.same (k.block g h.2.2.1.lt), h.2.2.2⟩
theorem RT.congr {w W : World} {b g : Nat} {F : Fo} {f f' : Nat → Nat} (h : RT w W b g F f) (e : ∀ i, f' i = f i) : RT w W b g F f' := by
  obtain rfl : f' = f := funext e
  exact h
theorem RT.bump {w W : World} {b g : Nat} {F : Fo} {f : Nat → Nat} (h : RT w W b g F f) (k : Nat) (hk : k < 40) : RT w (W.setCell ⟨g, k, none⟩ (.int .i64 ((f k : Int) + 1))) b g F (fun i => f i + oneN k i) := by
  have fr : Frm g W (W.setCell ⟨g, k, none⟩ (.int .i64 ((f k : Int) + 1))) := (Frm.refl g W).setCell _ _
  refine ⟨fr.below h.1 h.2.2.2.1 h.1.size, h.2.1.same (fr.block b h.2.1.lt h.2.2.2.2), ?_, h.2.2.2⟩
  have a := h.2.2.1.set k ((f k : Int) + 1) hk
  have e : updZ (fun i => (f i : Int)) k ((f k : Int) + 1) = fun i => ((f i + oneN k i : Nat) : Int) := by
    funext i
    unfold updZ oneN
    by_cases c : i = k
    · subst c; simp
    · rw [if_neg c, if_neg (Ne.symm c)]; simp
  rw [e] at a
  exact a
/-- What was counted of the roots. -/
def Tr.rN (F : Fo) (j i : Nat) : Nat := sumN (fun t => oneN (F.root t) i) (min j F.trees)
theorem Tr.rN_yes {F : Fo} {j : Nat} (h : j < F.trees) (i : Nat) : Tr.rN F (j + 1) i = Tr.rN F j i + oneN (F.root j) i := by
  unfold Tr.rN
  rw [show min (j + 1) F.trees = min j F.trees + 1 by omega]
  show sumN _ _ + _ = _
  rw [show min j F.trees = j by omega]
theorem Tr.rN_no {F : Fo} {j : Nat} (h : F.trees ≤ j) (i : Nat) : Tr.rN F (j + 1) i = Tr.rN F j i := by
  unfold Tr.rN
  rw [show min (j + 1) F.trees = min j F.trees by omega]
theorem Tr.rN_all {F : Fo} (h : F.trees ≤ 4) (i : Nat) : Tr.rN F 4 i = Tr.cntR F i := by
  unfold Tr.rN Tr.cntR
  rw [show min 4 F.trees = F.trees by omega]
/-- .. and of the first directories; of the names of one. -/
def Tr.dN (F : Fo) (n i : Nat) : Nat := Tr.cntR F i + sumN (fun m => Tr.cntM (F.nd m) i) n
def Tr.eN (F : Fo) (n j i : Nat) : Nat := Tr.dN F n i + sumN (fun q => oneN (Tr.fk (F.nd n) ((Tr.lisL F (n : Int)).getD q ⟨#[]⟩).toList) i) j
theorem Tr.dN_no {F : Fo} {n : Nat} (h : (F.nd n).kind ≠ 2) (i : Nat) : Tr.dN F (n + 1) i = Tr.dN F n i := by
  unfold Tr.dN
  show _ + (sumN _ n + Tr.cntM (F.nd n) i) = _
  rw [Tr.cntM_no i h]; omega
theorem Tr.eN_all {F : Fo} (h : Tr.Ok F) {n : Nat} (hn : n < 40) (k2 : (F.nd n).kind = 2) (h2 : Tr.isE F (n : Int) 2 = 0) (i : Nat) : Tr.dN F (n + 1) i = Tr.eN F n (Tr.lisL F (n : Int)).length i := by
  unfold Tr.eN
  rw [Tr.lis_cnt h hn k2 h2]
  unfold Tr.dN
  show _ + (sumN _ n + Tr.cntM (F.nd n) i) = _
  omega
theorem Tr.dN_le {F : Fo} (h : Tr.Ok F) {n : Nat} (hn : n ≤ 40) (i : Nat) : Tr.dN F n i ≤ 324 := by
  have := h.cnt_le i
  have m : ∀ k, sumN (fun m => Tr.cntM (F.nd m) i) n ≤ sumN (fun m => Tr.cntM (F.nd m) i) (n + k) := fun k => by
    induction k with
    | zero => exact Nat.le_refl _
    | succ k ih => exact Nat.le_trans ih (Nat.le_add_right _ _)
  have := m (40 - n)
  rw [show n + (40 - n) = 40 by omega] at this
  unfold Tr.dN
  unfold Tr.cnt at *
  omega
theorem sumN_one_le (f : Nat → Nat) (h : ∀ i, f i ≤ 1) : ∀ n, sumN f n ≤ n
  | 0 => Nat.le_refl _
  | n + 1 => by
    have := sumN_one_le f h n
    have := h n
    show sumN f n + f n ≤ n + 1
    omega
theorem oneN_le (a b : Nat) : oneN a b ≤ 1 := by unfold oneN; split <;> omega
theorem Tr.isE_two {F : Fo} {n : Nat} (hn : n < 40) : Tr.isE F (n : Int) 2 = 0 ↔ (F.nd n).kind = 2 := by
  unfold Tr.isE Tr.nodeE
  rw [if_neg (show ¬((n : Int) < 0 ∨ 39 < (n : Int)) by omega), Int.toNat_natCast]
  constructor
  · intro h
    by_cases c : (F.nd n).kind = 0
    · rw [if_pos c] at h; simp at h
    · rw [if_neg c] at h
      by_cases d : (F.nd n).kind = 2
      · exact d
      · simp [d] at h
  · intro h
    rw [if_neg (by omega)]; simp [h]
/-- What is true of the i-th name of a directory. -/
theorem Tr.lis_kid {F : Fo} (h : Tr.Ok F) {n : Nat} (hn : n < 40) (k2 : (F.nd n).kind = 2) {i : Nat} (hi : i < (Tr.lisL F (n : Int)).length) :
    ∃ K, K < 40 ∧ Tr.FndTo F (n : Int) ((Tr.lisL F (n : Int)).getD i ⟨#[]⟩) K 0 ∧ Tr.fk (F.nd n) ((Tr.lisL F (n : Int)).getD i ⟨#[]⟩).toList = K ∧ Tr.nameB ((Tr.lisL F (n : Int)).getD i ⟨#[]⟩) = true ∧ Tr.nodeE F (K : Int) = 0 ∧ (F.nd K).tree = (F.nd n).tree ∧ ((F.nd K).kind = 2 → (F.nd K).up = n) := by
  have h2 := (Tr.isE_two hn).2 k2
  obtain ⟨j, hj, e, hp⟩ := Tr.lis_at h hn k2 h2 hi
  obtain ⟨a, b, c, d⟩ := h.ki n j hn k2 hj
  refine ⟨(F.nd n).kid j, a, .inr ⟨h2, .inl ⟨j, by rw [Int.toNat_natCast]; exact hp, by rw [Int.toNat_natCast], rfl⟩⟩, Tr.fk_plc hp, ?_, ?_, c, d⟩
  · rw [← e]; exact h.nb n j hn k2 hj
  · unfold Tr.nodeE
    rw [if_neg (by omega), Int.toNat_natCast, if_neg b]
theorem Tr.nodeE_some {F : Fo} {n : Nat} (hn : n < 40) : Tr.nodeE F (n : Int) = if (F.nd n).kind = 0 then 2 else 0 := by
  unfold Tr.nodeE
  rw [if_neg (by omega), Int.toNat_natCast]
end Go.Proofs.Ytfgnhldnmbfnkab

/- Memories, plain: what is mapped; what may be done. The document's own memory, as it lies. -/
import Derived.Test.YtnppahmlifnnnabBc
namespace Go.Proofs.Ytnppahmlifnnnab
open Go.RowKit

namespace Mv
/-- Of each page: how it is mapped (0: not, 1: to be read, 2: to be written, too); its frame and 1. -/
structure Me where
  is : Nat → Nat
  fr : Nat → Nat
def badB (a n : Int) : Bool := decide (a < 0 ∨ 15 < a ∨ n < 1 ∨ 16 - a < n)
def mayB (m : Me) (z : Int) (wr : Bool) : Bool := if z < 0 ∨ 127 < z then false else decide (m.is (z.toNat / 8) = 2) || (decide (m.is (z.toNat / 8) = 1) && !wr)
def wantsB (m : Me) (z : Int) : Bool := mayB m z false && decide (m.fr (z.toNat / 8) = 0)
/-- The pages from a on, up to e, are mapped so. -/
def layM (m : Me) (a e : Nat) (wr : Bool) : Me := { m with is := fun i => if a ≤ i ∧ i < e then (if wr then 2 else 1) else m.is i }
def anyM (m : Me) (a e : Nat) : Bool := (List.range 16).any (fun i => decide (a ≤ i ∧ i < e) && decide (m.is i ≠ 0))
def allM (m : Me) (a e : Nat) : Bool := (List.range 16).all (fun i => !decide (a ≤ i ∧ i < e) || decide (m.is i ≠ 0))
def mapE (m : Me) (a n : Int) : Int := if badB a n = true then 1 else if anyM m a.toNat (a.toNat + n.toNat) = true then 3 else 0
def mapM (m : Me) (a n : Int) (wr : Bool) : Me := if mapE m a n = 0 then layM m a.toNat (a.toNat + n.toNat) wr else m
def proE (m : Me) (a n : Int) : Int := if badB a n = true then 1 else if allM m a.toNat (a.toNat + n.toNat) = true then 0 else 10
def proM (m : Me) (a n : Int) (wr : Bool) : Me := if proE m a n = 0 then layM m a.toNat (a.toNat + n.toNat) wr else m
def resK (m : Me) : Nat → Nat
  | 0 => 0
  | k + 1 => resK m k + if m.fr k = 0 then 0 else 1
theorem bad_no {a n : Int} (h : badB a n = false) : ∃ x k : Nat, a = x ∧ n = k ∧ x < 16 ∧ 1 ≤ k ∧ x + k ≤ 16 := by
  unfold badB at h
  rw [decide_eq_false_iff_not] at h
  exact ⟨a.toNat, n.toNat, by omega, by omega, by omega, by omega, by omega⟩
theorem layM_step {m : Me} {a i : Nat} {wr : Bool} (hi : a ≤ i) (x : Nat) : (layM m a (i + 1) wr).is x = if x = i then (if wr then 2 else 1) else (layM m a i wr).is x := by
  show (if a ≤ x ∧ x < i + 1 then (if wr then 2 else 1) else m.is x) = if x = i then (if wr then 2 else 1) else (if a ≤ x ∧ x < i then (if wr then 2 else 1) else m.is x)
  by_cases c : x = i
  · rw [if_pos (by omega), if_pos c]
  · rw [if_neg c]
    by_cases d : a ≤ x ∧ x < i
    · rw [if_pos (by omega), if_pos d]
    · rw [if_neg (by omega), if_neg d]
theorem layM_none (m : Me) (a : Nat) (wr : Bool) (x : Nat) : (layM m a a wr).is x = m.is x := by
  show (if a ≤ x ∧ x < a then _ else m.is x) = m.is x
  rw [if_neg (by omega)]
theorem anyM_iff {m : Me} {a e : Nat} (he : e ≤ 16) : anyM m a e = true ↔ ∃ i, a ≤ i ∧ i < e ∧ m.is i ≠ 0 := by
  unfold anyM
  rw [List.any_eq_true]
  constructor
  · rintro ⟨i, _, h⟩
    simp only [Bool.and_eq_true, decide_eq_true_eq] at h
    exact ⟨i, h.1.1, h.1.2, h.2⟩
  · rintro ⟨i, h1, h2, h3⟩
    exact ⟨i, by simp; omega, by simp only [Bool.and_eq_true, decide_eq_true_eq]; exact ⟨⟨h1, h2⟩, h3⟩⟩
theorem allM_iff {m : Me} {a e : Nat} (he : e ≤ 16) : allM m a e = true ↔ ∀ i, a ≤ i → i < e → m.is i ≠ 0 := by
  unfold allM
  rw [List.all_eq_true]
  constructor
  · intro h i h1 h2
    have := h i (by simp; omega)
    simp only [Bool.or_eq_true, Bool.not_eq_true', decide_eq_false_iff_not, decide_eq_true_eq] at this
    rcases this with c | c
    · exact absurd ⟨h1, h2⟩ c
    · exact c
  · intro h i _
    simp only [Bool.or_eq_true, Bool.not_eq_true', decide_eq_false_iff_not, decide_eq_true_eq]
    by_cases c : a ≤ i ∧ i < e
    · exact .inr (h i c.1 c.2)
    · exact .inl c
end Mv
open Mv (Me)

def cellM (r : Nat) (m : Me) (own : Nat → Bool) (o : Nat) : Value := if o = 0 then .pointer (some ⟨r, 0, none⟩) else if o < 17 then .int .i64 (m.is (o - 1) : Int) else if o < 33 then .int .i64 (m.fr (o - 17) : Int) else .bool (own (o - 33))
/-- The memory m lies in block b; its bank in block r. -/
structure MAt (w : World) (b r : Nat) (m : Me) (own : Nat → Bool) : Prop where
  blk : ∃ C, w.heap[b]? = some (.cells C 36 (0, 0)) ∧ C.size = 49
  cell : ∀ o, o < 49 → w.cell? ⟨b, o, none⟩ = some (cellM r m own o)
section
variable {w w' : World} {b r : Nat} {m m' : Me} {own own' : Nat → Bool}
theorem MAt.drewN (h : MAt w b r m own) (n : Nat) : MAt (w.drewN n) b r m own := ⟨h.blk, h.cell⟩
theorem MAt.drew (h : MAt w b r m own) : MAt w.drew b r m own := ⟨h.blk, h.cell⟩
theorem MAt.frozen (h : MAt w b r m own) (o : Nat) : w.frozen? ⟨b, o, none⟩ = false := by obtain ⟨C, h1, _⟩ := h.blk; exact frozen_blk h1 o
theorem MAt.lt (h : MAt w b r m own) : b < w.heap.size := by obtain ⟨C, h1, _⟩ := h.blk; exact (Array.getElem?_eq_some_iff.1 h1).1
theorem MAt.same (h : MAt w b r m own) (e : w'.heap[b]? = w.heap[b]?) : MAt w' b r m own := ⟨by rw [e]; exact h.blk, fun o ho => (World.cell?_of_block e).trans (h.cell o ho)⟩
theorem MAt.below (h : MAt w b r m own) (k : Below w.heap.size w w') : MAt w' b r m own := h.same (k.block b h.lt)
theorem MAt.congr (h : MAt w b r m own) (e : ∀ o, o < 49 → cellM r m' own' o = cellM r m own o) : MAt w b r m' own' := ⟨h.blk, fun o ho => by rw [e o ho]; exact h.cell o ho⟩
theorem MAt.cBank (h : MAt w b r m own) : w.cell? ⟨b, 0, none⟩ = some (.pointer (some ⟨r, 0, none⟩)) := h.cell 0 (by omega)
theorem MAt.cIs (h : MAt w b r m own) (i : Nat) (hi : i < 16) : w.cell? ⟨b, 1 + i, none⟩ = some (.int .i64 (m.is i : Int)) := by
  rw [h.cell _ (by omega), cellM, if_neg (by omega), if_pos (by omega), show 1 + i - 1 = i by omega]
theorem MAt.cFr (h : MAt w b r m own) (i : Nat) (hi : i < 16) : w.cell? ⟨b, 17 + i, none⟩ = some (.int .i64 (m.fr i : Int)) := by
  rw [h.cell _ (by omega), cellM, if_neg (by omega), if_neg (by omega), if_pos (by omega), show 17 + i - 17 = i by omega]
theorem MAt.cOwn (h : MAt w b r m own) (i : Nat) (hi : i < 16) : w.cell? ⟨b, 33 + i, none⟩ = some (.bool (own i)) := by
  rw [h.cell _ (by omega), cellM, if_neg (by omega), if_neg (by omega), if_neg (by omega), show 33 + i - 33 = i by omega]
theorem MAt.set (h : MAt w b r m own) (o : Nat) (ho : o < 49) (v : Value) (hv : ∀ i, i < 49 → cellM r m' own' i = if i = o then v else cellM r m own i) : MAt (w.setCell ⟨b, o, none⟩ v) b r m' own' := by
  obtain ⟨C, h1, h2⟩ := h.blk
  refine ⟨⟨_, blk_set h1 _ v, by simpa using h2⟩, fun i hi => ?_⟩
  rw [hv i hi]
  by_cases e : i = o
  · subst e; rw [cell_set_same h1 _ v (by omega), if_pos rfl]
  · rw [cell_set_ne h1 _ _ v (Ne.symm e), if_neg e]; exact h.cell i hi
def upn (f : Nat → Nat) (i v : Nat) : Nat → Nat := fun j => if j = i then v else f j
def upo (f : Nat → Bool) (i : Nat) (v : Bool) : Nat → Bool := fun j => if j = i then v else f j
theorem MAt.setIs (h : MAt w b r m own) (i v : Nat) (hi : i < 16) : MAt (w.setCell ⟨b, 1 + i, none⟩ (.int .i64 (v : Int))) b r { m with is := upn m.is i v } own := by
  refine h.set (1 + i) (by omega) _ (fun x hx => ?_)
  unfold cellM upn
  by_cases c0 : x = 0
  · simp [c0, show (0 : Nat) ≠ 1 + i by omega]
  · by_cases c : x < 17
    · by_cases e : x = 1 + i
      · simp [e, show 1 + i < 17 by omega]
      · simp [c0, c, e, show x - 1 ≠ i by omega]
    · simp [c0, c, show x ≠ 1 + i by omega]
theorem MAt.setFr (h : MAt w b r m own) (i v : Nat) (hi : i < 16) : MAt (w.setCell ⟨b, 17 + i, none⟩ (.int .i64 (v : Int))) b r { m with fr := upn m.fr i v } own := by
  refine h.set (17 + i) (by omega) _ (fun x hx => ?_)
  unfold cellM upn
  by_cases c0 : x = 0
  · simp [c0, show (0 : Nat) ≠ 17 + i by omega]
  · by_cases c : x < 17
    · simp [c0, c, show x ≠ 17 + i by omega]
    · by_cases c2 : x < 33
      · by_cases e : x = 17 + i
        · subst e; rw [if_neg c0, if_neg c, if_pos c2, if_pos rfl]; simp
        · simp [c0, c, c2, e, show x - 17 ≠ i by omega]
      · simp [c0, c, c2, show x ≠ 17 + i by omega]
theorem MAt.setOwn (h : MAt w b r m own) (i : Nat) (v : Bool) (hi : i < 16) : MAt (w.setCell ⟨b, 33 + i, none⟩ (.bool v)) b r m (upo own i v) := by
  refine h.set (33 + i) (by omega) _ (fun x hx => ?_)
  unfold cellM upo
  by_cases c0 : x = 0
  · simp [c0, show (0 : Nat) ≠ 33 + i by omega]
  · by_cases c : x < 17
    · simp [c0, c, show x ≠ 33 + i by omega]
    · by_cases c2 : x < 33
      · simp [c0, c, c2, show x ≠ 33 + i by omega]
      · by_cases e : x = 33 + i
        · subst e; rw [if_neg c0, if_neg c, if_neg c2, if_pos rfl]; simp
        · simp [c0, c, c2, e, show x - 33 ≠ i by omega]
end
end Go.Proofs.Ytnppahmlifnnnab

/- Regions of a memory, plain: as the code finds them (a kind at a time), as the document's own does; put in order they are the same. -/
import Derived.Test.YtnppahmlifnnnabNh
namespace Go.Proofs.Ytnppahmlifnnnab
open Mv (Me)
namespace Mv
/-- A region: from where, how many pages, may it be written? -/
abbrev Rg := Nat × Nat × Bool
def asN (t : Bool) : Nat := if t then 2 else 1
/-- The last region has one page more. -/
def bump (L : List Rg) : List Rg := match L.getLast? with
  | none => L
  | some x => L.dropLast ++ [(x.1, x.2.1 + 1, x.2.2)]
theorem bump_app (I : List Rg) (x : Rg) : bump (I ++ [x]) = I ++ [(x.1, x.2.1 + 1, x.2.2)] := by simp [bump]
/-- Does page n go on where page n - 1 was? -/
def goesOn (m : Me) (n : Nat) : Bool := decide (0 < n) && decide (m.is (n - 1) = m.is n)
/-- The regions of one kind among the first pages. -/
def spK (m : Me) (t : Bool) : Nat → List Rg
  | 0 => []
  | n + 1 => if m.is n = asN t then (if goesOn m n = true then bump (spK m t n) else spK m t n ++ [(n, 1, t)]) else spK m t n
/-- All regions among the first pages. -/
def rgK (m : Me) : Nat → List Rg
  | 0 => []
  | n + 1 => if m.is n = 0 then rgK m n else (if goesOn m n = true then bump (rgK m n) else rgK m n ++ [(n, 1, decide (m.is n = 2))])
/-- What is true of them. -/
structure RgI (m : Me) (n : Nat) : Prop where
  perm : (spK m false n ++ spK m true n).Perm (rgK m n)
  srt : (rgK m n).Pairwise (fun x y => x.1 < y.1)
  le : ∀ x ∈ rgK m n, x.1 < n ∧ 1 ≤ x.2.1 ∧ x.1 + x.2.1 ≤ n ∧ (x.1 + x.2.1 = n → 0 < n ∧ m.is (n - 1) = asN x.2.2)
  last : 0 < n → ∀ t, m.is (n - 1) = asN t → ∃ I J f c, spK m t n = I ++ [(f, c, t)] ∧ rgK m n = J ++ [(f, c, t)] ∧ f + c = n
theorem asN_inj {a b : Bool} (h : asN a = asN b) : a = b := by cases a <;> cases b <;> first | rfl | (unfold asN at h; simp at h)
theorem asN_pos (t : Bool) : asN t ≠ 0 := by cases t <;> decide
theorem asN_of {v : Nat} (h0 : v ≠ 0) (h2 : v ≤ 2) : v = asN (decide (v = 2)) := by
  unfold asN
  by_cases c : v = 2
  · subst c; rfl
  · have : v = 1 := by omega
    subst this; rfl
theorem perm_mid {α : Type} {A B C : List α} {x y : α} (h : ((A ++ [x]) ++ B).Perm (C ++ [x])) : ((A ++ [y]) ++ B).Perm (C ++ [y]) := by
  have e1 : ((A ++ [x]) ++ B).Perm (x :: (A ++ B)) := by rw [List.append_assoc]; exact List.perm_middle
  have e2 : (C ++ [x]).Perm (x :: C) := List.perm_append_comm
  have e3 : (A ++ B).Perm C := List.Perm.cons_inv ((e1.symm.trans h).trans e2)
  have e4 : ((A ++ [y]) ++ B).Perm (y :: (A ++ B)) := by rw [List.append_assoc]; exact List.perm_middle
  exact (e4.trans (e3.cons y)).trans (List.perm_append_comm (l₁ := [y])) 
theorem perm_end {α : Type} {A B C : List α} {x y : α} (h : (A ++ (B ++ [x])).Perm (C ++ [x])) : (A ++ (B ++ [y])).Perm (C ++ [y]) := by
  rw [← List.append_assoc] at h ⊢
  have e3 : (A ++ B).Perm C := by
    have e1 : ((A ++ B) ++ [x]).Perm (x :: (A ++ B)) := List.perm_append_comm
    have e2 : (C ++ [x]).Perm (x :: C) := List.perm_append_comm
    exact List.Perm.cons_inv ((e1.symm.trans h).trans e2)
  exact e3.append_right _
theorem RgI.zero (m : Me) : RgI m 0 := ⟨List.Perm.refl _, List.Pairwise.nil, fun x hx => absurd hx (by simp [rgK]), fun h => absurd h (by omega)⟩
theorem RgI.step {m : Me} {n : Nat} (h : RgI m n) (h2 : m.is n ≤ 2) : RgI m (n + 1) := by
  by_cases h0 : m.is n = 0
  · have eR : rgK m (n + 1) = rgK m n := if_pos h0
    have eS : ∀ t, spK m t (n + 1) = spK m t n := fun t => if_neg (by rw [h0]; exact fun e => asN_pos t e.symm)
    refine ⟨by rw [eR, eS, eS]; exact h.perm, by rw [eR]; exact h.srt, fun x hx => ?_, fun _ t ht => ?_⟩
    · rw [eR] at hx
      have := h.le x hx
      exact ⟨by omega, this.2.1, by omega, fun e => by omega⟩
    · rw [Nat.add_sub_cancel, h0] at ht
      exact absurd ht.symm (asN_pos t)
  · obtain ⟨t, ht⟩ : ∃ t, m.is n = asN t := ⟨_, asN_of h0 h2⟩
    have dt : decide (m.is n = 2) = t := by
      rw [ht]
      cases t <;> rfl
    have oth : ∀ u, u ≠ t → spK m u (n + 1) = spK m u n := fun u hu => if_neg (by rw [ht]; exact fun e => hu (asN_inj e.symm))
    by_cases g : goesOn m n = true
    · have g' := g
      unfold goesOn at g'
      simp only [Bool.and_eq_true, decide_eq_true_eq] at g'
      obtain ⟨I, J, f, c, e1, e2, e3⟩ := h.last g'.1 t (by rw [g'.2]; exact ht)
      have eS : spK m t (n + 1) = I ++ [(f, c + 1, t)] := by
        show (if m.is n = asN t then (if goesOn m n = true then bump (spK m t n) else _) else _) = _
        rw [if_pos ht, if_pos g, e1, bump_app]
      have eR : rgK m (n + 1) = J ++ [(f, c + 1, t)] := by
        show (if m.is n = 0 then _ else (if goesOn m n = true then bump (rgK m n) else _)) = _
        rw [if_neg h0, if_pos g, e2, bump_app]
      have hp := h.perm
      have hs := h.srt
      rw [e2] at hp hs
      refine ⟨?_, ?_, fun x hx => ?_, fun _ u hu => ?_⟩
      · rw [eR]
        cases t
        · rw [eS, oth true (by decide)]
          rw [e1] at hp
          exact perm_mid hp
        · rw [eS, oth false (by decide)]
          rw [e1] at hp
          exact perm_end hp
      · rw [eR]
        rw [List.pairwise_append] at hs ⊢
        exact ⟨hs.1, List.pairwise_singleton _ _, fun a ha b hb => by
          rw [List.mem_singleton] at hb
          subst hb
          exact hs.2.2 a ha (f, c, t) (by simp)⟩
      · rw [eR] at hx
        rcases List.mem_append.1 hx with hx | hx
        · have := h.le x (by rw [e2]; exact List.mem_append_left _ hx)
          refine ⟨by omega, this.2.1, by omega, fun e => by omega⟩
        · rw [List.mem_singleton] at hx
          subst hx
          have := h.le (f, c, t) (by rw [e2]; simp)
          exact ⟨by have := this.1; show f < n + 1; omega, by show 1 ≤ c + 1; omega, by show f + (c + 1) ≤ n + 1; omega, fun _ => ⟨by omega, by rw [Nat.add_sub_cancel]; exact ht⟩⟩
      · rw [Nat.add_sub_cancel, ht] at hu
        obtain rfl := asN_inj hu
        exact ⟨I, J, f, c + 1, eS, eR, by omega⟩
    · have eS : spK m t (n + 1) = spK m t n ++ [(n, 1, t)] := by
        show (if m.is n = asN t then (if goesOn m n = true then _ else spK m t n ++ [(n, 1, t)]) else _) = _
        rw [if_pos ht, if_neg g]
      have eR : rgK m (n + 1) = rgK m n ++ [(n, 1, t)] := by
        show (if m.is n = 0 then _ else (if goesOn m n = true then _ else rgK m n ++ [(n, 1, decide (m.is n = 2))])) = _
        rw [if_neg h0, if_neg g, dt]
      refine ⟨?_, ?_, fun x hx => ?_, fun _ u hu => ?_⟩
      · rw [eR]
        have hp := h.perm
        cases t
        · rw [eS, oth true (by decide)]
          have e4 : ((spK m false n ++ [(n, 1, false)]) ++ spK m true n).Perm ((n, 1, false) :: (spK m false n ++ spK m true n)) := by rw [List.append_assoc]; exact List.perm_middle
          exact (e4.trans (hp.cons _)).trans (List.perm_append_comm (l₁ := [(n, 1, false)]))
        · rw [eS, oth false (by decide), ← List.append_assoc]
          exact hp.append_right _
      · rw [eR, List.pairwise_append]
        exact ⟨h.srt, List.pairwise_singleton _ _, fun a ha b hb => by
          rw [List.mem_singleton] at hb
          subst hb
          exact (h.le a ha).1⟩
      · rw [eR] at hx
        rcases List.mem_append.1 hx with hx | hx
        · have := h.le x hx
          exact ⟨by omega, this.2.1, by omega, fun e => by omega⟩
        · rw [List.mem_singleton] at hx
          subst hx
          exact ⟨by show n < n + 1; omega, Nat.le_refl _, Nat.le_refl _, fun _ => ⟨by omega, by rw [Nat.add_sub_cancel]; exact ht⟩⟩
      · rw [Nat.add_sub_cancel, ht] at hu
        obtain rfl := asN_inj hu
        exact ⟨_, _, n, 1, eS, eR, rfl⟩
theorem rgI (m : Me) (h : ∀ i, i < 16 → m.is i ≤ 2) : ∀ n, n ≤ 16 → RgI m n := by
  intro n
  induction n with
  | zero => intro _; exact RgI.zero m
  | succ n ih => intro hn; exact (ih (by omega)).step (h n (by omega))
/-- Put in order by where they begin, the code's regions are the document's. -/
theorem rg_sorted {m : Me} {n : Nat} (h : RgI m n) {L : List Rg} (hp : L.Perm (spK m false n ++ spK m true n)) (hs : L.Pairwise (fun x y => x.1 ≤ y.1)) : L = rgK m n := by
  have hp2 := hp.trans h.perm
  refine List.Perm.eq_of_pairwise (le := fun x y => x.1 ≤ y.1) (fun a b ha hb h1 h2 => ?_) hs (h.srt.imp (fun h => Nat.le_of_lt h)) hp2
  have ha' := hp2.subset ha
  by_cases e : a = b
  · exact e
  · exfalso
    obtain ⟨i, hi, ei⟩ := List.mem_iff_getElem.1 ha'
    obtain ⟨j, hj, ej⟩ := List.mem_iff_getElem.1 hb
    have k := List.pairwise_iff_getElem.1 h.srt
    rcases Nat.lt_trichotomy i j with c | c | c
    · have := k i j hi hj c; rw [ei, ej] at this; omega
    · subst c; exact e (ei.symm.trans ej)
    · have := k j i hj hi c; rw [ei, ej] at this; omega
theorem spK_len (m : Me) (t : Bool) : ∀ n, (spK m t n).length ≤ n := by
  intro n
  induction n with
  | zero => exact Nat.le_refl 0
  | succ n ih =>
    show (if m.is n = asN t then (if goesOn m n = true then bump (spK m t n) else spK m t n ++ [(n, 1, t)]) else spK m t n).length ≤ n + 1
    have bl : ∀ L : List Rg, (bump L).length = L.length := fun L => by
      rcases List.eq_nil_or_concat L with rfl | ⟨I, x, rfl⟩
      · rfl
      · rw [List.concat_eq_append, bump_app]; simp
    split
    · split
      · rw [bl]; omega
      · rw [List.length_append]; simp; omega
    · omega
end Mv
end Go.Proofs.Ytnppahmlifnnnab

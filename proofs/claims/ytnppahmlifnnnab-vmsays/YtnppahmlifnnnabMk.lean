/- The document's own memory: Unmap. -/
import Derived.Test.YtnppahmlifnnnabMj
namespace Go.Proofs.Ytnppahmlifnnnab
open Go.RowKit
open Bd (P)
open Mv (Me Bk)

namespace Mv
/-- How many of the first pages hold frame f. -/
def cntK (fr : Nat → Nat) (f : Nat) : Nat → Nat
  | 0 => 0
  | i + 1 => cntK fr f i + if fr i = f + 1 then 1 else 0
theorem cntK_congr {fr fs : Nat → Nat} {f n : Nat} (h : ∀ i, i < n → fs i = fr i) : cntK fs f n = cntK fr f n := by
  induction n with
  | zero => rfl
  | succ n ih => show cntK fs f n + _ = cntK fr f n + _; rw [ih (fun i hi => h i (by omega)), h n (by omega)]
theorem cntK_out {fr fs : Nat → Nat} {f n i : Nat} (hi : i < n) (e : fr i = f + 1) (h0 : fs i = 0) (h : ∀ j, j ≠ i → fs j = fr j) : cntK fs f n + 1 = cntK fr f n := by
  induction n with
  | zero => omega
  | succ n ih =>
    show cntK fs f n + (if fs n = f + 1 then 1 else 0) + 1 = cntK fr f n + if fr n = f + 1 then 1 else 0
    by_cases c : i = n
    · subst c
      rw [cntK_congr (fun j hj => h j (by omega)), h0, e, if_neg (by omega), if_pos rfl]
    · rw [h n (fun d => c d.symm)]
      have := ih (by omega)
      omega
theorem cntK_other {fr fs : Nat → Nat} {f n i : Nat} (e : fr i ≠ f + 1) (h0 : fs i = 0) (h : ∀ j, j ≠ i → fs j = fr j) : cntK fs f n = cntK fr f n := by
  induction n with
  | zero => rfl
  | succ n ih =>
    show cntK fs f n + _ = cntK fr f n + _
    rw [ih]
    by_cases c : i = n
    · subst c; rw [h0, if_neg (by omega), if_neg e]
    · rw [h n (fun d => c d.symm)]
theorem cntK_pos {fr : Nat → Nat} {f n i : Nat} (hi : i < n) (e : fr i = f + 1) : 1 ≤ cntK fr f n := by
  induction n with
  | zero => omega
  | succ n ih =>
    show 1 ≤ cntK fr f n + if fr n = f + 1 then 1 else 0
    by_cases c : i = n
    · subst c; rw [if_pos e]; omega
    · have := ih (by omega); omega
/-- The pool is whole; each frame is held at least as often as this memory's pages hold it. -/
structure Cnt (m : Me) (k : Bk) : Prop where
  inv : Bd.Inv k.pool
  nb : Bd.NB k.pool 64
  le : ∀ i, i < 16 → m.fr i ≤ 64
  cnt : ∀ f, f < 64 → cntK m.fr f 16 ≤ k.refs f ∧ k.refs f < 2 ^ 59
def umM (m : Me) (a i : Nat) : Me := ⟨fun x => if a ≤ x ∧ x < i then 0 else m.is x, fun x => if a ≤ x ∧ x < i then 0 else m.fr x⟩
def umO (own : Nat → Bool) (a i : Nat) : Nat → Bool := fun x => if a ≤ x ∧ x < i then false else own x
def umK (m : Me) (k : Bk) (a : Nat) : Nat → Bk
  | 0 => k
  | j + 1 => if m.fr (a + j) = 0 then umK m k a j else drp (umK m k a j) (m.fr (a + j) - 1)
def umC (m : Me) (a : Nat) : Nat → Nat
  | 0 => 0
  | j + 1 => umC m a j + if m.fr (a + j) = 0 then 0 else 1
theorem umC_le (m : Me) (a j : Nat) : umC m a j ≤ j := by
  induction j with
  | zero => exact Nat.le_refl 0
  | succ j ih => show umC m a j + _ ≤ j + 1; split <;> omega
theorem if_at (a j : Nat) {α} (x y : α) : (if a ≤ a + j ∧ a + j < a + (j + 1) then x else y) = x := if_pos (by omega)
theorem if_step {a j x : Nat} (h : x ≠ a + j) {α} (u v : α) : (if a ≤ x ∧ x < a + (j + 1) then u else v) = if a ≤ x ∧ x < a + j then u else v := by
  by_cases c : a ≤ x ∧ x < a + j
  · rw [if_pos c, if_pos (by omega)]
  · rw [if_neg c, if_neg (by omega)]
theorem Cnt.step {m : Me} {k : Bk} {a j : Nat} (h : Cnt (umM m a (a + j)) (umK m k a j)) (hj : a + j < 16) : Cnt (umM m a (a + (j + 1))) (umK m k a (j + 1)) := by
  have e0 : (umM m a (a + j)).fr (a + j) = m.fr (a + j) := if_neg (by omega)
  have e1 : (umM m a (a + (j + 1))).fr (a + j) = 0 := if_at a j _ _
  have e2 : ∀ x, x ≠ a + j → (umM m a (a + (j + 1))).fr x = (umM m a (a + j)).fr x := fun x hx => if_step hx _ _
  have le : ∀ i, i < 16 → (umM m a (a + (j + 1))).fr i ≤ 64 := fun i hi => by
    by_cases c : i = a + j
    · subst c; rw [e1]; omega
    · rw [e2 i c]; exact h.le i hi
  by_cases c : m.fr (a + j) = 0
  · have eK : umK m k a (j + 1) = umK m k a j := if_pos c
    rw [eK]
    refine ⟨h.inv, h.nb, le, fun f hf => ?_⟩
    rw [cntK_congr (fr := (umM m a (a + j)).fr) (fun x _ => by
      by_cases d : x = a + j
      · subst d; rw [e1, e0, c]
      · exact e2 x d)]
    exact h.cnt f hf
  · have eK : umK m k a (j + 1) = drp (umK m k a j) (m.fr (a + j) - 1) := if_neg c
    rw [eK]
    have l := h.le (a + j) hj
    rw [e0] at l
    have ip : Bd.Inv (drp (umK m k a j) (m.fr (a + j) - 1)).pool ∧ Bd.NB (drp (umK m k a j) (m.fr (a + j) - 1)).pool 64 := by
      show Bd.Inv (if _ then _ else _) ∧ Bd.NB (if _ then _ else _) 64
      split
      · exact h.inv.give h.nb _
      · exact ⟨h.inv, h.nb⟩
    refine ⟨ip.1, ip.2, le, fun f hf => ?_⟩
    have hc := h.cnt f hf
    show _ ≤ (if f = m.fr (a + j) - 1 then (umK m k a j).refs (m.fr (a + j) - 1) - 1 else (umK m k a j).refs f) ∧ (if f = m.fr (a + j) - 1 then (umK m k a j).refs (m.fr (a + j) - 1) - 1 else (umK m k a j).refs f) < 2 ^ 59
    by_cases d : f = m.fr (a + j) - 1
    · have := cntK_out (f := f) hj (by rw [e0]; omega) e1 e2
      rw [if_pos d, ← d]
      omega
    · rw [if_neg d, cntK_other (fr := (umM m a (a + j)).fr) (by rw [e0]; omega) e1 e2]
      exact hc
end Mv
theorem umM_step {m : Me} {a j x : Nat} (h : x ≠ a + j) : (Mv.umM m a (a + (j + 1))).is x = (Mv.umM m a (a + j)).is x ∧ (Mv.umM m a (a + (j + 1))).fr x = (Mv.umM m a (a + j)).fr x := ⟨Mv.if_step h _ _, Mv.if_step h _ _⟩
theorem umM_at (m : Me) (a j : Nat) : (Mv.umM m a (a + (j + 1))).is (a + j) = 0 ∧ (Mv.umM m a (a + (j + 1))).fr (a + j) = 0 := ⟨Mv.if_at a j _ _, Mv.if_at a j _ _⟩
theorem cellM_congr {r : Nat} {m m' : Me} {own own' : Nat → Bool} (h1 : ∀ i, i < 16 → m'.is i = m.is i) (h2 : ∀ i, i < 16 → m'.fr i = m.fr i) (h3 : ∀ i, i < 16 → own' i = own i) (o : Nat) (ho : o < 49) : cellM r m' own' o = cellM r m own o := by
  unfold cellM
  by_cases c0 : o = 0
  · rw [if_pos c0, if_pos c0]
  · rw [if_neg c0, if_neg c0]
    by_cases c1 : o < 17
    · rw [if_pos c1, if_pos c1, h1 _ (by omega)]
    · rw [if_neg c1, if_neg c1]
      by_cases c2 : o < 33
      · rw [if_pos c2, if_pos c2, h2 _ (by omega)]
      · rw [if_neg c2, if_neg c2, h3 _ (by omega)]
end Go.Proofs.Ytnppahmlifnnnab

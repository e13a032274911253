/- What is charged to a group itself is what it has less what those right below it have. No Go in sight. -/
import Derived.Test.YtgabceeekkcekaaHu
namespace Go.Proofs.Ytgabceeekkcekaa
section
variable {t : Nat → Gp} {Wy : Nat → List (Fin 10)} {c : Nat}
/-- k is right below n. -/
def kid (t : Nat → Gp) (n k : Nat) : Bool := (t k).there && decide ((t k).par = (n : Int))
theorem kid_iff {n k : Nat} : kid t n k = true ↔ (t k).there = true ∧ (t k).par = (n : Int) := by unfold kid; rw [Bool.and_eq_true, decide_eq_true_iff]
theorem und_mem {j n : Nat} : und Wy j n = true ↔ n ∈ vals (Wy j) := by
  rw [und_iff]
  simp only [vals, List.mem_map]
  constructor
  · rintro ⟨x, hx, e⟩; exact ⟨x, hx, by omega⟩
  · rintro ⟨x, hx, e⟩; exact ⟨x, hx, by omega⟩
/-- A way that passes by a child of n goes on as n's way. -/
theorem way_split (h : Ways t Wy) {j k n : Nat} (hj : j < 10) (hn : n < 10) (hk : kid t n k = true) (hu : k ∈ vals (Wy j)) : ∃ A, vals (Wy j) = A ++ k :: vals (Wy n) := by
  obtain ⟨A, B, hAB⟩ := List.append_of_mem hu
  have hw := h j hj
  rw [hAB] at hw
  obtain ⟨_, _, _, h4⟩ := way_tail hw
  rw [(kid_iff.1 hk).2] at h4
  exact ⟨A, by rw [hAB, h4.unique (h n hn)]⟩
theorem kid_unique (h : Ways t Wy) {j k k' n : Nat} (hj : j < 10) (hn : n < 10) (hk : kid t n k = true) (hk' : kid t n k' = true) (hu : k ∈ vals (Wy j)) (hu' : k' ∈ vals (Wy j)) : k = k' := by
  obtain ⟨A, hA⟩ := way_split h hj hn hk hu
  obtain ⟨B, hB⟩ := way_split h hj hn hk' hu'
  rw [hA] at hB
  have := List.append_inj_right' hB (by simp)
  simpa using this
theorem way_prev : ∀ {g : Int} {A B : List Nat} {n : Nat}, Way t g (A ++ n :: B) → A ≠ [] → ∃ k, k ∈ A ∧ k < 10 ∧ kid t n k = true
  | _, [], _, _, _, h => absurd rfl h
  | _, [x], _, _, ⟨_, h2, h3, h4⟩, _ => ⟨x, by simp, h2, kid_iff.2 ⟨h3, h4.1⟩⟩
  | _, x :: y :: A, B, n, ⟨_, _, _, h4⟩, _ => by
    obtain ⟨k, hk, h⟩ := way_prev (A := y :: A) h4 (by simp)
    exact ⟨k, by simp at hk ⊢; exact .inr hk, h⟩
theorem kid_some (h : Ways t Wy) {j n : Nat} (hj : j < 10) (hn : n < 10) (hnh : (t n).there = true) : (∃ k, k < 10 ∧ kid t n k = true ∧ und Wy j k = true) ↔ (und Wy j n = true ∧ j ≠ n) := by
  constructor
  · rintro ⟨k, _, hk, hu⟩
    obtain ⟨A, hA⟩ := way_split h hj hn hk (und_mem.1 hu)
    have hself := und_mem.1 (und_self h hn hnh)
    refine ⟨und_mem.2 (by rw [hA]; simp [hself]), fun e => ?_⟩
    rw [e] at hA
    have := congrArg List.length hA
    simp at this
    omega
  · rintro ⟨hu, hne⟩
    obtain ⟨A, B, hAB⟩ := List.append_of_mem (und_mem.1 hu)
    have hw := h j hj
    rw [hAB] at hw
    have hA : A ≠ [] := fun e => by
      rw [e] at hw
      have := hw.1
      omega
    obtain ⟨k, hk, hk10, hkid⟩ := way_prev hw hA
    exact ⟨k, hk10, hkid, und_mem.2 (by rw [hAB]; simp [hk])⟩
/-- What those right below n have, of the first J, among the first K. -/
def kidTo (t : Nat → Gp) (Wy : Nat → List (Fin 10)) (n : Nat) (sel : Gp → Int) (J : Nat) : Nat → Int
  | 0 => 0
  | K + 1 => kidTo t Wy n sel J K + if kid t n K = true then totTo t Wy K sel J else 0
theorem kidTo_zero {n : Nat} {sel : Gp → Int} : ∀ K, kidTo t Wy n sel 0 K = 0
  | 0 => rfl
  | K + 1 => by unfold kidTo; rw [kidTo_zero K]; simp [totTo]
def cntTo (t : Nat → Gp) (Wy : Nat → List (Fin 10)) (n : Nat) (sel : Gp → Int) (j : Nat) : Nat → Int
  | 0 => 0
  | K + 1 => cntTo t Wy n sel j K + if kid t n K = true ∧ und Wy j K = true then sel (t j) else 0
theorem kidTo_succ {n : Nat} {sel : Gp → Int} (J : Nat) : ∀ K, kidTo t Wy n sel (J + 1) K = kidTo t Wy n sel J K + cntTo t Wy n sel J K
  | 0 => rfl
  | K + 1 => by
    unfold kidTo cntTo
    rw [kidTo_succ J K]
    have e : totTo t Wy K sel (J + 1) = totTo t Wy K sel J + if und Wy J K = true then sel (t J) else 0 := rfl
    rw [e]
    by_cases hk : kid t n K = true
    · by_cases hu : und Wy J K = true
      · simp [hk, hu]; omega
      · simp [hk, hu]; omega
    · simp [hk]
theorem cntTo_eq (h : Ways t Wy) {n : Nat} {sel : Gp → Int} {j : Nat} (hj : j < 10) (hn : n < 10) : ∀ K, (¬ (∃ k, k < K ∧ kid t n k = true ∧ und Wy j k = true) → cntTo t Wy n sel j K = 0) ∧ ((∃ k, k < K ∧ kid t n k = true ∧ und Wy j k = true) → cntTo t Wy n sel j K = sel (t j))
  | 0 => ⟨fun _ => rfl, fun ⟨k, hk, _⟩ => by omega⟩
  | K + 1 => by
    have ih := cntTo_eq h (sel := sel) hj hn K
    constructor
    · intro hno
      unfold cntTo
      rw [ih.1 (fun ⟨k, hk, hx⟩ => hno ⟨k, by omega, hx⟩), if_neg (fun hx => hno ⟨K, by omega, hx⟩)]
      rfl
    · rintro ⟨k, hk, hx⟩
      unfold cntTo
      by_cases e : k = K
      · subst e
        rw [if_pos hx, ih.1 (fun ⟨k', hk', hx'⟩ => by
          have := kid_unique h hj hn hx'.1 hx.1 (und_mem.1 hx'.2) (und_mem.1 hx.2)
          omega)]
        omega
      · rw [ih.2 ⟨k, by omega, hx⟩, if_neg (fun hx' => by
          have := kid_unique h hj hn hx'.1 hx.1 (und_mem.1 hx'.2) (und_mem.1 hx.2)
          omega)]
        omega
/-- What n has, less what those right below it have, is its own. -/
theorem own_kids (h : Ways t Wy) {n : Nat} {sel : Gp → Int} (hn : n < 10) (hnh : (t n).there = true) : ∀ J, J ≤ 10 → totTo t Wy n sel J - kidTo t Wy n sel J 10 = if n < J then sel (t n) else 0
  | 0, _ => by rw [kidTo_zero]; rfl
  | J + 1, hJ => by
    have ih := own_kids h (sel := sel) hn hnh J (by omega)
    rw [kidTo_succ]
    have e : totTo t Wy n sel (J + 1) = totTo t Wy n sel J + if und Wy J n = true then sel (t J) else 0 := rfl
    rw [e]
    have hc := cntTo_eq h (sel := sel) (show J < 10 by omega) hn 10
    have hs := kid_some h (show J < 10 by omega) hn hnh
    by_cases hu : und Wy J n = true
    · by_cases hJn : J = n
      · subst hJn
        rw [if_pos hu, hc.1 (fun hx => (hs.1 hx).2 rfl), if_pos (by omega)]
        rw [if_neg (by omega)] at ih
        omega
      · rw [if_pos hu, hc.2 (hs.2 ⟨hu, hJn⟩)]
        by_cases hl : n < J
        · rw [if_pos hl] at ih; rw [if_pos (by omega)]; omega
        · rw [if_neg hl] at ih; rw [if_neg (by omega)]; omega
    · have hJn : J ≠ n := fun e => by rw [e] at hu; exact hu (und_self h hn hnh)
      rw [if_neg hu, hc.1 (fun hx => hu (hs.1 hx).1)]
      by_cases hl : n < J
      · rw [if_pos hl] at ih; rw [if_pos (by omega)]; omega
      · rw [if_neg hl] at ih; rw [if_neg (by omega)]; omega
theorem kidTo_bd {n : Nat} {sel : Gp → Int} (h0 : ∀ k, k < 10 → 0 ≤ sel (t k) ∧ sel (t k) ≤ 1000000) : ∀ K, K ≤ 10 → 0 ≤ kidTo t Wy n sel 10 K ∧ kidTo t Wy n sel 10 K ≤ 10000000 * K
  | 0, _ => by simp [kidTo]
  | K + 1, hK => by
    have ih := kidTo_bd (n := n) h0 K (by omega)
    have := totTo_bd Wy (K : Int) h0 10 (Nat.le_refl _)
    unfold kidTo
    split <;> omega

/-- So much more on each of a list. -/
def layG (G : Nat → Nat → Int) (L : List Nat) (p q : Int) : Nat → Nat → Int := fun k j => if k ∈ L then (if j = 3 then G k 3 + p else if j = 4 then G k 4 + q else G k j) else G k j
theorem layG_nil (G : Nat → Nat → Int) (p q : Int) : layG G [] p q = G := by funext k j; simp [layG]
theorem layG_snoc (G : Nat → Nat → Int) (L : List Nat) (x : Nat) (p q : Int) (hx : x ∉ L) : updG (updG (layG G L p q) x 3 (layG G L p q x 3 + p)) x 4 (layG G L p q x 4 + q) = layG G (L ++ [x]) p q := by
  funext k j
  by_cases e : k = x
  · subst e
    have e3 : layG G L p q k 3 = G k 3 := by simp [layG, hx]
    have e4 : layG G L p q k 4 = G k 4 := by simp [layG, hx]
    have ej : layG G L p q k j = G k j := by simp [layG, hx]
    have er : layG G (L ++ [k]) p q k j = if j = 3 then G k 3 + p else if j = 4 then G k 4 + q else G k j := by simp [layG]
    rw [er, e3, e4]
    unfold updG
    rw [ej]
    by_cases j3 : j = 3
    · subst j3; simp
    · by_cases j4 : j = 4
      · subst j4; simp
      · simp [j3, j4]
  · simp [updG, layG, e]
theorem rel_lay {h : Nat → Bool} {G : Nat → Nat → Int} (hR : Rel t Wy h G) {n : Nat} (hn : n < 10) (p q : Int) : Rel (addO t n p q) Wy h (layG G (vals (Wy n)) p q) := fun k hk => by
  rw [(addO_same t n p q k).1]
  refine ⟨(hR k hk).1, fun hh j hj => ?_⟩
  have g := hR.g hk hh
  have hh' : (addO t n p q k).there = true := by rw [(addO_same t n p q k).1]; exact hh
  have e := wasC_of' (Wy := Wy) hh'
  rw [(addO_same t n p q k).2, (addO_lim t n p q k).1, (addO_lim t n p q k).2, totTo_addp, totTo_addq] at e
  by_cases hu : und Wy n k = true
  · have hm := und_mem.1 hu
    rw [if_pos (show n < 10 ∧ und Wy n k = true from ⟨hn, hu⟩), if_pos (show n < 10 ∧ und Wy n k = true from ⟨hn, hu⟩)] at e
    match j, hj with
    | 0, _ => rw [e.1, ← g.1]; simp [layG, hm]
    | 1, _ => rw [e.2.1, ← g.2.1]; simp [layG, hm]
    | 2, _ => rw [e.2.2.1, ← g.2.2.1]; simp [layG, hm]
    | 3, _ => rw [e.2.2.2.1, ← g.2.2.2.1]; simp [layG, hm]
    | 4, _ => rw [e.2.2.2.2, ← g.2.2.2.2]; simp [layG, hm]
  · have hm : k ∉ vals (Wy n) := fun h => hu (und_mem.2 h)
    rw [if_neg (fun h : n < 10 ∧ und Wy n k = true => hu h.2), if_neg (fun h : n < 10 ∧ und Wy n k = true => hu h.2), Int.add_zero, Int.add_zero] at e
    match j, hj with
    | 0, _ => rw [e.1, ← g.1]; simp [layG, hm]
    | 1, _ => rw [e.2.1, ← g.2.1]; simp [layG, hm]
    | 2, _ => rw [e.2.2.1, ← g.2.2.1]; simp [layG, hm]
    | 3, _ => rw [e.2.2.2.1, ← g.2.2.2.1]; simp [layG, hm]
    | 4, _ => rw [e.2.2.2.2, ← g.2.2.2.2]; simp [layG, hm]
/-- Laid on and taken off. -/
theorem addO_back {n : Nat} {p q : Int} : addO (addO t n (-p) (-q)) n p q = t := by
  funext k
  by_cases e : k = n
  · subst e
    rw [show addO (addO t k (-p) (-q)) k p q k = _ from updT_same _ _ _, (addO_at t k _ _).1, (addO_at t k _ _).2, show addO t k (-p) (-q) k = _ from updT_same _ _ _, Int.neg_add_cancel_right, Int.neg_add_cancel_right]
  · rw [addO_off _ _ _ _ e, addO_off _ _ _ _ e]
end
end Go.Proofs.Ytgabceeekkcekaa

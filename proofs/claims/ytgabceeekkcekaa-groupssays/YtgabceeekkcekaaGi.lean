/- What holds of a tree of groups, and what the acts leave of it. No Go in sight. -/
import Derived.Test.YtgabceeekkcekaaGf
namespace Go.Proofs.Ytgabceeekkcekaa

/-- What holds of a tree of groups: the ways lead to the root; what is charged is bounded. -/
structure Tree (t : Nat → Gp) (Wy : Nat → List (Fin 10)) (c : Nat) : Prop where
  ways : Ways t Wy
  deep : ∀ k, k < 10 → (Wy k).length ≤ 4
  root : (t 0).there = true ∧ (t 0).par = -1
  par : ∀ k, k < 10 → (t k).there = true → k ≠ 0 → ∃ m : Nat, (t k).par = m ∧ m < 10 ∧ (t m).there = true
  own : ∀ k, k < 10 → (0 ≤ (t k).op ∧ (t k).op ≤ 64 * c) ∧ (0 ≤ (t k).oq ∧ (t k).oq ≤ 64 * c)
section
variable {t : Nat → Gp} {Wy : Nat → List (Fin 10)} {c : Nat}
theorem Tree.small (h : Tree t Wy c) (hc : c ≤ 1000) : Small t := fun k hk => by have := h.own k hk; omega
theorem Tree.mono (h : Tree t Wy c) {c' : Nat} (hc : c ≤ c') : Tree t Wy c' := ⟨h.ways, h.deep, h.root, h.par, fun k hk => by have := h.own k hk; omega⟩
theorem way_nil (h : Ways t Wy) {k : Nat} (hk : k < 10) (hh : (t k).there = false) : Wy k = [] := by
  have := h k hk
  cases hw : Wy k with
  | nil => rfl
  | cons x r =>
    rw [hw] at this
    obtain ⟨e, _, h3, _⟩ := this
    have : k = x.val := by exact Int.ofNat_inj.1 e
    rw [← this, hh] at h3
    cases h3
theorem way_cons (h : Ways t Wy) {k : Nat} (hk : k < 10) (hh : (t k).there = true) : ∃ r, Wy k = ⟨k, hk⟩ :: r ∧ Way t (t k).par (vals r) := by
  have := h k hk
  cases hw : Wy k with
  | nil =>
    rw [hw] at this
    exact absurd ⟨by omega, by omega, hh⟩ this
  | cons x r =>
    rw [hw] at this
    obtain ⟨e, _, _, h4⟩ := this
    have e2 : k = x.val := by exact Int.ofNat_inj.1 e
    subst e2
    exact ⟨r, rfl, h4⟩
theorem vals_inj : ∀ {xs ys : List (Fin 10)}, vals xs = vals ys → xs = ys
  | [], [], _ => rfl
  | [], _ :: _, h => by simp [vals] at h
  | _ :: _, [], h => by simp [vals] at h
  | x :: xs, y :: ys, h => by
    simp only [vals, List.map_cons, List.cons.injEq] at h
    rw [Fin.ext h.1, vals_inj h.2]
theorem way_par (h : Tree t Wy c) {k : Nat} (hk : k < 10) (hh : (t k).there = true) (h0 : k ≠ 0) : ∃ m : Nat, (t k).par = m ∧ m < 10 ∧ (t m).there = true ∧ Wy k = ⟨k, hk⟩ :: Wy m := by
  obtain ⟨m, e, hm, hhm⟩ := h.par k hk hh h0
  obtain ⟨r, hr, hw⟩ := way_cons h.ways hk hh
  refine ⟨m, e, hm, hhm, ?_⟩
  rw [e] at hw
  rw [hr, vals_inj (hw.unique (h.ways m hm))]
theorem way_root (h : Tree t Wy c) : Wy 0 = [⟨0, by omega⟩] := by
  obtain ⟨r, hr, hw⟩ := way_cons h.ways (show 0 < 10 by omega) h.root.1
  rw [h.root.2] at hw
  cases r with
  | nil => exact hr
  | cons x r => obtain ⟨e, _⟩ := hw; omega
theorem way_tail : ∀ {g : Int} {A B : List Nat} {x : Nat}, Way t g (A ++ x :: B) → Way t x (x :: B)
  | _, [], _, _, ⟨_, h2, h3, h4⟩ => ⟨rfl, h2, h3, h4⟩
  | _, _ :: _, _, _, ⟨_, _, _, h4⟩ => way_tail h4
theorem way_nodup : ∀ {g : Int} {L : List Nat}, Way t g L → L.Nodup
  | _, [], _ => List.nodup_nil
  | _, x :: L, ⟨e, h2, h3, h4⟩ => by
    refine List.nodup_cons.2 ⟨fun hx => ?_, way_nodup h4⟩
    obtain ⟨A, B, hAB⟩ := List.append_of_mem hx
    rw [hAB] at h4
    have h5 := way_tail h4
    have h6 : Way t x (x :: (A ++ x :: B)) := ⟨rfl, h2, h3, h4⟩
    have h7 := congrArg List.length (h5.unique h6)
    simp at h7
    omega
theorem way_there : ∀ {g : Int} {L : List Nat}, Way t g L → ∀ x ∈ L, x < 10 ∧ (t x).there = true
  | _, [], _, x, hx => by simp at hx
  | _, y :: L, ⟨_, h2, h3, h4⟩, x, hx => by
    rcases List.mem_cons.1 hx with e | e
    · subst e; exact ⟨h2, h3⟩
    · exact way_there h4 x e
theorem und_iff {k : Nat} {n : Int} : und Wy k n = true ↔ ∃ x ∈ Wy k, (x.val : Int) = n := by unfold und; exact decide_eq_true_iff
theorem und_self (h : Ways t Wy) {k : Nat} (hk : k < 10) (hh : (t k).there = true) : und Wy k k = true := by
  obtain ⟨r, hr, _⟩ := way_cons h hk hh
  rw [und_iff, hr]
  exact ⟨⟨k, hk⟩, List.mem_cons_self, rfl⟩
theorem und_none (h : Ways t Wy) {k : Nat} (hk : k < 10) (hh : (t k).there = false) (n : Int) : und Wy k n = false := by
  rw [Bool.eq_false_iff, Ne, und_iff, way_nil h hk hh]
  simp
end

theorem totTo_congr {t t' : Nat → Gp} {Wy Wy' : Nat → List (Fin 10)} {m : Int} {sel : Gp → Int} : ∀ {k : Nat}, (∀ j, j < k → (if und Wy' j m = true then sel (t' j) else 0) = if und Wy j m = true then sel (t j) else 0) → totTo t' Wy' m sel k = totTo t Wy m sel k
  | 0, _ => rfl
  | k + 1, h => by
    unfold totTo
    rw [totTo_congr (k := k) fun j hj => h j (by omega), h k (by omega)]
theorem totTo_addp {t : Nat → Gp} {Wy : Nat → List (Fin 10)} {m : Int} {n : Nat} {p q : Int} : ∀ k : Nat, totTo (addO t n p q) Wy m Gp.op k = totTo t Wy m Gp.op k + if n < k ∧ und Wy n m = true then p else 0
  | 0 => by simp [totTo]
  | k + 1 => by
    unfold totTo
    rw [totTo_addp k]
    by_cases e : k = n
    · subst e
      have e1 : (addO t k p q k).op = (t k).op + p := by rw [show addO t k p q k = _ from updT_same _ _ _]
      rw [e1]
      by_cases hu : und Wy k m = true <;> simp [hu] <;> omega
    · have e1 : (addO t n p q k).op = (t k).op := by rw [show addO t n p q k = _ from updT_ne _ _ _ _ e]
      have e2 : (if n < k + 1 ∧ und Wy n m = true then p else 0) = if n < k ∧ und Wy n m = true then p else 0 := by
        by_cases hu : und Wy n m = true
        · simp only [hu, and_true]
          by_cases hl : n < k
          · rw [if_pos hl, if_pos (by omega)]
          · rw [if_neg hl, if_neg (by omega)]
        · simp [hu]
      rw [e1, e2]
      omega
theorem totTo_addq {t : Nat → Gp} {Wy : Nat → List (Fin 10)} {m : Int} {n : Nat} {p q : Int} : ∀ k : Nat, totTo (addO t n p q) Wy m Gp.oq k = totTo t Wy m Gp.oq k + if n < k ∧ und Wy n m = true then q else 0
  | 0 => by simp [totTo]
  | k + 1 => by
    unfold totTo
    rw [totTo_addq k]
    by_cases e : k = n
    · subst e
      have e1 : (addO t k p q k).oq = (t k).oq + q := by rw [show addO t k p q k = _ from updT_same _ _ _]
      rw [e1]
      by_cases hu : und Wy k m = true <;> simp [hu] <;> omega
    · have e1 : (addO t n p q k).oq = (t k).oq := by rw [show addO t n p q k = _ from updT_ne _ _ _ _ e]
      have e2 : (if n < k + 1 ∧ und Wy n m = true then q else 0) = if n < k ∧ und Wy n m = true then q else 0 := by
        by_cases hu : und Wy n m = true
        · simp only [hu, and_true]
          by_cases hl : n < k
          · rw [if_pos hl, if_pos (by omega)]
          · rw [if_neg hl, if_neg (by omega)]
        · simp [hu]
      rw [e1, e2]
      omega
/-- Where the whole is nothing, each part is nothing. -/
theorem totTo_zero {t : Nat → Gp} {Wy : Nat → List (Fin 10)} {m : Int} {sel : Gp → Int} (h0 : ∀ j, j < 10 → 0 ≤ sel (t j)) : ∀ {k : Nat}, k ≤ 10 → totTo t Wy m sel k = 0 → ∀ j, j < k → und Wy j m = true → sel (t j) = 0
  | 0, _, _, j, hj, _ => by omega
  | k + 1, hk, h, j, hj, hu => by
    have nn : ∀ i, i ≤ 10 → 0 ≤ totTo t Wy m sel i := fun i => by
      induction i with
      | zero => intro _; exact Int.le_refl 0
      | succ i ih =>
        intro hi
        have := ih (by omega)
        have := h0 i (by omega)
        unfold totTo
        split <;> omega
    unfold totTo at h
    have a := nn k (by omega)
    have b := h0 k (by omega)
    have h1 : totTo t Wy m sel k = 0 := by split at h <;> omega
    by_cases e : j = k
    · subst e
      rw [if_pos hu] at h
      omega
    · exact totTo_zero h0 (by omega) h1 j (by omega) hu

section
variable {t : Nat → Gp} {Wy : Nat → List (Fin 10)} {c : Nat}
/-- The first tree. -/
def t0 : Nat → Gp := updT (fun _ => noGp) 0 (newGp (-1))
def W0 : Nat → List (Fin 10) := fun k => if k = 0 then [⟨0, by omega⟩] else []
theorem tree0 : Tree t0 W0 0 := by
  have hn : ∀ k, k ≠ 0 → t0 k = noGp := fun k hk => updT_ne _ _ _ _ hk
  have h0 : t0 0 = newGp (-1) := updT_same _ _ _
  refine ⟨fun k hk => ?_, fun k hk => ?_, ⟨by rw [h0]; rfl, by rw [h0]; rfl⟩, fun k hk hh hne => ?_, fun k hk => ?_⟩
  · by_cases e : k = 0
    · subst e
      exact ⟨rfl, by decide, by show (t0 0).there = true; rw [h0]; rfl, by show ¬ valid t0 (t0 0).par; rw [h0]; rintro ⟨a, _⟩; exact absurd a (by decide)⟩
    · have : W0 k = [] := if_neg e
      rw [this]
      rintro ⟨_, _, h⟩
      rw [Int.toNat_natCast, hn k e] at h
      cases h
  · unfold W0
    split <;> simp
  · rw [hn k hne] at hh; cases hh
  · by_cases e : k = 0
    · subst e; rw [h0]; simp [newGp]
    · rw [hn k e]; simp [noGp]

theorem Tree.sameW (h : Tree t Wy c) {t' : Nat → Gp} {c' : Nat} (hs : ∀ k, (t' k).there = (t k).there ∧ (t' k).par = (t k).par) (ho : ∀ k, k < 10 → (0 ≤ (t' k).op ∧ (t' k).op ≤ 64 * c') ∧ (0 ≤ (t' k).oq ∧ (t' k).oq ≤ 64 * c')) : Tree t' Wy c' :=
  ⟨h.ways.same hs, h.deep, ⟨by rw [(hs 0).1]; exact h.root.1, by rw [(hs 0).2]; exact h.root.2⟩, fun k hk hh hne => by
    rw [(hs k).1] at hh
    obtain ⟨m, e, hm, hhm⟩ := h.par k hk hh hne
    exact ⟨m, by rw [(hs k).2]; exact e, hm, by rw [(hs m).1]; exact hhm⟩, ho⟩
theorem Tree.addO (h : Tree t Wy c) {n : Nat} {p q : Int} {c' : Nat} (hc : c ≤ c') (hp : 0 ≤ (t n).op + p ∧ (t n).op + p ≤ 64 * c') (hq : 0 ≤ (t n).oq + q ∧ (t n).oq + q ≤ 64 * c') : Tree (addO t n p q) Wy c' := by
  refine h.sameW (addO_same t n p q) fun k hk => ?_
  by_cases e : k = n
  · subst e
    rw [show Ytgabceeekkcekaa.addO t k p q k = _ from updT_same _ _ _]
    exact ⟨hp, hq⟩
  · rw [show Ytgabceeekkcekaa.addO t n p q k = _ from updT_ne _ _ _ _ e]
    have := h.own k hk
    omega
theorem lim_same (t : Nat → Gp) (n : Nat) (p q : Int) (k : Nat) : (updT t n { t n with lp := p, lq := q } k).there = (t k).there ∧ (updT t n { t n with lp := p, lq := q } k).par = (t k).par := by
  by_cases e : k = n
  · subst e; rw [updT_same]; exact ⟨rfl, rfl⟩
  · rw [updT_ne _ _ _ _ e]; exact ⟨rfl, rfl⟩
theorem Tree.limit (h : Tree t Wy c) {n : Nat} {p q : Int} : Tree (updT t n { t n with lp := p, lq := q }) Wy c := by
  refine h.sameW (lim_same t n p q) fun k hk => ?_
  by_cases e : k = n
  · subst e; rw [updT_same]; exact h.own k hk
  · rw [updT_ne _ _ _ _ e]; exact h.own k hk

/-- The ways when n has come below p; when n has gone. -/
def addW (Wy : Nat → List (Fin 10)) (n : Nat) (hn : n < 10) (p : Nat) : Nat → List (Fin 10) := fun k => if k = n then ⟨n, hn⟩ :: Wy p else Wy k
def remW (Wy : Nat → List (Fin 10)) (n : Nat) : Nat → List (Fin 10) := fun k => if k = n then [] else Wy k
/-- A way is as it was where all on it are as they were, and its end as well. -/
theorem way_keep {t' : Nat → Gp} : ∀ {g : Int} {L : List Nat}, Way t g L → (∀ x ∈ L, t' x = t x) → (∀ x ∈ L, ∀ g : Int, (t x).par = g → ¬ valid t g → ¬ valid t' g) → (¬ valid t g → ¬ valid t' g) → Way t' g L
  | _, [], h, _, _, hg => hg h
  | _, x :: L, ⟨e, h2, h3, h4⟩, he, hp, _ => by
    have ex := he x (by simp)
    refine ⟨e, h2, by rw [ex]; exact h3, ?_⟩
    rw [ex]
    exact way_keep h4 (fun y hy => he y (by simp [hy])) (fun y hy => hp y (by simp [hy])) (hp x (by simp) _ rfl)
theorem way_keep_all (h : Tree t Wy c) {t' : Nat → Gp} {k : Nat} (hk : k < 10) (hh : (t k).there = true) (he : ∀ x ∈ Wy k, t' x.val = t x.val) : Way t' k (vals (Wy k)) := by
  refine way_keep (h.ways k hk) (fun x hx => ?_) (fun x hx g hg hv => ?_) (fun hv => absurd ⟨by omega, by omega, hh⟩ hv)
  · obtain ⟨y, hy, rfl⟩ := List.mem_map.1 hx
    exact he y hy
  · obtain ⟨hx10, hxh⟩ := way_there (h.ways k hk) x hx
    by_cases e : x = 0
    · subst e
      rw [h.root.2] at hg
      rintro ⟨a, _⟩
      omega
    · obtain ⟨m, em, hm, hmh⟩ := h.par x hx10 hxh e
      exact absurd ⟨by omega, by omega, by rw [show g.toNat = m by omega]; exact hmh⟩ hv
theorem Tree.add (h : Tree t Wy c) {n p : Nat} (hn : n < 10) (hf : (t n).there = false) (hp : p < 10) (hh : (t p).there = true) (hd : (Wy p).length < 4) : Tree (updT t n (newGp p)) (addW Wy n hn p) c := by
  have hnp : p ≠ n := fun e => by rw [e, hf] at hh; cases hh
  have hn0 : n ≠ 0 := fun e => by have := h.root.1; rw [← e, hf] at this; cases this
  have key : ∀ k, k < 10 → (t k).there = true → ∀ x ∈ Wy k, updT t n (newGp p) x.val = t x.val := fun k hk hkh x hx => by
    refine updT_ne _ _ _ _ fun e => ?_
    have := (way_there (h.ways k hk) x.val (List.mem_map.2 ⟨x, hx, rfl⟩)).2
    rw [e, hf] at this
    cases this
  refine ⟨fun k hk => ?_, fun k hk => ?_, ?_, fun k hk hkh hk0 => ?_, fun k hk => ?_⟩
  · by_cases e : k = n
    · subst e
      have ew : addW Wy k hn p k = ⟨k, hn⟩ :: Wy p := if_pos rfl
      rw [ew]
      refine ⟨rfl, hn, by rw [updT_same]; rfl, ?_⟩
      rw [updT_same]
      exact way_keep_all h hp hh (key p hp hh)
    · have ew : addW Wy n hn p k = Wy k := if_neg e
      rw [ew]
      by_cases hkh : (t k).there = true
      · exact way_keep_all h hk hkh (key k hk hkh)
      · have hkf : (t k).there = false := by simpa using hkh
        rw [way_nil h.ways hk hkf]
        rintro ⟨_, _, hv⟩
        rw [Int.toNat_natCast, updT_ne _ _ _ _ e, hkf] at hv
        cases hv
  · unfold addW
    split
    · simp only [List.length_cons]; omega
    · exact h.deep k hk
  · rw [updT_ne _ _ _ _ (Ne.symm hn0)]; exact h.root
  · by_cases e : k = n
    · subst e
      refine ⟨p, by rw [updT_same]; rfl, hp, by rw [updT_ne _ _ _ _ hnp]; exact hh⟩
    · rw [updT_ne _ _ _ _ e] at hkh ⊢
      obtain ⟨m, em, hm, hmh⟩ := h.par k hk hkh hk0
      refine ⟨m, em, hm, ?_⟩
      by_cases e2 : m = n
      · rw [e2, updT_same]; rfl
      · rw [updT_ne _ _ _ _ e2]; exact hmh
  · by_cases e : k = n
    · subst e; rw [updT_same]; simp [newGp]; omega
    · rw [updT_ne _ _ _ _ e]; exact h.own k hk
/-- Who is on a way, and not its first, is somebody's parent. -/
theorem way_child : ∀ {g : Int} {x : Nat} {L : List Nat} {n : Nat}, Way t g (x :: L) → n ∈ L → ∃ j, j < 10 ∧ (t j).there = true ∧ (t j).par = n
  | _, _, [], _, _, h => by simp at h
  | _, x, y :: L, n, ⟨_, h2, h3, h4⟩, h => by
    rcases List.mem_cons.1 h with e | e
    · subst e
      exact ⟨x, h2, h3, h4.1⟩
    · exact way_child h4 e
theorem abvB_no {n : Nat} (ha : abvB t n = false) {k : Nat} (hk : k < 10) (hh : (t k).there = true) : (t k).par ≠ n := fun e => by
  rw [abvB_true hk hh e] at ha
  cases ha
theorem Tree.rem_off (h : Tree t Wy c) {n : Nat} (ha : abvB t n = false) {k : Nat} (hk : k < 10) (hkn : k ≠ n) : ∀ x ∈ Wy k, x.val ≠ n := fun x hx e => by
  by_cases hh : (t k).there = true
  · obtain ⟨r, hr, hw⟩ := way_cons h.ways hk hh
    have hW := h.ways k hk
    rw [hr] at hx hW
    rcases List.mem_cons.1 hx with e2 | e2
    · rw [e2] at e
      exact hkn e
    · obtain ⟨j, hj, hjh, hjp⟩ := way_child (n := n) hW (List.mem_map.2 ⟨x, e2, e⟩)
      exact abvB_no ha hj hjh hjp
  · have hf : (t k).there = false := by simpa using hh
    rw [way_nil h.ways hk hf] at hx
    simp at hx
theorem Tree.rem (h : Tree t Wy c) {n : Nat} (hn0 : n ≠ 0) (ha : abvB t n = false) : Tree (updT t n noGp) (remW Wy n) c := by
  refine ⟨fun k hk => ?_, fun k hk => ?_, ?_, fun k hk hkh hk0 => ?_, fun k hk => ?_⟩
  · by_cases e : k = n
    · subst e
      have ew : remW Wy k k = [] := if_pos rfl
      rw [ew]
      rintro ⟨_, _, hv⟩
      rw [Int.toNat_natCast, updT_same] at hv
      cases hv
    · have ew : remW Wy n k = Wy k := if_neg e
      rw [ew]
      by_cases hkh : (t k).there = true
      · exact way_keep_all h hk hkh fun x hx => updT_ne _ _ _ _ (h.rem_off ha hk e x hx)
      · have hkf : (t k).there = false := by simpa using hkh
        rw [way_nil h.ways hk hkf]
        rintro ⟨_, _, hv⟩
        rw [Int.toNat_natCast, updT_ne _ _ _ _ e, hkf] at hv
        cases hv
  · unfold remW
    split
    · simp
    · exact h.deep k hk
  · rw [updT_ne _ _ _ _ (Ne.symm hn0)]; exact h.root
  · by_cases e : k = n
    · subst e; rw [updT_same] at hkh; cases hkh
    · rw [updT_ne _ _ _ _ e] at hkh ⊢
      obtain ⟨m, em, hm, hmh⟩ := h.par k hk hkh hk0
      have hmn : m ≠ n := fun e2 => abvB_no ha hk hkh (by rw [em, e2])
      exact ⟨m, em, hm, by rw [updT_ne _ _ _ _ hmn]; exact hmh⟩
  · by_cases e : k = n
    · subst e; rw [updT_same]; simp [noGp]; omega
    · rw [updT_ne _ _ _ _ e]; exact h.own k hk
/-- What is charged below each stays when one comes. -/
theorem tot_add (h : Tree t Wy c) {n p : Nat} (hn : n < 10) (hf : (t n).there = false) {sel : Gp → Int} (hs : sel (newGp p) = 0) (m : Int) : totTo (updT t n (newGp p)) (addW Wy n hn p) m sel 10 = totTo t Wy m sel 10 := by
  refine totTo_congr fun j hj => ?_
  by_cases e : j = n
  · subst e
    rw [updT_same, hs, und_none h.ways hj hf]
    simp
  · rw [updT_ne _ _ _ _ e, show und (addW Wy n hn p) j m = und Wy j m by unfold und addW; rw [if_neg e]]
/-- And when one goes that has nothing. -/
theorem tot_rem (h : Tree t Wy c) {n : Nat} (hn : n < 10) (hh : (t n).there = true) {sel : Gp → Int} (h0 : ∀ j, j < 10 → 0 ≤ sel (t j)) (hz : totTo t Wy n sel 10 = 0) (m : Int) : totTo (updT t n noGp) (remW Wy n) m sel 10 = totTo t Wy m sel 10 := by
  refine totTo_congr fun j hj => ?_
  by_cases e : j = n
  · subst e
    have hx : sel (t j) = 0 := totTo_zero h0 (Nat.le_refl _) hz j hn (und_self h.ways hn hh)
    have hu : und (remW Wy j) j m = false := by
      rw [Bool.eq_false_iff, Ne, und_iff, show remW Wy j j = [] from if_pos rfl]
      simp
    rw [hu, hx]
    simp
  · rw [updT_ne _ _ _ _ e, show und (remW Wy n) j m = und Wy j m by unfold und remW; rw [if_neg e]]
end

/-- What a law has been told of a group before: of none: nothing. -/
def wasC (t : Nat → Gp) (Wy : Nat → List (Fin 10)) (k j : Nat) : Int := if (t k).there = true then (match j with
  | 0 => (t k).par
  | 1 => (t k).lp
  | 2 => (t k).lq
  | 3 => totTo t Wy k Gp.op 10
  | _ => totTo t Wy k Gp.oq 10) else 0
/-- Each is within its limits, or no more than it was. -/
def Fit (t : Nat → Gp) (Wy : Nat → List (Fin 10)) (G : Nat → Nat → Int) : Prop := ∀ k, k < 10 → (t k).there = true →
  ¬ (0 ≤ (t k).lp ∧ (t k).lp < totTo t Wy k Gp.op 10 ∧ G k 3 < totTo t Wy k Gp.op 10) ∧ ¬ (0 ≤ (t k).lq ∧ (t k).lq < totTo t Wy k Gp.oq 10 ∧ G k 4 < totTo t Wy k Gp.oq 10)
theorem fit_of {t t' : Nat → Gp} {Wy Wy' : Nat → List (Fin 10)} (h : ∀ k, k < 10 → (t' k).there = true → ((t' k).lp = -1 ∧ (t' k).lq = -1) ∨ ((t k).there = true ∧ (totTo t' Wy' k Gp.op 10 ≤ totTo t Wy k Gp.op 10 ∨ (t' k).lp < 0 ∨ totTo t' Wy' k Gp.op 10 ≤ (t' k).lp) ∧ (totTo t' Wy' k Gp.oq 10 ≤ totTo t Wy k Gp.oq 10 ∨ (t' k).lq < 0 ∨ totTo t' Wy' k Gp.oq 10 ≤ (t' k).lq))) : Fit t' Wy' (wasC t Wy) := fun k hk hh => by
  rcases h k hk hh with ⟨a, b⟩ | ⟨a, b, d⟩
  · constructor <;> omega
  · have e3 : wasC t Wy k 3 = totTo t Wy k Gp.op 10 := if_pos a
    have e4 : wasC t Wy k 4 = totTo t Wy k Gp.oq 10 := if_pos a
    rw [e3, e4]
    constructor <;> omega
section
variable {t : Nat → Gp} {Wy : Nat → List (Fin 10)} {c : Nat}
theorem fit_self : Fit t Wy (wasC t Wy) := fit_of fun _ _ hh => .inr ⟨hh, .inl (Int.le_refl _), .inl (Int.le_refl _)⟩
theorem fit_add (h : Tree t Wy c) {n p : Nat} (hn : n < 10) (hf : (t n).there = false) : Fit (updT t n (newGp p)) (addW Wy n hn p) (wasC t Wy) := fit_of fun k hk hh => by
  by_cases e : k = n
  · subst e; rw [updT_same]; exact .inl ⟨rfl, rfl⟩
  · rw [updT_ne _ _ _ _ e] at hh
    refine .inr ⟨hh, .inl ?_, .inl ?_⟩
    · rw [tot_add h hn hf rfl]; exact Int.le_refl _
    · rw [tot_add h hn hf rfl]; exact Int.le_refl _
theorem fit_rem (h : Tree t Wy c) {n : Nat} (hn : n < 10) (hh : (t n).there = true) (hz : totTo t Wy n Gp.op 10 = 0 ∧ totTo t Wy n Gp.oq 10 = 0) : Fit (updT t n noGp) (remW Wy n) (wasC t Wy) := fit_of fun k hk hk2 => by
  by_cases e : k = n
  · subst e; rw [updT_same] at hk2; cases hk2
  · rw [updT_ne _ _ _ _ e] at hk2
    refine .inr ⟨hk2, .inl ?_, .inl ?_⟩
    · rw [tot_rem h hn hh (fun j hj => (h.own j hj).1.1) hz.1]; exact Int.le_refl _
    · rw [tot_rem h hn hh (fun j hj => (h.own j hj).2.1) hz.2]; exact Int.le_refl _
theorem addO_lim (t : Nat → Gp) (n : Nat) (p q : Int) (k : Nat) : (addO t n p q k).lp = (t k).lp ∧ (addO t n p q k).lq = (t k).lq := by
  by_cases e : k = n
  · subst e; rw [show addO t k p q k = _ from updT_same _ _ _]; exact ⟨rfl, rfl⟩
  · rw [show addO t n p q k = _ from updT_ne _ _ _ _ e]; exact ⟨rfl, rfl⟩
theorem lack_no {n : Nat} {p q : Int} (hl : lackA t Wy n p q = false) {y : Fin 10} (hy : y ∈ Wy n) : ((t y.val).lp = -1 ∨ ¬ 0 < p ∨ totTo t Wy y.val Gp.op 10 + p ≤ (t y.val).lp) ∧ ((t y.val).lq = -1 ∨ ¬ 0 < q ∨ totTo t Wy y.val Gp.oq 10 + q ≤ (t y.val).lq) := by
  have h1 : lackB t Wy p q y = false := by
    unfold lackA at hl
    rw [List.any_eq_false] at hl
    simpa using hl y hy
  unfold lackB passB at h1
  rw [Bool.or_eq_false_iff, decide_eq_false_iff_not, decide_eq_false_iff_not] at h1
  omega
/-- By a charge no limit is passed; what it adds is nothing, or within. -/
theorem tot_chg {n : Nat} {p q : Int} (hn : n < 10) (hp : 0 ≤ p) (hq : 0 ≤ q) (hl : lackA t Wy n p q = false) (k : Nat) :
    (totTo (addO t n p q) Wy k Gp.op 10 ≤ totTo t Wy k Gp.op 10 ∨ (t k).lp < 0 ∨ totTo (addO t n p q) Wy k Gp.op 10 ≤ (t k).lp) ∧ (totTo (addO t n p q) Wy k Gp.oq 10 ≤ totTo t Wy k Gp.oq 10 ∨ (t k).lq < 0 ∨ totTo (addO t n p q) Wy k Gp.oq 10 ≤ (t k).lq) := by
  rw [totTo_addp, totTo_addq]
  by_cases hu : und Wy n k = true
  · rw [if_pos ⟨hn, hu⟩, if_pos ⟨hn, hu⟩]
    obtain ⟨y, hy, e⟩ := und_iff.1 hu
    have e2 : y.val = k := Int.ofNat_inj.1 e
    have := lack_no hl hy
    rw [e2] at this
    omega
  · rw [if_neg (fun h => hu h.2), if_neg (fun h => hu h.2)]
    omega
theorem fit_charge {n : Nat} {p q : Int} (hn : n < 10) (hp : 0 ≤ p) (hq : 0 ≤ q) (hl : lackA t Wy n p q = false) : Fit (addO t n p q) Wy (wasC t Wy) := fit_of fun k hk hh => by
  rw [(addO_same t n p q k).1] at hh
  rw [(addO_lim t n p q k).1, (addO_lim t n p q k).2]
  exact .inr ⟨hh, tot_chg hn hp hq hl k⟩
theorem tot_unc {n : Nat} {p q : Int} (hp : 0 ≤ p) (hq : 0 ≤ q) (k : Nat) : totTo (addO t n (-p) (-q)) Wy k Gp.op 10 ≤ totTo t Wy k Gp.op 10 ∧ totTo (addO t n (-p) (-q)) Wy k Gp.oq 10 ≤ totTo t Wy k Gp.oq 10 := by
  rw [totTo_addp, totTo_addq]
  constructor <;> split <;> omega
theorem fit_unc {n : Nat} {p q : Int} (hp : 0 ≤ p) (hq : 0 ≤ q) : Fit (addO t n (-p) (-q)) Wy (wasC t Wy) := fit_of fun k hk hh => by
  rw [(addO_same t n _ _ k).1] at hh
  exact .inr ⟨hh, .inl (tot_unc hp hq k).1, .inl (tot_unc hp hq k).2⟩
theorem fit_move {n m : Nat} {p q : Int} (hm : m < 10) (hp : 0 ≤ p) (hq : 0 ≤ q) (hl : lackA (addO t n (-p) (-q)) Wy m p q = false) : Fit (addO (addO t n (-p) (-q)) m p q) Wy (wasC t Wy) := fit_of fun k hk hh => by
  rw [(addO_same _ m p q k).1, (addO_same _ n _ _ k).1] at hh
  rw [(addO_lim _ m p q k).1, (addO_lim _ m p q k).2]
  have a := tot_chg hm hp hq hl k
  have b := tot_unc (t := t) (Wy := Wy) (n := n) hp hq k
  refine .inr ⟨hh, ?_, ?_⟩ <;> omega
end

/-- What those of a list have charged, as far as n is on their ways. -/
def sumL (t : Nat → Gp) (Wy : Nat → List (Fin 10)) (sel : Gp → Int) (n : Int) : List Nat → Int
  | [] => 0
  | j :: L => (if und Wy j n = true then sel (t j) else 0) + sumL t Wy sel n L
section
variable {t : Nat → Gp} {Wy : Nat → List (Fin 10)} {sel : Gp → Int} {n : Int}
theorem sumL_snoc : ∀ (L : List Nat) (j : Nat), sumL t Wy sel n (L ++ [j]) = sumL t Wy sel n L + if und Wy j n = true then sel (t j) else 0
  | [], j => by simp [sumL]
  | i :: L, j => by
    simp only [List.cons_append, sumL]
    rw [sumL_snoc L j]
    omega
theorem sumL_thL (h : Ways t Wy) : ∀ k, k ≤ 10 → sumL t Wy sel n (thL t k) = totTo t Wy n sel k
  | 0, _ => rfl
  | k + 1, hk => by
    have ih := sumL_thL h k (by omega)
    unfold totTo
    rw [thL_succ]
    by_cases hh : (t k).there = true
    · rw [if_pos hh, sumL_snoc, ih]
    · have hf : (t k).there = false := by simpa using hh
      rw [if_neg hh, List.append_nil, ih, und_none h (by omega) hf]
      simp
theorem sumL_bd (h0 : ∀ j, j < 10 → 0 ≤ sel (t j) ∧ sel (t j) ≤ 1000000) : ∀ L : List Nat, (∀ j ∈ L, j < 10) → 0 ≤ sumL t Wy sel n L ∧ sumL t Wy sel n L ≤ 1000000 * L.length
  | [], _ => by simp [sumL]
  | j :: L, hL => by
    have ih := sumL_bd h0 L fun i hi => hL i (by simp [hi])
    have := h0 j (hL j (by simp))
    simp only [sumL, List.length_cons]
    split <;> omega
end
end Go.Proofs.Ytgabceeekkcekaa

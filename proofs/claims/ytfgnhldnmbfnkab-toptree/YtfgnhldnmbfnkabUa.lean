/- The forest, plain: going up ends within forty steps; where names are behind forget and lead. -/
import Derived.Test.YtfgnhldnmbfnkabTq
namespace Go.Proofs.Ytfgnhldnmbfnkab
open Tr (Fo Nd)

/-- So many different numbers below k are k at most. -/
theorem pig : ∀ (k m : Nat) (f : Nat → Nat), (∀ i, i < m → f i < k) → (∀ i j, i < j → j < m → f i ≠ f j) → m ≤ k
  | 0, m, f, h, _ => by
    rcases Nat.eq_zero_or_pos m with h0 | h0
    · omega
    · exact absurd (h 0 h0) (by omega)
  | k + 1, m, f, h, hi => by
    by_cases c : ∃ i, i < m ∧ f i = k
    · obtain ⟨a, ha, hk⟩ := c
      have := pig k (m - 1) (fun i => if i < a then f i else f (i + 1)) (fun i hm => by
        show (if i < a then f i else f (i + 1)) < k
        split
        · have h1 := h i (by omega)
          have h2 := hi i a (by omega) ha
          omega
        · have h1 := h (i + 1) (by omega)
          have h2 := hi a (i + 1) (by omega) (by omega)
          omega) (fun i j hij hj => by
        show (if i < a then f i else f (i + 1)) ≠ (if j < a then f j else f (j + 1))
        by_cases c1 : i < a
        · rw [if_pos c1]
          by_cases c2 : j < a
          · rw [if_pos c2]; exact hi i j hij (by omega)
          · rw [if_neg c2]; exact hi i (j + 1) (by omega) (by omega)
        · rw [if_neg c1, if_neg (by omega)]; exact hi (i + 1) (j + 1) (by omega) (by omega))
      omega
    · have := pig k m f (fun i hm => by
        have h1 := h i hm
        have h2 : f i ≠ k := fun e => c ⟨i, hm, e⟩
        omega) hi
      omega
def Tr.upI (F : Fo) (n : Nat) : Nat → Nat
  | 0 => n
  | k + 1 => (F.nd (Tr.upI F n k)).up
theorem Tr.upI_shift (F : Fo) (n : Nat) : ∀ k, Tr.upI F (F.nd n).up k = Tr.upI F n (k + 1)
  | 0 => rfl
  | k + 1 => by show (F.nd (Tr.upI F (F.nd n).up k)).up = _; rw [Tr.upI_shift F n k]; rfl
theorem Tr.upI_add (F : Fo) (n i : Nat) : ∀ k, Tr.upI F (Tr.upI F n i) k = Tr.upI F n (i + k)
  | 0 => rfl
  | k + 1 => by show (F.nd (Tr.upI F (Tr.upI F n i) k)).up = _; rw [Tr.upI_add F n i k]; rfl
/-- The first place where going up stays. -/
theorem Tr.EndsF.first {F : Fo} : ∀ {m n : Nat}, Tr.EndsF F m n → ∃ e, (∀ j, j ≤ e → Tr.upI F n j < 40) ∧ (F.nd (Tr.upI F n e)).up = Tr.upI F n e ∧ ∀ j, j < e → (F.nd (Tr.upI F n j)).up ≠ Tr.upI F n j
  | 0, n, h => ⟨0, fun j hj => by obtain rfl : j = 0 := by omega
                                  exact h.1, h.2, fun j hj => by omega⟩
  | m + 1, n, h => by
    by_cases c : (F.nd n).up = n
    · exact ⟨0, fun j hj => by obtain rfl : j = 0 := by omega
                               exact h.1, c, fun j hj => by omega⟩
    · rcases h.2 with h2 | h2
      · exact absurd h2 c
      · obtain ⟨e, h3, h4, h5⟩ := h2.first
        refine ⟨e + 1, fun j hj => ?_, ?_, fun j hj => ?_⟩
        · cases j with
          | zero => exact h.1
          | succ j => rw [← Tr.upI_shift]; exact h3 j (by omega)
        · rw [← Tr.upI_shift]; exact h4
        · cases j with
          | zero => exact c
          | succ j => rw [← Tr.upI_shift]; exact h5 j (by omega)
theorem Tr.EndsF.ofI {F : Fo} : ∀ {e n : Nat}, (∀ j, j ≤ e → Tr.upI F n j < 40) → (F.nd (Tr.upI F n e)).up = Tr.upI F n e → Tr.EndsF F e n
  | 0, _, h1, h2 => ⟨h1 0 (by omega), h2⟩
  | e + 1, n, h1, h2 => ⟨h1 0 (by omega), .inr (Tr.EndsF.ofI (fun j hj => by rw [Tr.upI_shift]; exact h1 (j + 1) (by omega)) (by rw [Tr.upI_shift]; exact h2))⟩
theorem Tr.EndsF.mono {F : Fo} {n m : Nat} (h : Tr.EndsF F m n) : ∀ k, Tr.EndsF F (m + k) n
  | 0 => h
  | k + 1 => (Tr.EndsF.mono h k).more.1
/-- Whoever comes to an end comes to it within forty steps. -/
theorem Tr.EndsF.forty {F : Fo} {m n : Nat} (h : Tr.EndsF F m n) : Tr.EndsF F 40 n := by
  obtain ⟨e, h1, h2, h3⟩ := h.first
  have stay : ∀ k, Tr.upI F n (e + k) = Tr.upI F n e := fun k => by
    induction k with
    | zero => rfl
    | succ k ih => show (F.nd (Tr.upI F n (e + k))).up = _; rw [ih, h2]
  have he : e + 1 ≤ 40 := pig 40 (e + 1) (Tr.upI F n) (fun i hi => h1 i (by omega)) (fun i j hij hj eq => by
    have a : Tr.upI F n (i + (e - j)) = Tr.upI F n e := by
      rw [← Tr.upI_add, eq, Tr.upI_add, show j + (e - j) = e by omega]
    exact h3 (i + (e - j)) (by omega) (by rw [a, h2]))
  have := (Tr.EndsF.ofI h1 h2).mono (40 - e)
  rwa [show e + (40 - e) = 40 by omega] at this
/-- No name twice. -/
def Tr.Nodup (x : Nd) : Prop := ∀ i j, i < j → j < x.size → (x.nam i).toList ≠ (x.nam j).toList
theorem Tr.Nodup.ne {x : Nd} (h : Tr.Nodup x) {i j : Nat} (hi : i < x.size) (hj : j < x.size) (c : i ≠ j) : (x.nam i).toList ≠ (x.nam j).toList := by
  rcases Nat.lt_or_gt_of_ne c with d | d
  · exact h i j d hj
  · exact (h j i d hi).symm
theorem Tr.PlcTo.at {x : Nd} {s : ByteArray} {i : Nat} (h : Tr.PlcTo x s (i : Int)) : i < x.size ∧ (x.nam i).toList = s.toList := by
  rcases h with ⟨j, e, h1, h2, _⟩ | ⟨e, _⟩
  · obtain rfl : i = j := by omega
    exact ⟨h1, h2⟩
  · omega
theorem Tr.forN_size (x : Nd) (i : Nat) : (Tr.forN x i).size = x.size - 1 := rfl
/-- The names that are left. -/
theorem Tr.forN_nam {x : Nd} {i j : Nat} (hj : j < x.size - 1) : (Tr.forN x i).nam j = if j = i then x.nam (x.size - 1) else x.nam j := by
  show upA (upA x.nam i _) (x.size - 1) _ j = _
  rw [upA_ne _ _ _ _ (by omega)]
  rfl
theorem Tr.forN_kid {x : Nd} {i j : Nat} (hj : j < x.size - 1) : (Tr.forN x i).kid j = if j = i then x.kid (x.size - 1) else x.kid j := by
  show upA (upA x.kid i _) (x.size - 1) _ j = _
  rw [upA_ne _ _ _ _ (by omega)]
  rfl
/-- Each name that is left was there before, elsewhere than the one that is gone. -/
theorem Tr.forN_was {x : Nd} {i j : Nat} (hi : i < x.size) (hj : j < x.size - 1) : ∃ q, q < x.size ∧ q ≠ i ∧ (Tr.forN x i).nam j = x.nam q ∧ (Tr.forN x i).kid j = x.kid q := by
  by_cases c : j = i
  · refine ⟨x.size - 1, by omega, by omega, ?_, ?_⟩
    · rw [Tr.forN_nam hj, if_pos c]
    · rw [Tr.forN_kid hj, if_pos c]
  · refine ⟨j, by omega, c, ?_, ?_⟩
    · rw [Tr.forN_nam hj, if_neg c]
    · rw [Tr.forN_kid hj, if_neg c]
theorem Tr.Nodup.forN {x : Nd} (h : Tr.Nodup x) {i : Nat} (hi : i < x.size) : Tr.Nodup (Tr.forN x i) := fun a b hab hb => by
  rw [Tr.forN_size] at hb
  rw [Tr.forN_nam (by omega), Tr.forN_nam hb]
  by_cases c1 : a = i
  · rw [if_pos c1, if_neg (by omega)]; exact h.ne (by omega) (by omega) (by omega)
  · rw [if_neg c1]
    by_cases c2 : b = i
    · rw [if_pos c2]; exact h.ne (by omega) (by omega) (by omega)
    · rw [if_neg c2]; exact h.ne (by omega) (by omega) (by omega)
/-- A name that is forgotten is nowhere. -/
theorem Tr.plc_gone {x : Nd} {s : ByteArray} {i : Nat} (h : Tr.Nodup x) (hp : Tr.PlcTo x s (i : Int)) : Tr.PlcTo (Tr.forN x i) s (-1) := by
  obtain ⟨hi, hn⟩ := hp.at
  refine .inr ⟨rfl, fun j hj => ?_⟩
  rw [Tr.forN_size] at hj
  obtain ⟨q, hq, hqi, e, _⟩ := Tr.forN_was hi hj
  rw [e, ← hn]
  exact h.ne hq hi hqi
theorem Tr.adN_nam {x : Nd} {s : ByteArray} {k j : Nat} (hj : j < x.size) : (Tr.adN x s k).nam j = x.nam j ∧ (Tr.adN x s k).kid j = x.kid j := ⟨upA_ne _ _ _ _ (by omega), upA_ne _ _ _ _ (by omega)⟩
theorem Tr.adN_last (x : Nd) (s : ByteArray) (k : Nat) : (Tr.adN x s k).nam x.size = s ∧ (Tr.adN x s k).kid x.size = k := ⟨upA_same _ _ _, upA_same _ _ _⟩
theorem Tr.adN_size (x : Nd) (s : ByteArray) (k : Nat) : (Tr.adN x s k).size = x.size + 1 := rfl
theorem Tr.PlcTo.no {x : Nd} {s : ByteArray} (h : Tr.PlcTo x s (-1)) : ∀ j, j < x.size → (x.nam j).toList ≠ s.toList := by
  rcases h with ⟨j, e, _⟩ | ⟨_, h⟩
  · omega
  · exact h
/-- A name that is new is found where it was put. -/
theorem Tr.plc_new {x : Nd} {s : ByteArray} (k : Nat) (h : Tr.PlcTo x s (-1)) : Tr.PlcTo (Tr.adN x s k) s ((x.size : Nat) : Int) :=
  .inl ⟨x.size, rfl, by rw [Tr.adN_size]; omega, by rw [(Tr.adN_last x s k).1], fun j hj => by rw [(Tr.adN_nam hj).1]; exact h.no j hj⟩
theorem Tr.plc_other {x : Nd} {s o : ByteArray} (k : Nat) (h : Tr.PlcTo x s (-1)) (c : o.toList ≠ s.toList) : Tr.PlcTo (Tr.adN x o k) s (-1) :=
  .inr ⟨rfl, fun j hj => by
    rw [Tr.adN_size] at hj
    by_cases d : j = x.size
    · subst d; rw [(Tr.adN_last x o k).1]; exact c
    · rw [(Tr.adN_nam (by omega)).1]; exact h.no j (by omega)⟩
theorem Tr.Nodup.adN {x : Nd} {s : ByteArray} {k : Nat} (h : Tr.Nodup x) (hp : Tr.PlcTo x s (-1)) : Tr.Nodup (Tr.adN x s k) := fun a b hab hb => by
  rw [Tr.adN_size] at hb
  rw [(Tr.adN_nam (by omega)).1]
  by_cases d : b = x.size
  · subst d; rw [(Tr.adN_last x s k).1]; exact hp.no a hab
  · rw [(Tr.adN_nam (by omega)).1]; exact h a b hab (by omega)
end Go.Proofs.Ytfgnhldnmbfnkab

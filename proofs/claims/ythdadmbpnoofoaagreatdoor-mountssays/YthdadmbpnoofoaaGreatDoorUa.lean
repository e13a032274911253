/- The forest, plain: going up ends within forty steps; where names are behind forget and lead. -/
import Derived.Test.YthdadmbpnoofoaaGreatDoorTm
namespace Go.Proofs.YthdadmbpnoofoaaGreatDoor
open Tr (Fo Nd)

/-- So many different numbers below k are k at most. -/
theorem pig : ∀ (k m : Nat) (f : Nat → Nat), (∀ i, i < m → f i < k) → (∀ i j, i < j → j < m → f i ≠ f j) → m ≤ k
  | 0, m, f, h, _ => by
    rcases Nat.eq_zero_or_pos m with h0 | h0
    · omega
    · exact absurd (h 0 h0) (by omega)
  | k + 1, m, f, h, hi => by
    by_cases c : ∃ i, i < m ∧ f i = k
    · obtain ⟨a, ha, hk⟩ := c
      have := pig k (m - 1) (fun i => if i < a then f i else f (i + 1)) (fun i hm => by
        show (if i < a then f i else f (i + 1)) < k
        split
        · have h1 := h i (by omega)
          have h2 := hi i a (by omega) ha
          omega
        · have h1 := h (i + 1) (by omega)
          have h2 := hi a (i + 1) (by omega) (by omega)
          omega) (fun i j hij hj => by
        show (if i < a then f i else f (i + 1)) ≠ (if j < a then f j else f (j + 1))
        by_cases c1 : i < a
        · rw [if_pos c1]
          by_cases c2 : j < a
          · rw [if_pos c2]; exact hi i j hij (by omega)
          · rw [if_neg c2]; exact hi i (j + 1) (by omega) (by omega)
        · rw [if_neg c1, if_neg (by omega)]; exact hi (i + 1) (j + 1) (by omega) (by omega))
      omega
    · have := pig k m f (fun i hm => by
        have h1 := h i hm
        have h2 : f i ≠ k := fun e => c ⟨i, hm, e⟩
        omega) hi
      omega
def Tr.upI (F : Fo) (n : Nat) : Nat → Nat
  | 0 => n
  | k + 1 => (F.nd (Tr.upI F n k)).up
theorem Tr.upI_shift (F : Fo) (n : Nat) : ∀ k, Tr.upI F (F.nd n).up k = Tr.upI F n (k + 1)
  | 0 => rfl
  | k + 1 => by show (F.nd (Tr.upI F (F.nd n).up k)).up = _; rw [Tr.upI_shift F n k]; rfl
theorem Tr.upI_add (F : Fo) (n i : Nat) : ∀ k, Tr.upI F (Tr.upI F n i) k = Tr.upI F n (i + k)
  | 0 => rfl
  | k + 1 => by show (F.nd (Tr.upI F (Tr.upI F n i) k)).up = _; rw [Tr.upI_add F n i k]; rfl
/-- The first place where going up stays. -/
theorem Tr.EndsF.first {F : Fo} : ∀ {m n : Nat}, Tr.EndsF F m n → ∃ e, (∀ j, j ≤ e → Tr.upI F n j < 40) ∧ (F.nd (Tr.upI F n e)).up = Tr.upI F n e ∧ ∀ j, j < e → (F.nd (Tr.upI F n j)).up ≠ Tr.upI F n j
  | 0, n, h => ⟨0, fun j hj => by obtain rfl : j = 0 := by omega
                                  exact h.1, h.2, fun j hj => by omega⟩
  | m + 1, n, h => by
    by_cases c : (F.nd n).up = n
    · exact ⟨0, fun j hj => by obtain rfl : j = 0 := by omega
                               exact h.1, c, fun j hj => by omega⟩
    · rcases h.2 with h2 | h2
      · exact absurd h2 c
      · obtain ⟨e, h3, h4, h5⟩ := h2.first
        refine ⟨e + 1, fun j hj => ?_, ?_, fun j hj => ?_⟩
        · cases j with
          | zero => exact h.1
          | succ j => rw [← Tr.upI_shift]; exact h3 j (by omega)
        · rw [← Tr.upI_shift]; exact h4
        · cases j with
          | zero => exact c
          | succ j => rw [← Tr.upI_shift]; exact h5 j (by omega)
theorem Tr.EndsF.ofI {F : Fo} : ∀ {e n : Nat}, (∀ j, j ≤ e → Tr.upI F n j < 40) → (F.nd (Tr.upI F n e)).up = Tr.upI F n e → Tr.EndsF F e n
  | 0, _, h1, h2 => ⟨h1 0 (by omega), h2⟩
  | e + 1, n, h1, h2 => ⟨h1 0 (by omega), .inr (Tr.EndsF.ofI (fun j hj => by rw [Tr.upI_shift]; exact h1 (j + 1) (by omega)) (by rw [Tr.upI_shift]; exact h2))⟩
theorem Tr.EndsF.mono {F : Fo} {n m : Nat} (h : Tr.EndsF F m n) : ∀ k, Tr.EndsF F (m + k) n
  | 0 => h
  | k + 1 => (Tr.EndsF.mono h k).more.1
/-- Whoever comes to an end comes to it within forty steps. -/
theorem Tr.EndsF.forty {F : Fo} {m n : Nat} (h : Tr.EndsF F m n) : Tr.EndsF F 40 n := by
  obtain ⟨e, h1, h2, h3⟩ := h.first
  have stay : ∀ k, Tr.upI F n (e + k) = Tr.upI F n e := fun k => by
    induction k with
    | zero => rfl
    | succ k ih => show (F.nd (Tr.upI F n (e + k))).up = _; rw [ih, h2]
  have he : e + 1 ≤ 40 := pig 40 (e + 1) (Tr.upI F n) (fun i hi => h1 i (by omega)) (fun i j hij hj eq => by
    have a : Tr.upI F n (i + (e - j)) = Tr.upI F n e := by
      rw [← Tr.upI_add, eq, Tr.upI_add, show j + (e - j) = e by omega]
    exact h3 (i + (e - j)) (by omega) (by rw [a, h2]))
  have := (Tr.EndsF.ofI h1 h2).mono (40 - e)
  rwa [show e + (40 - e) = 40 by omega] at this
/-- No name twice. -/
def Tr.Nodup (x : Nd) : Prop := ∀ i j, i < j → j < x.size → (x.nam i).toList ≠ (x.nam j).toList
theorem Tr.Nodup.ne {x : Nd} (h : Tr.Nodup x) {i j : Nat} (hi : i < x.size) (hj : j < x.size) (c : i ≠ j) : (x.nam i).toList ≠ (x.nam j).toList := by
  rcases Nat.lt_or_gt_of_ne c with d | d
  · exact h i j d hj
  · exact (h j i d hi).symm
theorem Tr.PlcTo.at {x : Nd} {s : ByteArray} {i : Nat} (h : Tr.PlcTo x s (i : Int)) : i < x.size ∧ (x.nam i).toList = s.toList := by
  rcases h with ⟨j, e, h1, h2, _⟩ | ⟨e, _⟩
  · obtain rfl : i = j := by omega
    exact ⟨h1, h2⟩
  · omega
theorem Tr.forN_size (x : Nd) (i : Nat) : (Tr.forN x i).size = x.size - 1 := rfl
/-- The names that are left. -/
theorem Tr.forN_nam {x : Nd} {i j : Nat} (hj : j < x.size - 1) : (Tr.forN x i).nam j = if j = i then x.nam (x.size - 1) else x.nam j := by
  show upA (upA x.nam i _) (x.size - 1) _ j = _
  rw [upA_ne _ _ _ _ (by omega)]
  rfl
theorem Tr.forN_kid {x : Nd} {i j : Nat} (hj : j < x.size - 1) : (Tr.forN x i).kid j = if j = i then x.kid (x.size - 1) else x.kid j := by
  show upA (upA x.kid i _) (x.size - 1) _ j = _
  rw [upA_ne _ _ _ _ (by omega)]
  rfl
/-- Each name that is left was there before, elsewhere than the one that is gone. -/
theorem Tr.forN_was {x : Nd} {i j : Nat} (hi : i < x.size) (hj : j < x.size - 1) : ∃ q, q < x.size ∧ q ≠ i ∧ (Tr.forN x i).nam j = x.nam q ∧ (Tr.forN x i).kid j = x.kid q := by
  by_cases c : j = i
  · refine ⟨x.size - 1, by omega, by omega, ?_, ?_⟩
    · rw [Tr.forN_nam hj, if_pos c]
    · rw [Tr.forN_kid hj, if_pos c]
  · refine ⟨j, by omega, c, ?_, ?_⟩
    · rw [Tr.forN_nam hj, if_neg c]
    · rw [Tr.forN_kid hj, if_neg c]
theorem Tr.Nodup.forN {x : Nd} (h : Tr.Nodup x) {i : Nat} (hi : i < x.size) : Tr.Nodup (Tr.forN x i) := fun a b hab hb => by
  rw [Tr.forN_size] at hb
  rw [Tr.forN_nam (by omega), Tr.forN_nam hb]
  by_cases c1 : a = i
  · rw [if_pos c1, if_neg (by omega)]; exact h.ne (by omega) (by omega) (by omega)
  · rw [if_neg c1]
    by_cases c2 : b = i
    · rw [if_pos c2]; exact h.ne (by omega) (by omega) (by omega)
    · rw [if_neg c2]; exact h.ne (by omega) (by omega) (by omega)
/-- A name that is forgotten is nowhere. -/
theorem Tr.plc_gone {x : Nd} {s : ByteArray} {i : Nat} (h : Tr.Nodup x) (hp : Tr.PlcTo x s (i : Int)) : Tr.PlcTo (Tr.forN x i) s (-1) := by
  obtain ⟨hi, hn⟩ := hp.at
  refine .inr ⟨rfl, fun j hj => ?_⟩
  rw [Tr.forN_size] at hj
  obtain ⟨q, hq, hqi, e, _⟩ := Tr.forN_was hi hj
  rw [e, ← hn]
  exact h.ne hq hi hqi
theorem Tr.adN_nam {x : Nd} {s : ByteArray} {k j : Nat} (hj : j < x.size) : (Tr.adN x s k).nam j = x.nam j ∧ (Tr.adN x s k).kid j = x.kid j := ⟨upA_ne _ _ _ _ (by omega), upA_ne _ _ _ _ (by omega)⟩
theorem Tr.adN_last (x : Nd) (s : ByteArray) (k : Nat) : (Tr.adN x s k).nam x.size = s ∧ (Tr.adN x s k).kid x.size = k := ⟨upA_same _ _ _, upA_same _ _ _⟩
theorem Tr.adN_size (x : Nd) (s : ByteArray) (k : Nat) : (Tr.adN x s k).size = x.size + 1 := rfl
theorem Tr.PlcTo.no {x : Nd} {s : ByteArray} (h : Tr.PlcTo x s (-1)) : ∀ j, j < x.size → (x.nam j).toList ≠ s.toList := by
  rcases h with ⟨j, e, _⟩ | ⟨_, h⟩
  · omega
  · exact h
/-- A name that is new is found where it was put. -/
theorem Tr.plc_new {x : Nd} {s : ByteArray} (k : Nat) (h : Tr.PlcTo x s (-1)) : Tr.PlcTo (Tr.adN x s k) s ((x.size : Nat) : Int) :=
  .inl ⟨x.size, rfl, by rw [Tr.adN_size]; omega, by rw [(Tr.adN_last x s k).1], fun j hj => by rw [(Tr.adN_nam hj).1]; exact h.no j hj⟩
theorem Tr.plc_other {x : Nd} {s o : ByteArray} (k : Nat) (h : Tr.PlcTo x s (-1)) (c : o.toList ≠ s.toList) : Tr.PlcTo (Tr.adN x o k) s (-1) :=
  .inr ⟨rfl, fun j hj => by
    rw [Tr.adN_size] at hj
    by_cases d : j = x.size
    · subst d; rw [(Tr.adN_last x o k).1]; exact c
    · rw [(Tr.adN_nam (by omega)).1]; exact h.no j (by omega)⟩
theorem Tr.Nodup.adN {x : Nd} {s : ByteArray} {k : Nat} (h : Tr.Nodup x) (hp : Tr.PlcTo x s (-1)) : Tr.Nodup (Tr.adN x s k) := fun a b hab hb => by
  rw [Tr.adN_size] at hb
  rw [(Tr.adN_nam (by omega)).1]
  by_cases d : b = x.size
  · subst d; rw [(Tr.adN_last x s k).1]; exact hp.no a hab
  · rw [(Tr.adN_nam (by omega)).1]; exact h a b hab (by omega)
end Go.Proofs.YthdadmbpnoofoaaGreatDoor
/- The forest, plain: how many names lead to a node. -/
namespace Go.Proofs.YthdadmbpnoofoaaGreatDoor
open Tr (Fo Nd)

def sumN (f : Nat → Nat) : Nat → Nat
  | 0 => 0
  | n + 1 => sumN f n + f n
theorem sumN_congr {f g : Nat → Nat} : ∀ {n : Nat}, (∀ i, i < n → f i = g i) → sumN f n = sumN g n
  | 0, _ => rfl
  | n + 1, h => by show sumN f n + f n = sumN g n + g n; rw [sumN_congr (fun i hi => h i (by omega)), h n (by omega)]
theorem sumN_le {f : Nat → Nat} : ∀ {n i : Nat}, i < n → f i ≤ sumN f n
  | n + 1, i, h => by
    show f i ≤ sumN f n + f n
    by_cases c : i = n
    · subst c; omega
    · have := sumN_le (f := f) (n := n) (i := i) (by omega); omega
theorem sumN_pos {f : Nat → Nat} : ∀ {n : Nat}, 0 < sumN f n → ∃ i, i < n ∧ 0 < f i
  | 0, h => absurd h (Nat.lt_irrefl 0)
  | n + 1, h => by
    by_cases c : 0 < f n
    · exact ⟨n, by omega, c⟩
    · have h' : 0 < sumN f n + f n := h
      obtain ⟨i, h1, h2⟩ := sumN_pos (f := f) (n := n) (by omega)
      exact ⟨i, by omega, h2⟩
theorem sumN_zero {f : Nat → Nat} {n : Nat} (h : ∀ i, i < n → f i = 0) : sumN f n = 0 := by
  rcases Nat.eq_zero_or_pos (sumN f n) with c | c
  · exact c
  · obtain ⟨i, h1, h2⟩ := sumN_pos c
    rw [h i h1] at h2; omega
/-- One summand is another one. -/
theorem sumN_one {f g : Nat → Nat} {p : Nat} : ∀ {n : Nat}, p < n → (∀ i, i < n → i ≠ p → f i = g i) → sumN f n + g p = sumN g n + f p
  | n + 1, hp, h => by
    show sumN f n + f n + g p = sumN g n + g n + f p
    by_cases c : p = n
    · subst c
      rw [sumN_congr (f := f) (g := g) (fun i hi => h i (by omega) (by omega))]; omega
    · have := sumN_one (f := f) (g := g) (p := p) (n := n) (by omega) (fun i hi hne => h i (by omega) hne)
      rw [h n (by omega) (by omega)]; omega
theorem sumN_two {f : Nat → Nat} {n i j : Nat} (hi : i < j) (hj : j < n) : f i + f j ≤ sumN f n := by
  have a := sumN_one (f := fun m => if m = i then 0 else f m) (g := f) (p := i) (n := n) (by omega) (fun m _ hne => if_neg hne)
  have b := sumN_le (f := fun m => if m = i then 0 else f m) hj
  simp only [if_true] at a b
  rw [if_neg (by omega)] at b
  omega
def oneN (a b : Nat) : Nat := if a = b then 1 else 0
theorem oneN_same (a : Nat) : oneN a a = 1 := if_pos rfl
theorem oneN_ne {a b : Nat} (h : a ≠ b) : oneN a b = 0 := if_neg h
/-- How many names of a directory lead to n. -/
def Tr.cntM (x : Nd) (n : Nat) : Nat := if x.kind = 2 then sumN (fun i => oneN (x.kid i) n) x.size else 0
def Tr.cntR (F : Fo) (n : Nat) : Nat := sumN (fun t => oneN (F.root t) n) F.trees
/-- .. of all directories, and the roots. -/
def Tr.cnt (F : Fo) (n : Nat) : Nat := sumN (fun m => Tr.cntM (F.nd m) n) 40 + Tr.cntR F n
theorem Tr.cntM_no {x : Nd} (n : Nat) (h : x.kind ≠ 2) : Tr.cntM x n = 0 := if_neg h
theorem Tr.cntM_ad {x : Nd} (s : ByteArray) (k n : Nat) (h : x.kind = 2) : Tr.cntM (Tr.adN x s k) n = Tr.cntM x n + oneN k n := by
  unfold Tr.cntM
  rw [if_pos h, if_pos (show (Tr.adN x s k).kind = 2 from h), Tr.adN_size]
  show sumN (fun i => oneN ((Tr.adN x s k).kid i) n) x.size + oneN ((Tr.adN x s k).kid x.size) n = _
  rw [(Tr.adN_last x s k).2, sumN_congr (fun i hi => by rw [(Tr.adN_nam hi).2])]
theorem Tr.cntM_for {x : Nd} {i : Nat} (n : Nat) (h : x.kind = 2) (hi : i < x.size) : Tr.cntM (Tr.forN x i) n + oneN (x.kid i) n = Tr.cntM x n := by
  unfold Tr.cntM
  rw [if_pos h, if_pos (show (Tr.forN x i).kind = 2 from h), Tr.forN_size]
  obtain ⟨l, hl⟩ : ∃ l, x.size = l + 1 := ⟨x.size - 1, by omega⟩
  rw [hl, show l + 1 - 1 = l by omega]
  show sumN (fun j => oneN ((Tr.forN x i).kid j) n) l + oneN (x.kid i) n = sumN (fun j => oneN (x.kid j) n) l + oneN (x.kid l) n
  by_cases c : i = l
  · subst c
    rw [sumN_congr (fun j hj => by rw [Tr.forN_kid (by omega), if_neg (by omega)])]
  · have a := sumN_one (f := fun j => oneN ((Tr.forN x i).kid j) n) (g := fun j => oneN (x.kid j) n) (p := i) (n := l) (by omega) (fun j hj hne => by show oneN _ n = oneN _ n; rw [Tr.forN_kid (by omega), if_neg hne])
    have e : (Tr.forN x i).kid i = x.kid l := by rw [Tr.forN_kid (by omega), if_pos rfl, hl]; rfl
    simp only [e] at a
    omega
/-- One node is put in another's place. -/
theorem Tr.cnt_put (F : Fo) (p : Nat) (x : Nd) (n : Nat) (hp : p < 40) : Tr.cnt (F.put p x) n + Tr.cntM (F.nd p) n = Tr.cnt F n + Tr.cntM x n := by
  have a := sumN_one (f := fun m => Tr.cntM ((F.put p x).nd m) n) (g := fun m => Tr.cntM (F.nd m) n) (p := p) (n := 40) hp (fun i _ hne => by show Tr.cntM ((F.put p x).nd i) n = Tr.cntM (F.nd i) n; rw [Tr.put_ne _ _ _ _ hne])
  simp only [Tr.put_same] at a
  unfold Tr.cnt
  have r : Tr.cntR (F.put p x) n = Tr.cntR F n := rfl
  rw [r]; omega
theorem Tr.cnt_put_same (F : Fo) (p : Nat) (x : Nd) (n : Nat) (hp : p < 40) (h : Tr.cntM x n = Tr.cntM (F.nd p) n) : Tr.cnt (F.put p x) n = Tr.cnt F n := by
  have := Tr.cnt_put F p x n hp; omega
/-- A node that a name leads to is counted. -/
theorem Tr.cnt_kid {F : Fo} {m i : Nat} (hm : m < 40) (h2 : (F.nd m).kind = 2) (hi : i < (F.nd m).size) : 1 ≤ Tr.cnt F ((F.nd m).kid i) := by
  have a := sumN_le (f := fun q => Tr.cntM (F.nd q) ((F.nd m).kid i)) hm
  have b : 1 ≤ Tr.cntM (F.nd m) ((F.nd m).kid i) := by
    unfold Tr.cntM
    rw [if_pos h2]
    have := sumN_le (f := fun j => oneN ((F.nd m).kid j) ((F.nd m).kid i)) hi
    simp only [oneN_same] at this
    exact this
  have a' : Tr.cntM (F.nd m) ((F.nd m).kid i) ≤ sumN (fun q => Tr.cntM (F.nd q) ((F.nd m).kid i)) 40 := a
  unfold Tr.cnt; omega
/-- Whoever is not counted is neither a root nor named. -/
theorem Tr.cnt_no {F : Fo} {n : Nat} (h : Tr.cnt F n = 0) : (∀ m i, m < 40 → (F.nd m).kind = 2 → i < (F.nd m).size → (F.nd m).kid i ≠ n) ∧ ∀ t, t < F.trees → F.root t ≠ n := by
  refine ⟨fun m i hm h2 hi e => ?_, fun t ht e => ?_⟩
  · have := Tr.cnt_kid hm h2 hi
    rw [e] at this; omega
  · have := sumN_le (f := fun t => oneN (F.root t) n) ht
    simp only [e, oneN_same] at this
    have r : Tr.cntR F n = sumN (fun t => oneN (F.root t) n) F.trees := rfl
    unfold Tr.cnt at h; omega
/-- A count is bounded. -/
theorem Tr.cntM_le (x : Nd) (n : Nat) (h : x.kind = 2 → x.size ≤ 8) : Tr.cntM x n ≤ 8 := by
  unfold Tr.cntM
  split
  · rename_i c
    have : ∀ k, sumN (fun i => oneN (x.kid i) n) k ≤ k := fun k => by
      induction k with
      | zero => exact Nat.le_refl _
      | succ k ih => show sumN _ k + oneN _ n ≤ _; have : oneN (x.kid k) n ≤ 1 := by unfold oneN; split <;> omega
                     omega
    have := this x.size
    have := h c; omega
  · omega
end Go.Proofs.YthdadmbpnoofoaaGreatDoor
/- The forest, plain: what stays true of it; the beginning, Plant, Hold, Write, Cut. -/
namespace Go.Proofs.YthdadmbpnoofoaaGreatDoor
open Tr (Fo Nd)

/-- What is true of every forest. -/
structure Tr.Ok (F : Fo) : Prop where
  tr : F.trees ≤ 4
  kd : ∀ n, n < 40 → (F.nd n).kind ≤ 2
  sz : Tr.SzOk F
  fz : Tr.FzOk F
  nb : ∀ n i, n < 40 → (F.nd n).kind = 2 → i < (F.nd n).size → Tr.nameB ((F.nd n).nam i) = true
  dp : ∀ n, n < 40 → (F.nd n).kind = 2 → Tr.Nodup (F.nd n)
  ki : ∀ n i, n < 40 → (F.nd n).kind = 2 → i < (F.nd n).size → (F.nd n).kid i < 40 ∧ (F.nd ((F.nd n).kid i)).kind ≠ 0 ∧ (F.nd ((F.nd n).kid i)).tree = (F.nd n).tree ∧ ((F.nd ((F.nd n).kid i)).kind = 2 → (F.nd ((F.nd n).kid i)).up = n)
  rt : ∀ t, t < F.trees → F.root t < 40 ∧ (F.nd (F.root t)).kind = 2 ∧ (F.nd (F.root t)).up = F.root t ∧ (F.nd (F.root t)).tree = t
  lk : ∀ n, n < 40 → (F.nd n).kind ≠ 0 → (F.nd n).links = Tr.cnt F n
  al : ∀ n, n < 40 → (F.nd n).kind ≠ 0 → 1 ≤ (F.nd n).links + (F.nd n).held
  dr : ∀ n, n < 40 → (F.nd n).kind = 2 → Tr.cnt F n = 1
  en : ∀ n, n < 40 → (F.nd n).kind = 2 → Tr.EndsF F 40 n
  ro : ∀ n, n < 40 → (F.nd n).kind = 2 → (F.nd n).up = n → ∃ t, t < F.trees ∧ F.root t = n
/-- A node that is none is led to by nobody. -/
theorem Tr.Ok.none {F : Fo} (h : Tr.Ok F) {k : Nat} (k0 : (F.nd k).kind = 0) : Tr.cnt F k = 0 := by
  unfold Tr.cnt Tr.cntR
  rw [sumN_zero (fun m hm => ?_), sumN_zero (fun t ht => ?_)]
  · exact oneN_ne (fun e => by have := (h.rt t ht).2.1; rw [e, k0] at this; exact absurd this (by decide))
  · unfold Tr.cntM
    split
    · rename_i c
      exact sumN_zero (fun i hi => oneN_ne (fun e => by have := (h.ki m i hm c hi).2.1; rw [e] at this; exact this k0))
    · rfl
/-- The count is bounded. -/
theorem Tr.Ok.cnt_le {F : Fo} (h : Tr.Ok F) (n : Nat) : Tr.cnt F n ≤ 324 := by
  have a : ∀ k, k ≤ 40 → sumN (fun m => Tr.cntM (F.nd m) n) k ≤ 8 * k := fun k hk => by
    induction k with
    | zero => exact Nat.le_refl _
    | succ k ih =>
      show sumN _ k + Tr.cntM (F.nd k) n ≤ _
      have := Tr.cntM_le (F.nd k) n (fun c => h.sz k (by omega) c)
      have := ih (by omega)
      omega
  have b : ∀ k, sumN (fun t => oneN (F.root t) n) k ≤ k := fun k => by
    induction k with
    | zero => exact Nat.le_refl _
    | succ k ih =>
      show sumN _ k + oneN _ n ≤ _
      have : oneN (F.root k) n ≤ 1 := by unfold oneN; split <;> omega
      omega
  have c1 := a 40 (Nat.le_refl _)
  have c2 := b F.trees
  have c3 := h.tr
  unfold Tr.cnt Tr.cntR; omega
theorem Tr.Ok.links_lt {F : Fo} (h : Tr.Ok F) (n : Nat) (hn : n < 40) (k0 : (F.nd n).kind ≠ 0) : (F.nd n).links ≤ 324 := by rw [h.lk n hn k0]; exact h.cnt_le n
theorem Tr.Ok.kid {F : Fo} (h : Tr.Ok F) : Tr.KidOk F := fun n hn k2 i hi => by
  obtain ⟨h1, h2, _⟩ := h.ki n i hn k2 hi
  have := h.links_lt _ h1 h2
  exact ⟨h1, by rw [h.lk _ h1 h2]; exact Tr.cnt_kid hn k2 hi, by omega⟩
theorem Tr.f0_kind (n : Nat) : (Tr.f0.nd n).kind = 0 := rfl
theorem Tr.ok0 : Tr.Ok Tr.f0 := by
  have n2 : ∀ n, (Tr.f0.nd n).kind ≠ 2 := fun n => by rw [Tr.f0_kind]; decide
  have n1 : ∀ n, (Tr.f0.nd n).kind ≠ 1 := fun n => by rw [Tr.f0_kind]; decide
  exact ⟨Nat.zero_le _, fun _ _ => Nat.zero_le _, fun _ _ h => absurd h (n2 _), fun _ _ h => absurd h (n1 _), fun _ _ _ h => absurd h (n2 _), fun _ _ h => absurd h (n2 _), fun _ _ _ h => absurd h (n2 _), fun t ht => absurd ht (Nat.not_lt_zero t), fun _ _ h => absurd rfl h, fun _ _ h => absurd rfl h, fun _ _ h => absurd h (n2 _), fun _ _ h => absurd h (n2 _), fun _ _ h => absurd h (n2 _)⟩
theorem Tr.EndsF.congr {F G : Fo} (h : ∀ n, (G.nd n).up = (F.nd n).up) : ∀ {m n : Nat}, Tr.EndsF F m n → Tr.EndsF G m n
  | 0, n, hh => ⟨hh.1, by rw [h n]; exact hh.2⟩
  | m + 1, n, hh => ⟨hh.1, by
      rw [h n]
      rcases hh.2 with a | a
      · exact .inl a
      · exact .inr (Tr.EndsF.congr h a)⟩
/-- A node is put that has the same names, and is the same kind of thing. -/
theorem Tr.Ok.put {F : Fo} (h : Tr.Ok F) (p : Nat) (x : Nd) (hp : p < 40) (e1 : x.kind = (F.nd p).kind) (e2 : x.links = (F.nd p).links) (e3 : x.tree = (F.nd p).tree) (e4 : x.up = (F.nd p).up) (e5 : x.kind = 2 → x.size = (F.nd p).size ∧ x.nam = (F.nd p).nam ∧ x.kid = (F.nd p).kid) (e6 : x.kind = 1 → x.size ≤ 40) (e7 : x.kind ≠ 0 → 1 ≤ x.links + x.held) : Tr.Ok (F.put p x) := by
  have hk : ∀ n, ((F.put p x).nd n).kind = (F.nd n).kind := fun n => by
    by_cases c : n = p
    · subst c; rw [Tr.put_same, e1]
    · rw [Tr.put_ne _ _ _ _ c]
  have hl : ∀ n, ((F.put p x).nd n).links = (F.nd n).links := fun n => by
    by_cases c : n = p
    · subst c; rw [Tr.put_same, e2]
    · rw [Tr.put_ne _ _ _ _ c]
  have ht : ∀ n, ((F.put p x).nd n).tree = (F.nd n).tree := fun n => by
    by_cases c : n = p
    · subst c; rw [Tr.put_same, e3]
    · rw [Tr.put_ne _ _ _ _ c]
  have hu : ∀ n, ((F.put p x).nd n).up = (F.nd n).up := fun n => by
    by_cases c : n = p
    · subst c; rw [Tr.put_same, e4]
    · rw [Tr.put_ne _ _ _ _ c]
  have hd : ∀ n, (F.nd n).kind = 2 → ((F.put p x).nd n).size = (F.nd n).size ∧ ((F.put p x).nd n).nam = (F.nd n).nam ∧ ((F.put p x).nd n).kid = (F.nd n).kid := fun n k2 => by
    by_cases c : n = p
    · subst c; rw [Tr.put_same]; exact e5 (by rw [e1]; exact k2)
    · rw [Tr.put_ne _ _ _ _ c]; exact ⟨rfl, rfl, rfl⟩
  have hc : ∀ n, Tr.cnt (F.put p x) n = Tr.cnt F n := fun n => Tr.cnt_put_same F p x n hp (by
    unfold Tr.cntM
    by_cases c : x.kind = 2
    · rw [if_pos c, if_pos (by rw [← e1]; exact c), (e5 c).1, (e5 c).2.2]
    · rw [if_neg c, if_neg (by rw [← e1]; exact c)])
  refine ⟨h.tr, fun n hn => by rw [hk]; exact h.kd n hn, fun n hn k2 => ?_, fun n hn k1 => ?_, fun n i hn k2 hi => ?_, fun n hn k2 => ?_, fun n i hn k2 hi => ?_, fun t htt => ?_, fun n hn k0 => ?_, fun n hn k0 => ?_, fun n hn k2 => ?_, fun n hn k2 => ?_, fun n hn k2 hu2 => ?_⟩
  · rw [hk] at k2; rw [(hd n k2).1]; exact h.sz n hn k2
  · by_cases c : n = p
    · subst c; rw [Tr.put_same] at k1 ⊢; exact e6 k1
    · rw [Tr.put_ne _ _ _ _ c] at k1 ⊢; exact h.fz n hn k1
  · rw [hk] at k2; rw [(hd n k2).1] at hi; rw [(hd n k2).2.1]; exact h.nb n i hn k2 hi
  · rw [hk] at k2; unfold Tr.Nodup; rw [(hd n k2).1, (hd n k2).2.1]; exact h.dp n hn k2
  · rw [hk] at k2; rw [(hd n k2).1] at hi; rw [(hd n k2).2.2, hk, ht, ht, hu]; exact h.ki n i hn k2 hi
  · show F.root t < 40 ∧ _
    have := h.rt t htt
    show F.root t < 40 ∧ ((F.put p x).nd (F.root t)).kind = 2 ∧ ((F.put p x).nd (F.root t)).up = F.root t ∧ ((F.put p x).nd (F.root t)).tree = t
    rw [hk, hu, ht]; exact this
  · rw [hk] at k0; rw [hl, hc]; exact h.lk n hn k0
  · by_cases c : n = p
    · subst c; rw [Tr.put_same] at k0 ⊢; exact e7 k0
    · rw [Tr.put_ne _ _ _ _ c] at k0 ⊢; exact h.al n hn k0
  · rw [hk] at k2; rw [hc]; exact h.dr n hn k2
  · rw [hk] at k2; exact (h.en n hn k2).congr hu
  · rw [hk] at k2; rw [hu] at hu2; exact h.ro n hn k2 hu2
end Go.Proofs.YthdadmbpnoofoaaGreatDoor
/- The forest, plain: Hold, Write, Cut keep what is true of it; a node is swept. -/
namespace Go.Proofs.YthdadmbpnoofoaaGreatDoor
open Tr (Fo Nd)

theorem Tr.Ok.wri {F : Fo} (h : Tr.Ok F) (z a : Int) (s : ByteArray) : Tr.Ok (Tr.wriF F z a s) := by
  unfold Tr.wriF
  split
  · rename_i c
    have c1 : Tr.isE F z 1 = 0 := by
      rcases Classical.em (Tr.isE F z 1 = 0) with d | d
      · exact d
      · have := c.1; unfold Tr.wriE at this; rw [if_pos d] at this; exact this
    obtain ⟨n, rfl, n40, _, k1⟩ := Tr.isE_ok c1
    have cw := c.1
    unfold Tr.wriE at cw
    rw [if_neg (fun d => d c1)] at cw
    rw [Int.toNat_natCast]
    refine h.put n _ n40 rfl rfl rfl rfl (fun k2 => absurd ((show (F.nd n).kind = 2 from k2).symm.trans k1) (by decide)) (fun _ => ?_) (fun k0 => h.al n n40 k0)
    show max (F.nd n).size (a.toNat + s.size) ≤ 40
    have := h.fz n n40 k1
    split at cw
    · omega
    · split at cw
      · omega
      · omega
  · exact h
theorem Tr.Ok.cut {F : Fo} (h : Tr.Ok F) (z a : Int) : Tr.Ok (Tr.cutF F z a) := by
  unfold Tr.cutF
  split
  · rename_i c
    have c1 : Tr.isE F z 1 = 0 := by
      rcases Classical.em (Tr.isE F z 1 = 0) with d | d
      · exact d
      · have := c; unfold Tr.cutE at this; rw [if_pos d] at this; exact this
    obtain ⟨n, rfl, n40, _, k1⟩ := Tr.isE_ok c1
    have cw := c
    unfold Tr.cutE at cw
    rw [if_neg (fun d => d c1), Int.toNat_natCast] at cw
    rw [Int.toNat_natCast]
    refine h.put n _ n40 rfl rfl rfl rfl (fun k2 => absurd ((show (F.nd n).kind = 2 from k2).symm.trans k1) (by decide)) (fun _ => ?_) (fun k0 => h.al n n40 k0)
    show a.toNat ≤ 40
    have := h.fz n n40 k1
    split at cw
    · omega
    · omega
  · exact h
/-- Whoever is a directory is a root, or a name of the one above leads to it. -/
theorem Tr.up_of {F : Fo} (ki : ∀ n i, n < 40 → (F.nd n).kind = 2 → i < (F.nd n).size → (F.nd n).kid i < 40 ∧ (F.nd ((F.nd n).kid i)).kind ≠ 0 ∧ (F.nd ((F.nd n).kid i)).tree = (F.nd n).tree ∧ ((F.nd ((F.nd n).kid i)).kind = 2 → (F.nd ((F.nd n).kid i)).up = n)) {m : Nat} (k2 : (F.nd m).kind = 2) (hc : 1 ≤ Tr.cnt F m) :
    (∃ t, t < F.trees ∧ F.root t = m) ∨ ∃ i, (F.nd m).up < 40 ∧ (F.nd (F.nd m).up).kind = 2 ∧ i < (F.nd (F.nd m).up).size ∧ (F.nd (F.nd m).up).kid i = m := by
  by_cases c : 0 < Tr.cntR F m
  · obtain ⟨t, ht, h1⟩ := sumN_pos c
    refine .inl ⟨t, ht, ?_⟩
    unfold oneN at h1
    split at h1
    · assumption
    · omega
  · unfold Tr.cnt at hc
    obtain ⟨p, hp, h1⟩ := sumN_pos (f := fun q => Tr.cntM (F.nd q) m) (n := 40) (by omega)
    have h1' : 0 < Tr.cntM (F.nd p) m := h1
    unfold Tr.cntM at h1'
    split at h1'
    · rename_i d
      obtain ⟨i, hi, h2⟩ := sumN_pos h1'
      unfold oneN at h2
      split at h2
      · rename_i e
        have a := (ki p i hp d hi).2.2.2
        rw [e] at a
        rw [a k2]
        exact .inr ⟨i, hp, d, hi, e⟩
      · omega
    · omega
/-- Going up stays among those of whom P is true. -/
theorem Tr.EndsF.on {F G : Fo} (P : Nat → Prop) (h : ∀ n, P n → (G.nd n).up = (F.nd n).up ∧ P (F.nd n).up) : ∀ {m n : Nat}, P n → Tr.EndsF F m n → Tr.EndsF G m n
  | 0, n, hp, hh => ⟨hh.1, by rw [(h n hp).1]; exact hh.2⟩
  | m + 1, n, hp, hh => ⟨hh.1, by
      rw [(h n hp).1]
      rcases hh.2 with a | a
      · exact .inl a
      · exact .inr (Tr.EndsF.on P h (h n hp).2 a)⟩
end Go.Proofs.YthdadmbpnoofoaaGreatDoor
/- The forest, plain: a name leads to a node that is led to once less than it counts. -/
namespace Go.Proofs.YthdadmbpnoofoaaGreatDoor
open Tr (Fo Nd)

/-- What is true but that node k counts one name more than lead to it. -/
structure Tr.OkX (F : Fo) (k : Nat) : Prop where
  tr : F.trees ≤ 4
  kd : ∀ n, n < 40 → (F.nd n).kind ≤ 2
  sz : Tr.SzOk F
  fz : Tr.FzOk F
  nb : ∀ n i, n < 40 → (F.nd n).kind = 2 → i < (F.nd n).size → Tr.nameB ((F.nd n).nam i) = true
  dp : ∀ n, n < 40 → (F.nd n).kind = 2 → Tr.Nodup (F.nd n)
  ki : ∀ n i, n < 40 → (F.nd n).kind = 2 → i < (F.nd n).size → (F.nd n).kid i < 40 ∧ (F.nd ((F.nd n).kid i)).kind ≠ 0 ∧ (F.nd ((F.nd n).kid i)).tree = (F.nd n).tree ∧ ((F.nd ((F.nd n).kid i)).kind = 2 → (F.nd ((F.nd n).kid i)).up = n)
  rt : ∀ t, t < F.trees → F.root t < 40 ∧ (F.nd (F.root t)).kind = 2 ∧ (F.nd (F.root t)).up = F.root t ∧ (F.nd (F.root t)).tree = t
  lk : ∀ n, n < 40 → (F.nd n).kind ≠ 0 → (F.nd n).links = Tr.cnt F n + oneN k n
  al : ∀ n, n < 40 → (F.nd n).kind ≠ 0 → 1 ≤ (F.nd n).links + (F.nd n).held
  dr : ∀ n, n < 40 → (F.nd n).kind = 2 → Tr.cnt F n + oneN k n = 1
  en : ∀ n, n < 40 → (F.nd n).kind = 2 → n ≠ k → Tr.EndsF F 40 n
  ro : ∀ n, n < 40 → (F.nd n).kind = 2 → n ≠ k → (F.nd n).up = n → ∃ t, t < F.trees ∧ F.root t = n
theorem Tr.leaF_put {F : Fo} {n k : Nat} {s : ByteArray} (nk : n ≠ k) : Tr.leaF F n s k = (F.put n (Tr.adN (F.nd n) s k)).put k (if (F.nd k).kind = 2 then { F.nd k with up := n } else F.nd k) := by
  have e : (F.put n (Tr.adN (F.nd n) s k)).nd k = F.nd k := Tr.put_ne _ _ _ _ (Ne.symm nk)
  unfold Tr.leaF
  rw [e]
  split
  · rfl
  · rw [show (F.put n (Tr.adN (F.nd n) s k)).put k (F.nd k) = (F.put n (Tr.adN (F.nd n) s k)).put k ((F.put n (Tr.adN (F.nd n) s k)).nd k) by rw [e], Tr.put_self]
/-- Whoever does not come by k comes to the same end where k alone goes elsewhere. -/
theorem Tr.EndsF.avoid {F G : Fo} {k : Nat} (h : ∀ x, x ≠ k → (G.nd x).up = (F.nd x).up) : ∀ {m x : Nat}, Tr.EndsF F m x → Tr.belB F k m x = false → Tr.EndsF G m x
  | 0, x, hh, hb => by
    have c : x ≠ k := fun e => by subst e; rw [Tr.belB_same] at hb; exact absurd hb (by decide)
    exact ⟨hh.1, by rw [h x c]; exact hh.2⟩
  | m + 1, x, hh, hb => by
    have c : x ≠ k := fun e => by subst e; rw [Tr.belB_same] at hb; exact absurd hb (by decide)
    refine ⟨hh.1, ?_⟩
    rw [h x c]
    by_cases d : (F.nd x).up = x
    · exact .inl d
    · rcases hh.2 with a | a
      · exact absurd a d
      · refine .inr (Tr.EndsF.avoid h a ?_)
        have hb' : (x == k || (!((F.nd x).up == x) && Tr.belB F k m (F.nd x).up)) = false := hb
        rw [show (x == k) = false from by simpa using c, show ((F.nd x).up == x) = false from by simpa using d] at hb'
        exact hb'
theorem Tr.EndsF.turn {F G : Fo} {k t j : Nat} (h : ∀ x, x ≠ k → (G.nd x).up = (F.nd x).up) (hk : k < 40) (hg : (G.nd k).up = t) (ht : Tr.EndsF G j t) : ∀ {m x : Nat}, Tr.EndsF F m x → ∃ m', Tr.EndsF G m' x
  | 0, x, hh => by
    by_cases c : x = k
    · subst c; exact ⟨j + 1, hk, .inr (by rw [hg]; exact ht)⟩
    · exact ⟨0, hh.1, by rw [h x c]; exact hh.2⟩
  | m + 1, x, hh => by
    by_cases c : x = k
    · subst c; exact ⟨j + 1, hk, .inr (by rw [hg]; exact ht)⟩
    · rcases hh.2 with a | a
      · exact ⟨0, hh.1, by rw [h x c]; exact a⟩
      · obtain ⟨m', h'⟩ := Tr.EndsF.turn h hk hg ht a
        exact ⟨m' + 1, hh.1, .inr (by rw [h x c]; exact h')⟩
theorem Tr.OkX.lead {F : Fo} {n k : Nat} {s : ByteArray} (h : Tr.OkX F k) (hn : n < 40) (hk : k < 40) (nk : n ≠ k) (n2 : (F.nd n).kind = 2) (k0 : (F.nd k).kind ≠ 0) (h8 : (F.nd n).size < 8) (hs : Tr.nameB s = true) (hp : Tr.PlcTo (F.nd n) s (-1)) (ht : (F.nd k).tree = (F.nd n).tree) (hb : (F.nd k).kind = 2 → Tr.belB F k 40 n = false) : Tr.Ok (Tr.leaF F n s k) := by
  obtain ⟨G, hG⟩ : ∃ G, Tr.leaF F n s k = G := ⟨_, rfl⟩
  rw [hG]
  rw [Tr.leaF_put nk] at hG
  have gn : G.nd n = Tr.adN (F.nd n) s k := by rw [← hG, Tr.put_ne _ _ _ _ nk, Tr.put_same]
  have gk : G.nd k = if (F.nd k).kind = 2 then { F.nd k with up := n } else F.nd k := by rw [← hG, Tr.put_same]
  have go : ∀ x, x ≠ n → x ≠ k → G.nd x = F.nd x := fun x c1 c2 => by rw [← hG, Tr.put_ne _ _ _ _ c2, Tr.put_ne _ _ _ _ c1]
  have gtr : G.trees = F.trees := by rw [← hG]; rfl
  have grt : ∀ t, G.root t = F.root t := fun t => by rw [← hG]; rfl
  have yk : (if (F.nd k).kind = 2 then { F.nd k with up := n } else F.nd k).kind = (F.nd k).kind := by split <;> rfl
  have all : ∀ x, (G.nd x).kind = (F.nd x).kind ∧ (G.nd x).links = (F.nd x).links ∧ (G.nd x).held = (F.nd x).held ∧ (G.nd x).tree = (F.nd x).tree := fun x => by
    by_cases c1 : x = n
    · subst c1; rw [gn]; exact ⟨rfl, rfl, rfl, rfl⟩
    · by_cases c2 : x = k
      · subst c2; rw [gk]; split <;> exact ⟨rfl, rfl, rfl, rfl⟩
      · rw [go x c1 c2]; exact ⟨rfl, rfl, rfl, rfl⟩
  have ent : ∀ x, x ≠ n → (G.nd x).size = (F.nd x).size ∧ (G.nd x).nam = (F.nd x).nam ∧ (G.nd x).kid = (F.nd x).kid := fun x c1 => by
    by_cases c2 : x = k
    · subst c2; rw [gk]; split <;> exact ⟨rfl, rfl, rfl⟩
    · rw [go x c1 c2]; exact ⟨rfl, rfl, rfl⟩
  have hup : ∀ x, x ≠ k → (G.nd x).up = (F.nd x).up := fun x c2 => by
    by_cases c1 : x = n
    · subst c1; rw [gn]; rfl
    · rw [go x c1 c2]
  have hupk : (F.nd k).kind = 2 → (G.nd k).up = n := fun k2 => by rw [gk, if_pos k2]
  have cnt : ∀ x, Tr.cnt G x = Tr.cnt F x + oneN k x := fun x => by
    have a := Tr.cnt_put F n (Tr.adN (F.nd n) s k) x hn
    rw [Tr.cntM_ad s k x n2] at a
    have b := Tr.cnt_put_same (F.put n (Tr.adN (F.nd n) s k)) k (if (F.nd k).kind = 2 then { F.nd k with up := n } else F.nd k) x hk (by
      rw [Tr.put_ne _ _ _ _ (Ne.symm nk)]
      split <;> rfl)
    rw [hG] at b
    omega
  have upk : ∀ q i, q < 40 → (F.nd q).kind = 2 → i < (F.nd q).size → (F.nd q).kid i = k → (F.nd k).kind ≠ 2 := fun q i hq q2 hi e k2 => by
    have a := Tr.cnt_kid hq q2 hi
    have b := h.dr k hk k2
    rw [e] at a
    rw [oneN_same] at b
    omega
  have rtk : ∀ t, t < F.trees → F.root t ≠ k := fun t htt e => by
    have k2 := (h.rt t htt).2.1
    rw [e] at k2
    have b := h.dr k hk k2
    rw [oneN_same] at b
    exact (Tr.cnt_no (show Tr.cnt F k = 0 by omega)).2 t htt e
  refine ⟨by rw [gtr]; exact h.tr, fun x hx => by rw [(all x).1]; exact h.kd x hx, fun x hx k2 => ?_, fun x hx k1 => ?_, fun x i hx k2 hi => ?_, fun x hx k2 => ?_, fun x i hx k2 hi => ?_, fun t htt => ?_, fun x hx kx => ?_, fun x hx kx => ?_, fun x hx k2 => ?_, fun x hx k2 => ?_, fun x hx k2 hu2 => ?_⟩
  · rw [(all x).1] at k2
    by_cases c : x = n
    · subst c; rw [gn, Tr.adN_size]; omega
    · rw [(ent x c).1]; exact h.sz x hx k2
  · rw [(all x).1] at k1
    by_cases c : x = n
    · subst c; rw [n2] at k1; exact absurd k1 (by decide)
    · rw [(ent x c).1]; exact h.fz x hx k1
  · rw [(all x).1] at k2
    by_cases c : x = n
    · subst c; rw [gn, Tr.adN_size] at hi; rw [gn]
      by_cases d : i = (F.nd x).size
      · subst d; rw [(Tr.adN_last _ _ _).1]; exact hs
      · rw [(Tr.adN_nam (by omega)).1]; exact h.nb x i hx k2 (by omega)
    · rw [(ent x c).1] at hi; rw [(ent x c).2.1]; exact h.nb x i hx k2 hi
  · rw [(all x).1] at k2
    by_cases c : x = n
    · subst c; rw [gn]; exact (h.dp x hx k2).adN hp
    · unfold Tr.Nodup; rw [(ent x c).1, (ent x c).2.1]; exact h.dp x hx k2
  · rw [(all x).1] at k2
    have old : ∀ q, (F.nd q).kind = 2 → q < 40 → ∀ i, i < (F.nd q).size → (F.nd q).kid i < 40 ∧ (G.nd ((F.nd q).kid i)).kind ≠ 0 ∧ (G.nd ((F.nd q).kid i)).tree = (G.nd q).tree ∧ ((G.nd ((F.nd q).kid i)).kind = 2 → (G.nd ((F.nd q).kid i)).up = q) := fun q q2 hq i hi => by
      obtain ⟨a1, a2, a3, a4⟩ := h.ki q i hq q2 hi
      rw [(all _).1, (all _).2.2.2, (all q).2.2.2]
      refine ⟨a1, a2, a3, fun kk => ?_⟩
      rw [hup _ (fun e => upk q i hq q2 hi e (by rw [← e]; exact kk))]
      exact a4 kk
    by_cases c : x = n
    · subst c
      have gnk : ∀ i, (G.nd x).kid i = (Tr.adN (F.nd x) s k).kid i := fun i => by rw [gn]
      have hi' : i < (F.nd x).size + 1 := by rw [gn, Tr.adN_size] at hi; exact hi
      rw [gnk]
      by_cases d : i = (F.nd x).size
      · subst d
        rw [(Tr.adN_last _ _ _).2, (all k).1, (all k).2.2.2, (all x).2.2.2]
        exact ⟨hk, k0, ht, hupk⟩
      · rw [(Tr.adN_nam (by omega)).2]; exact old x k2 hx i (by omega)
    · rw [(ent x c).1] at hi; rw [(ent x c).2.2]; exact old x k2 hx i hi
  · rw [gtr] at htt
    rw [grt, (all _).1, (all _).2.2.2, hup _ (rtk t htt)]
    exact h.rt t htt
  · rw [(all x).1] at kx; rw [(all x).2.1, cnt]; exact h.lk x hx kx
  · rw [(all x).1] at kx; rw [(all x).2.1, (all x).2.2.1]; exact h.al x hx kx
  · rw [(all x).1] at k2; rw [cnt]; exact h.dr x hx k2
  · rw [(all x).1] at k2
    by_cases kk : (F.nd k).kind = 2
    · have hnE := (h.en n hn n2 nk).avoid hup (hb kk)
      by_cases c : x = k
      · subst c
        exact Tr.EndsF.forty (m := 41) ⟨hk, .inr (by rw [hupk kk]; exact hnE)⟩
      · obtain ⟨m', h'⟩ := Tr.EndsF.turn hup hk (hupk kk) hnE (h.en x hx k2 c)
        exact h'.forty
    · have c : x ≠ k := fun e => by rw [e] at k2; exact kk k2
      refine (h.en x hx k2 c).congr (fun y => ?_)
      by_cases d : y = k
      · subst d; rw [gk, if_neg kk]
      · exact hup y d
  · rw [(all x).1] at k2
    have c : x ≠ k := fun e => by subst e; rw [hupk k2] at hu2; exact nk hu2
    rw [hup x c] at hu2
    obtain ⟨t, h1, h2⟩ := h.ro x hx k2 c hu2
    exact ⟨t, by rw [gtr]; exact h1, by rw [grt]; exact h2⟩
end Go.Proofs.YthdadmbpnoofoaaGreatDoor
/- The forest, plain: forget; Make, Link, Move keep what is true of it. -/
namespace Go.Proofs.YthdadmbpnoofoaaGreatDoor
open Tr (Fo Nd)

theorem Tr.Ok.forget {F : Fo} (h : Tr.Ok F) {n i : Nat} (hn : n < 40) (n2 : (F.nd n).kind = 2) (hi : i < (F.nd n).size) : Tr.OkX (F.put n (Tr.forN (F.nd n) i)) ((F.nd n).kid i) := by
  obtain ⟨G, hG⟩ : ∃ G, F.put n (Tr.forN (F.nd n) i) = G := ⟨_, rfl⟩
  obtain ⟨k, hk⟩ : ∃ k, (F.nd n).kid i = k := ⟨_, rfl⟩
  rw [hG, hk]
  have gn : G.nd n = Tr.forN (F.nd n) i := by rw [← hG, Tr.put_same]
  have go : ∀ x, x ≠ n → G.nd x = F.nd x := fun x c => by rw [← hG, Tr.put_ne _ _ _ _ c]
  have all : ∀ x, (G.nd x).kind = (F.nd x).kind ∧ (G.nd x).links = (F.nd x).links ∧ (G.nd x).held = (F.nd x).held ∧ (G.nd x).tree = (F.nd x).tree ∧ (G.nd x).up = (F.nd x).up := fun x => by
    by_cases c : x = n
    · subst c; rw [gn]; exact ⟨rfl, rfl, rfl, rfl, rfl⟩
    · rw [go x c]; exact ⟨rfl, rfl, rfl, rfl, rfl⟩
  have cnt : ∀ x, Tr.cnt G x + oneN k x = Tr.cnt F x := fun x => by
    have a := Tr.cnt_put F n (Tr.forN (F.nd n) i) x hn
    have b := Tr.cntM_for (x := F.nd n) (i := i) x n2 hi
    rw [hG] at a
    rw [hk] at b
    omega
  have was : ∀ x j, (F.nd x).kind = 2 → j < (G.nd x).size → ∃ q, q < (F.nd x).size ∧ (G.nd x).nam j = (F.nd x).nam q ∧ (G.nd x).kid j = (F.nd x).kid q := fun x j _ hj => by
    by_cases c : x = n
    · subst c; rw [gn] at hj ⊢; rw [Tr.forN_size] at hj
      obtain ⟨q, h1, _, h3, h4⟩ := Tr.forN_was hi hj
      exact ⟨q, h1, h3, h4⟩
    · rw [go x c] at hj ⊢; exact ⟨j, hj, rfl, rfl⟩
  have gtr : G.trees = F.trees := by rw [← hG]; rfl
  have grt : ∀ t, G.root t = F.root t := fun t => by rw [← hG]; rfl
  refine ⟨by rw [gtr]; exact h.tr, fun x hx => by rw [(all x).1]; exact h.kd x hx, fun x hx k2 => ?_, fun x hx k1 => ?_, fun x j hx k2 hj => ?_, fun x hx k2 => ?_, fun x j hx k2 hj => ?_, fun t htt => ?_, fun x hx kx => ?_, fun x hx kx => ?_, fun x hx k2 => ?_, fun x hx k2 _ => ?_, fun x hx k2 _ hu2 => ?_⟩
  · rw [(all x).1] at k2
    by_cases c : x = n
    · subst c; rw [gn, Tr.forN_size]; have := h.sz x hx k2; omega
    · rw [go x c]; exact h.sz x hx k2
  · rw [(all x).1] at k1
    by_cases c : x = n
    · subst c; rw [n2] at k1; exact absurd k1 (by decide)
    · rw [go x c]; exact h.fz x hx k1
  · rw [(all x).1] at k2
    obtain ⟨q, h1, h2, _⟩ := was x j k2 hj
    rw [h2]; exact h.nb x q hx k2 h1
  · rw [(all x).1] at k2
    by_cases c : x = n
    · subst c; rw [gn]; exact (h.dp x hx k2).forN hi
    · rw [go x c]; exact h.dp x hx k2
  · rw [(all x).1] at k2
    obtain ⟨q, h1, _, h3⟩ := was x j k2 hj
    rw [h3, (all _).1, (all _).2.2.2.1, (all x).2.2.2.1, (all _).2.2.2.2]
    exact h.ki x q hx k2 h1
  · rw [gtr] at htt
    rw [grt, (all _).1, (all _).2.2.2.1, (all _).2.2.2.2]
    exact h.rt t htt
  · rw [(all x).1] at kx; rw [(all x).2.1, cnt]; exact h.lk x hx kx
  · rw [(all x).1] at kx; rw [(all x).2.1, (all x).2.2.1]; exact h.al x hx kx
  · rw [(all x).1] at k2; rw [cnt]; exact h.dr x hx k2
  · rw [(all x).1] at k2; exact (h.en x hx k2).congr (fun y => (all y).2.2.2.2)
  · rw [(all x).1] at k2; rw [(all x).2.2.2.2] at hu2
    obtain ⟨t, h1, h2⟩ := h.ro x hx k2 hu2
    exact ⟨t, by rw [gtr]; exact h1, by rw [grt]; exact h2⟩
theorem Tr.belB_congr {F G : Fo} {o : Nat} (h : ∀ x, (G.nd x).up = (F.nd x).up) : ∀ m x, Tr.belB G o m x = Tr.belB F o m x
  | 0, _ => rfl
  | m + 1, x => by
    show (x == o || (!((G.nd x).up == x) && Tr.belB G o m (G.nd x).up)) = (x == o || (!((F.nd x).up == x) && Tr.belB F o m (F.nd x).up))
    rw [h x, Tr.belB_congr h m]
/-- A name is moved. -/
theorem Tr.Ok.mov {F : Fo} (h : Tr.Ok F) {z y E : Int} {s o : ByteArray} {G : Fo} (hm : Tr.MovTo F z s y o E G) : Tr.Ok G := by
  obtain ⟨K, e, hf, ⟨_, _, rfl⟩ | ⟨rfl, hm⟩⟩ := hm
  · exact h
  rcases hm with ⟨_, _, rfl⟩ | ⟨ey, hm⟩
  · exact h
  rcases hm with ⟨_, _, rfl⟩ | ⟨et, hm⟩
  · exact h
  rcases hm with ⟨_, _, rfl⟩ | ⟨hb, i, hpl, e2, hr, hm⟩
  · exact h
  rcases hm with ⟨_, _, rfl⟩ | ⟨rfl, _, rfl⟩
  · exact h
  obtain ⟨n, i', rfl, n40, n2, hp, hK⟩ := hf.ok
  obtain ⟨t, rfl, t40, _, t2⟩ := Tr.isE_ok ey
  rw [Int.toNat_natCast] at hb hpl hr et ⊢
  rw [Int.toNat_natCast] at hr et ⊢
  have ii : i = i' := by have := hpl.unique hp; omega
  subst ii
  have hi := hp.lt
  have hx := h.forget n40 n2 hi
  rw [← hK] at hx
  obtain ⟨k40, kk0, ktr, _⟩ := h.ki n i n40 n2 hi
  rw [← hK] at k40 kk0 ktr
  unfold Tr.movF
  have al : ∀ x, ((F.put n (Tr.forN (F.nd n) i)).nd x).kind = (F.nd x).kind ∧ ((F.put n (Tr.forN (F.nd n) i)).nd x).tree = (F.nd x).tree ∧ ((F.put n (Tr.forN (F.nd n) i)).nd x).up = (F.nd x).up := fun x => by
    by_cases c : x = n
    · subst c; rw [Tr.put_same]; exact ⟨rfl, rfl, rfl⟩
    · rw [Tr.put_ne _ _ _ _ c]; exact ⟨rfl, rfl, rfl⟩
  have tk : t ≠ K := fun c => by subst c; rw [Tr.belB_same] at hb; exact absurd hb (by decide)
  obtain ⟨hnm, h8⟩ := hr.ok
  refine hx.lead t40 k40 tk (by rw [(al t).1]; exact t2) (by rw [(al K).1]; exact kk0) ?_ hnm ?_ (by rw [(al K).2.1, (al t).2.1, ktr, et]) (fun _ => by rw [Tr.belB_congr (fun x => (al x).2.2)]; exact hb)
  · have := hx.sz t t40 (by rw [(al t).1]; exact t2)
    omega
  · rcases hr with ⟨_, q⟩ | ⟨_, ⟨_, _, q⟩ | ⟨q, _⟩⟩
    · exact absurd q (by decide)
    · exact absurd q (by decide)
    · exact q
end Go.Proofs.YthdadmbpnoofoaaGreatDoor
/- The forest, plain: Make, Link, Remove, Hold, Let, Plant keep what is true of it. -/
namespace Go.Proofs.YthdadmbpnoofoaaGreatDoor
open Tr (Fo Nd)

theorem Tr.Ok.lin {F : Fo} (h : Tr.Ok F) {y z E : Int} {s : ByteArray} {G : Fo} (hm : Tr.LinTo F y z s E G) : Tr.Ok G := by
  rcases hm with ⟨_, _, rfl⟩ | ⟨ey, e, hw, hm⟩
  · exact h
  rcases hm with ⟨_, _, rfl⟩ | ⟨rfl, hm⟩
  · exact h
  rcases hm with ⟨_, _, rfl⟩ | ⟨et, _, rfl⟩
  · exact h
  obtain ⟨k, rfl, k40, _, k1⟩ := Tr.isE_ok ey
  obtain ⟨n, rfl, n40, n2, hnm, hp, h8⟩ := hw.ok
  rw [Int.toNat_natCast, Int.toNat_natCast] at et ⊢
  unfold Tr.linF
  obtain ⟨F', hF'⟩ : ∃ F', F.put k { F.nd k with links := (F.nd k).links + 1 } = F' := ⟨_, rfl⟩
  rw [hF']
  have nk : n ≠ k := fun e => by rw [e, k1] at n2; exact absurd n2 (by decide)
  have gk : F'.nd k = { F.nd k with links := (F.nd k).links + 1 } := by rw [← hF', Tr.put_same]
  have go : ∀ x, x ≠ k → F'.nd x = F.nd x := fun x c => by rw [← hF', Tr.put_ne _ _ _ _ c]
  have al : ∀ x, (F'.nd x).kind = (F.nd x).kind ∧ (F'.nd x).size = (F.nd x).size ∧ (F'.nd x).nam = (F.nd x).nam ∧ (F'.nd x).kid = (F.nd x).kid ∧ (F'.nd x).tree = (F.nd x).tree ∧ (F'.nd x).up = (F.nd x).up ∧ (F'.nd x).held = (F.nd x).held := fun x => by
    by_cases c : x = k
    · subst c; rw [gk]; exact ⟨rfl, rfl, rfl, rfl, rfl, rfl, rfl⟩
    · rw [go x c]; exact ⟨rfl, rfl, rfl, rfl, rfl, rfl, rfl⟩
  have hl : ∀ x, (F'.nd x).links = (F.nd x).links + oneN k x := fun x => by
    by_cases c : x = k
    · subst c; rw [gk, oneN_same]
    · rw [go x c, oneN_ne (Ne.symm c)]; rfl
  have cnt : ∀ x, Tr.cnt F' x = Tr.cnt F x := fun x => by
    rw [← hF']
    exact Tr.cnt_put_same F k _ x k40 rfl
  have hx : Tr.OkX F' k := by
    refine ⟨by rw [← hF']; exact h.tr, fun x hx => by rw [(al x).1]; exact h.kd x hx, fun x hx k2 => ?_, fun x hx k1 => ?_, fun x j hx k2 hj => ?_, fun x hx k2 => ?_, fun x j hx k2 hj => ?_, fun t htt => ?_, fun x hx kx => ?_, fun x hx kx => ?_, fun x hx k2 => ?_, fun x hx k2 _ => ?_, fun x hx k2 _ hu2 => ?_⟩
    · rw [(al x).1] at k2; rw [(al x).2.1]; exact h.sz x hx k2
    · rw [(al x).1] at k1; rw [(al x).2.1]; exact h.fz x hx k1
    · rw [(al x).1] at k2; rw [(al x).2.1] at hj; rw [(al x).2.2.1]; exact h.nb x j hx k2 hj
    · rw [(al x).1] at k2; unfold Tr.Nodup; rw [(al x).2.1, (al x).2.2.1]; exact h.dp x hx k2
    · rw [(al x).1] at k2; rw [(al x).2.1] at hj
      rw [(al x).2.2.2.1, (al _).1, (al _).2.2.2.2.1, (al x).2.2.2.2.1, (al _).2.2.2.2.2.1]
      exact h.ki x j hx k2 hj
    · have a := h.rt t (by rw [← hF'] at htt; exact htt)
      have e : F'.root t = F.root t := by rw [← hF']; rfl
      rw [e, (al _).1, (al _).2.2.2.2.1, (al _).2.2.2.2.2.1]
      exact a
    · rw [(al x).1] at kx; rw [hl, cnt, h.lk x hx kx]
    · rw [(al x).1] at kx; rw [hl, (al x).2.2.2.2.2.2]; have := h.al x hx kx; omega
    · rw [(al x).1] at k2; rw [cnt, oneN_ne (fun e => by rw [← e, k1] at k2; exact absurd k2 (by decide)), Nat.add_zero]; exact h.dr x hx k2
    · rw [(al x).1] at k2; exact (h.en x hx k2).congr (fun y => (al y).2.2.2.2.2.1)
    · rw [(al x).1] at k2; rw [(al x).2.2.2.2.2.1] at hu2
      obtain ⟨t, h1, h2⟩ := h.ro x hx k2 hu2
      exact ⟨t, by rw [← hF']; exact h1, by rw [← hF']; exact h2⟩
  have n8 := h.sz n n40 n2
  refine hx.lead n40 k40 nk (by rw [(al n).1]; exact n2) (by rw [(al k).1, k1]; decide) (by rw [(al n).2.1]; omega) hnm (by rw [go n nk]; exact hp) (by rw [(al k).2.2.2.2.1, (al n).2.2.2.2.1]; exact et) (fun k2 => by rw [(al k).1, k1] at k2; exact absurd k2 (by decide))
/-- Nobody goes up by way of a node that is none. -/
theorem Tr.Ok.far {F G : Fo} (h : Tr.Ok F) {k : Nat} (k0 : (F.nd k).kind = 0) (hu : ∀ x, x ≠ k → (G.nd x).up = (F.nd x).up) : ∀ m x, x < 40 → (F.nd x).kind = 2 → Tr.belB G k m x = false
  | 0, x, _, k2 => by
    show (x == k) = false
    have c : x ≠ k := fun e => by rw [e, k0] at k2; exact absurd k2 (by decide)
    simpa using c
  | m + 1, x, hx, k2 => by
    have c : x ≠ k := fun e => by rw [e, k0] at k2; exact absurd k2 (by decide)
    show (x == k || (!((G.nd x).up == x) && Tr.belB G k m (G.nd x).up)) = false
    rw [show (x == k) = false from by simpa using c, hu x c]
    by_cases d : (F.nd x).up = x
    · rw [d]; simp
    · rcases Tr.up_of h.ki k2 (by rw [h.dr x hx k2]; exact Nat.le_refl _) with ⟨t, ht, e⟩ | ⟨i, h1, h2, _, _⟩
      · have := (h.rt t ht).2.2.1
        rw [e] at this
        exact absurd this d
      · rw [Tr.Ok.far h k0 hu m _ h1 h2]; simp
theorem Tr.Ok.mak {F : Fo} (h : Tr.Ok F) {z kz E : Int} {s : ByteArray} {K : Nat} {G : Fo} (hm : Tr.MakTo F z s kz K E G) : Tr.Ok G := by
  rcases hm with ⟨_, _, _, _, rfl⟩ | ⟨hkz, e, hw, hm⟩
  · exact h
  rcases hm with ⟨_, _, _, rfl⟩ | ⟨rfl, k, e2, hf, hm⟩
  · exact h
  rcases hm with ⟨_, _, _, rfl⟩ | ⟨rfl, _, _, rfl⟩
  · exact h
  obtain ⟨n, rfl, n40, n2, hnm, hp, h8⟩ := hw.ok
  obtain ⟨kd, hkd, hkd2⟩ : ∃ kd : Nat, kz.toNat = kd ∧ (kd = 1 ∨ kd = 2) := ⟨kz.toNat, rfl, by omega⟩
  rw [Int.toNat_natCast, hkd]
  obtain ⟨k40, k0⟩ : k < 40 ∧ (F.nd k).kind = 0 := by
    rcases hf with ⟨_, h1, h2, _⟩ | ⟨h1, _⟩
    · exact ⟨h1, h2⟩
    · omega
  unfold Tr.makF
  obtain ⟨F', hF'⟩ : ∃ F', F.put k (newN kd (F.nd n).tree 0) = F' := ⟨_, rfl⟩
  rw [hF']
  have nk : n ≠ k := fun e => by rw [e, k0] at n2; exact absurd n2 (by decide)
  have gk : F'.nd k = newN kd (F.nd n).tree 0 := by rw [← hF', Tr.put_same]
  have go : ∀ x, x ≠ k → F'.nd x = F.nd x := fun x c => by rw [← hF', Tr.put_ne _ _ _ _ c]
  have cnt : ∀ x, Tr.cnt F' x = Tr.cnt F x := fun x => by
    rw [← hF']
    refine Tr.cnt_put_same F k _ x k40 ?_
    rw [Tr.cntM_no (x := F.nd k) x (by rw [k0]; decide)]
    unfold Tr.cntM
    split <;> rfl
  have hc0 := h.none k0
  have kne : ∀ x i, x < 40 → (F.nd x).kind = 2 → i < (F.nd x).size → (F.nd x).kid i ≠ k := (fun x i hx k2 hi => (Tr.cnt_no hc0).1 x i hx k2 hi)
  have rne : ∀ t, t < F.trees → F.root t ≠ k := (Tr.cnt_no hc0).2
  have sz0 : (F'.nd k).size = 0 := by rw [gk]; rfl
  have hx : Tr.OkX F' k := by
    refine ⟨by rw [← hF']; exact h.tr, fun x hx => ?_, fun x hx k2 => ?_, fun x hx k1 => ?_, fun x j hx k2 hj => ?_, fun x hx k2 => ?_, fun x j hx k2 hj => ?_, fun t htt => ?_, fun x hx kx => ?_, fun x hx kx => ?_, fun x hx k2 => ?_, fun x hx k2 c => ?_, fun x hx k2 c hu2 => ?_⟩
    · by_cases c : x = k
      · subst c; rw [gk]; show kd ≤ 2; omega
      · rw [go x c]; exact h.kd x hx
    · by_cases c : x = k
      · subst c; rw [sz0]; exact Nat.zero_le _
      · rw [go x c] at k2 ⊢; exact h.sz x hx k2
    · by_cases c : x = k
      · subst c; rw [sz0]; exact Nat.zero_le _
      · rw [go x c] at k1 ⊢; exact h.fz x hx k1
    · by_cases c : x = k
      · subst c; rw [sz0] at hj; omega
      · rw [go x c] at k2 hj ⊢; exact h.nb x j hx k2 hj
    · by_cases c : x = k
      · subst c; intro a b _ hb; rw [sz0] at hb; omega
      · rw [go x c] at k2 ⊢; exact h.dp x hx k2
    · by_cases c : x = k
      · subst c; rw [sz0] at hj; omega
      · rw [go x c] at k2 hj ⊢
        rw [go _ (kne x j hx k2 hj)]
        exact h.ki x j hx k2 hj
    · have htt' : t < F.trees := by rw [← hF'] at htt; exact htt
      have e : F'.root t = F.root t := by rw [← hF']; rfl
      rw [e, go _ (rne t htt')]
      exact h.rt t htt'
    · by_cases c : x = k
      · subst c; rw [gk, cnt, hc0, oneN_same]; rfl
      · rw [go x c] at kx ⊢; rw [cnt, oneN_ne (Ne.symm c)]; exact h.lk x hx kx
    · by_cases c : x = k
      · subst c; rw [gk]; show 1 ≤ 1 + 0; omega
      · rw [go x c] at kx ⊢; exact h.al x hx kx
    · by_cases c : x = k
      · subst c; rw [cnt, hc0, oneN_same]
      · rw [go x c] at k2; rw [cnt, oneN_ne (Ne.symm c)]; exact h.dr x hx k2
    · rw [go x c] at k2
      exact (h.en x hx k2).avoid (k := k) (fun y d => by rw [go y d]) (h.far k0 (fun _ _ => rfl) 40 x hx k2)
    · rw [go x c] at k2 hu2
      obtain ⟨t, h1, h2⟩ := h.ro x hx k2 hu2
      exact ⟨t, by rw [← hF']; exact h1, by rw [← hF']; exact h2⟩
  have n8 := h.sz n n40 n2
  refine hx.lead n40 k40 nk (by rw [go n nk]; exact n2) (by rw [gk]; show kd ≠ 0; omega) (by rw [go n nk]; omega) hnm (by rw [go n nk]; exact hp) (by rw [gk, go n nk]; rfl) (fun _ => h.far k0 (fun y d => by rw [go y d]) 40 n n40 n2)
theorem Tr.Ok.hol {F : Fo} (h : Tr.Ok F) (z : Int) : Tr.Ok (Tr.hol F z) := by
  unfold Tr.hol
  split
  · rename_i c
    obtain ⟨n, rfl, n40, _⟩ := Tr.nodeE_ok c
    rw [Int.toNat_natCast]
    exact h.put n _ n40 rfl rfl rfl rfl (fun _ => ⟨rfl, rfl, rfl⟩) (fun k1 => h.fz n n40 k1) (fun k0 => by show 1 ≤ (F.nd n).links + ((F.nd n).held + 1); omega)
  · exact h
end Go.Proofs.YthdadmbpnoofoaaGreatDoor
/- The forest, plain: a node is no more; Remove, Let, Plant keep what is true of it. -/
namespace Go.Proofs.YthdadmbpnoofoaaGreatDoor
open Tr (Fo Nd)

/-- A node that nobody leads to, and that leads to nobody, is taken away. -/
theorem Tr.erase {F : Fo} {k : Nat} (hk : k < 40) (tr : F.trees ≤ 4) (kd : ∀ n, n < 40 → (F.nd n).kind ≤ 2) (sz : Tr.SzOk F) (fz : Tr.FzOk F)
    (nb : ∀ n i, n < 40 → (F.nd n).kind = 2 → i < (F.nd n).size → Tr.nameB ((F.nd n).nam i) = true)
    (dp : ∀ n, n < 40 → (F.nd n).kind = 2 → Tr.Nodup (F.nd n))
    (ki : ∀ n i, n < 40 → (F.nd n).kind = 2 → i < (F.nd n).size → (F.nd n).kid i < 40 ∧ (F.nd ((F.nd n).kid i)).kind ≠ 0 ∧ (F.nd ((F.nd n).kid i)).tree = (F.nd n).tree ∧ ((F.nd ((F.nd n).kid i)).kind = 2 → (F.nd ((F.nd n).kid i)).up = n))
    (rt : ∀ t, t < F.trees → F.root t < 40 ∧ (F.nd (F.root t)).kind = 2 ∧ (F.nd (F.root t)).up = F.root t ∧ (F.nd (F.root t)).tree = t)
    (lk : ∀ n, n < 40 → (F.nd n).kind ≠ 0 → n ≠ k → (F.nd n).links = Tr.cnt F n)
    (al : ∀ n, n < 40 → (F.nd n).kind ≠ 0 → n ≠ k → 1 ≤ (F.nd n).links + (F.nd n).held)
    (dr : ∀ n, n < 40 → (F.nd n).kind = 2 → n ≠ k → Tr.cnt F n = 1)
    (en : ∀ n, n < 40 → (F.nd n).kind = 2 → n ≠ k → Tr.EndsF F 40 n)
    (ro : ∀ n, n < 40 → (F.nd n).kind = 2 → n ≠ k → (F.nd n).up = n → ∃ t, t < F.trees ∧ F.root t = n)
    (c0 : Tr.cnt F k = 0) (z0 : (F.nd k).kind = 2 → (F.nd k).size = 0) : Tr.Ok (F.put k Nd.no) := by
  obtain ⟨G, hG⟩ : ∃ G, F.put k Nd.no = G := ⟨_, rfl⟩
  rw [hG]
  have gk : G.nd k = Nd.no := by rw [← hG, Tr.put_same]
  have gk0 : (G.nd k).kind = 0 := by rw [gk]; rfl
  have go : ∀ x, x ≠ k → G.nd x = F.nd x := fun x c => by rw [← hG, Tr.put_ne _ _ _ _ c]
  have cnt : ∀ x, Tr.cnt G x = Tr.cnt F x := fun x => by
    rw [← hG]
    refine Tr.cnt_put_same F k _ x hk ?_
    rw [Tr.cntM_no (x := Nd.no) x (by decide)]
    unfold Tr.cntM
    split
    · rename_i c; rw [z0 c]; rfl
    · rfl
  obtain ⟨kne, rne⟩ := Tr.cnt_no c0
  have n2 : ∀ {x}, (G.nd x).kind = 2 → x ≠ k := fun {x} k2 c => by subst c; rw [gk0] at k2; exact absurd k2 (by decide)
  have n0 : ∀ {x}, (G.nd x).kind ≠ 0 → x ≠ k := fun {x} kx c => by subst c; exact kx gk0
  refine ⟨by rw [← hG]; exact tr, fun x hx => ?_, fun x hx k2 => ?_, fun x hx k1 => ?_, fun x j hx k2 hj => ?_, fun x hx k2 => ?_, fun x j hx k2 hj => ?_, fun t htt => ?_, fun x hx kx => ?_, fun x hx kx => ?_, fun x hx k2 => ?_, fun x hx k2 => ?_, fun x hx k2 hu2 => ?_⟩
  · by_cases c : x = k
    · subst c; rw [gk0]; exact Nat.zero_le _
    · rw [go x c]; exact kd x hx
  · have c := n2 k2; rw [go x c] at k2 ⊢; exact sz x hx k2
  · have c : x ≠ k := fun e => by subst e; rw [gk0] at k1; exact absurd k1 (by decide)
    rw [go x c] at k1 ⊢; exact fz x hx k1
  · have c := n2 k2; rw [go x c] at k2 hj ⊢; exact nb x j hx k2 hj
  · have c := n2 k2; rw [go x c] at k2 ⊢; exact dp x hx k2
  · have c := n2 k2; rw [go x c] at k2 hj ⊢
    rw [go _ (kne x j hx k2 hj)]
    exact ki x j hx k2 hj
  · have htt' : t < F.trees := by rw [← hG] at htt; exact htt
    have e : G.root t = F.root t := by rw [← hG]; rfl
    rw [e, go _ (rne t htt')]
    exact rt t htt'
  · have c := n0 kx; rw [go x c] at kx ⊢; rw [cnt]; exact lk x hx kx c
  · have c := n0 kx; rw [go x c] at kx ⊢; exact al x hx kx c
  · have c := n2 k2; rw [go x c] at k2; rw [cnt]; exact dr x hx k2 c
  · have c := n2 k2; rw [go x c] at k2
    refine Tr.EndsF.on (F := F) (G := G) (fun y => y < 40 ∧ (F.nd y).kind = 2 ∧ y ≠ k) (fun y hy => ?_) ⟨hx, k2, c⟩ (en x hx k2 c)
    refine ⟨by rw [go y hy.2.2], ?_⟩
    rcases Tr.up_of ki hy.2.1 (by rw [dr y hy.1 hy.2.1 hy.2.2]; exact Nat.le_refl _) with ⟨t, ht, e⟩ | ⟨i, h1, h2, h3, _⟩
    · have := (rt t ht).2.2.1
      rw [e] at this
      rw [this]; exact hy
    · refine ⟨h1, h2, fun e => ?_⟩
      rw [e] at h2 h3
      rw [z0 h2] at h3; omega
  · have c := n2 k2; rw [go x c] at k2 hu2
    obtain ⟨t, h1, h2⟩ := ro x hx k2 c hu2
    exact ⟨t, by rw [← hG]; exact h1, by rw [← hG]; exact h2⟩
theorem Tr.Ok.letT {F : Fo} (h : Tr.Ok F) (z : Int) : Tr.Ok (Tr.letT F z) := by
  unfold Tr.letT
  split
  · rename_i c
    have c1 : Tr.nodeE F z = 0 := by
      rcases Classical.em (Tr.nodeE F z = 0) with d | d
      · exact d
      · unfold Tr.letE at c; rw [if_neg d] at c; exact c
    obtain ⟨n, rfl, n40, k0⟩ := Tr.nodeE_ok c1
    unfold Tr.letE at c
    rw [if_pos c1, Int.toNat_natCast] at c
    have h0 : (F.nd n).held ≠ 0 := fun e => by rw [if_pos e] at c; exact absurd c (by decide)
    rw [Int.toNat_natCast]
    unfold Tr.swe
    rw [Tr.put_same]
    split
    · rename_i d
      have d1 : (F.nd n).links = 0 := d.1
      rw [Tr.put_put]
      have c0 : Tr.cnt F n = 0 := by rw [← h.lk n n40 k0]; exact d1
      refine Tr.erase n40 h.tr h.kd h.sz h.fz h.nb h.dp h.ki h.rt (fun x hx kx _ => h.lk x hx kx) (fun x hx kx _ => h.al x hx kx) (fun x hx k2 _ => h.dr x hx k2) (fun x hx k2 _ => h.en x hx k2) (fun x hx k2 _ u => h.ro x hx k2 u) c0 (fun k2 => ?_)
      have := h.dr n n40 k2
      omega
    · rename_i d
      refine h.put n _ n40 rfl rfl rfl rfl (fun _ => ⟨rfl, rfl, rfl⟩) (fun k1 => h.fz n n40 k1) (fun _ => ?_)
      have d' : ¬ ((F.nd n).links = 0 ∧ (F.nd n).held - 1 = 0) := d
      show 1 ≤ (F.nd n).links + ((F.nd n).held - 1)
      omega
  · exact h
theorem Tr.Ok.rem {F : Fo} (h : Tr.Ok F) {z E : Int} {s : ByteArray} {G : Fo} (hm : Tr.RemTo F z s E G) : Tr.Ok G := by
  obtain ⟨k, e, hf, ⟨_, _, rfl⟩ | ⟨rfl, hm⟩⟩ := hm
  · exact h
  rcases hm with ⟨_, _, _, rfl⟩ | ⟨nbz, _, i, hpl, rfl⟩
  · exact h
  obtain ⟨n, i', rfl, n40, n2, hp, hK⟩ := hf.ok
  rw [Int.toNat_natCast] at hpl ⊢
  have ii : i = i' := by have := hpl.unique hp; omega
  subst ii
  have hi := hp.lt
  have hx := h.forget n40 n2 hi
  rw [← hK] at hx
  obtain ⟨k40, kk0, _, _⟩ := h.ki n i n40 n2 hi
  rw [← hK] at k40 kk0
  have nk : k ≠ n := fun e => nbz ⟨by rw [e]; exact n2, .inl (by rw [e]; omega)⟩
  unfold Tr.remF
  obtain ⟨F1, hF1⟩ : ∃ F1, F.put n (Tr.forN (F.nd n) i) = F1 := ⟨_, rfl⟩
  rw [hF1] at hx ⊢
  have gk : F1.nd k = F.nd k := by rw [← hF1, Tr.put_ne _ _ _ _ nk]
  have hl := hx.lk k k40 (by rw [gk]; exact kk0)
  rw [oneN_same, gk] at hl
  have one : ∀ x, x ≠ k → oneN k x = 0 := fun x c => oneN_ne (Ne.symm c)
  unfold Tr.swe
  rw [Tr.put_same]
  split
  · rename_i d
    have d1 : (F.nd k).links - 1 = 0 := d.1
    rw [Tr.put_put]
    refine Tr.erase k40 hx.tr hx.kd hx.sz hx.fz hx.nb hx.dp hx.ki hx.rt (fun x hxx kx c => by have := hx.lk x hxx kx; rw [one x c] at this; exact this) (fun x hxx kx _ => hx.al x hxx kx) (fun x hxx k2 c => by have := hx.dr x hxx k2; rw [one x c] at this; exact this) hx.en hx.ro (by omega) (fun k2 => ?_)
    rw [gk] at k2 ⊢
    rcases Nat.eq_zero_or_pos (F.nd k).size with q | q
    · exact q
    · exact absurd ⟨k2, .inl q⟩ nbz
  · rename_i d
    have d' : ¬ ((F.nd k).links - 1 = 0 ∧ (F1.nd k).held = 0) := d
    rw [gk] at d'
    have k1 : (F.nd k).kind ≠ 2 := fun k2 => by
      have b := hx.dr k k40 (by rw [gk]; exact k2)
      rw [oneN_same] at b
      rcases Nat.eq_zero_or_pos (F.nd k).held with q | q
      · exact d' ⟨by omega, q⟩
      · exact nbz ⟨k2, .inr q⟩
    obtain ⟨G, hG⟩ : ∃ G, F1.put k { F1.nd k with links := (F.nd k).links - 1 } = G := ⟨_, rfl⟩
    rw [hG]
    have go : ∀ x, x ≠ k → G.nd x = F1.nd x := fun x c => by rw [← hG, Tr.put_ne _ _ _ _ c]
    have al : ∀ x, (G.nd x).kind = (F1.nd x).kind ∧ (G.nd x).size = (F1.nd x).size ∧ (G.nd x).nam = (F1.nd x).nam ∧ (G.nd x).kid = (F1.nd x).kid ∧ (G.nd x).tree = (F1.nd x).tree ∧ (G.nd x).up = (F1.nd x).up ∧ (G.nd x).held = (F1.nd x).held := fun x => by
      by_cases c : x = k
      · subst c; rw [← hG, Tr.put_same]; exact ⟨rfl, rfl, rfl, rfl, rfl, rfl, rfl⟩
      · rw [go x c]; exact ⟨rfl, rfl, rfl, rfl, rfl, rfl, rfl⟩
    have gkl : (G.nd k).links = (F.nd k).links - 1 := by rw [← hG, Tr.put_same]
    have cnt : ∀ x, Tr.cnt G x = Tr.cnt F1 x := fun x => by
      rw [← hG]
      exact Tr.cnt_put_same F1 k _ x k40 rfl
    refine ⟨by rw [← hG]; exact hx.tr, fun x hxx => by rw [(al x).1]; exact hx.kd x hxx, fun x hxx k2 => ?_, fun x hxx k1 => ?_, fun x j hxx k2 hj => ?_, fun x hxx k2 => ?_, fun x j hxx k2 hj => ?_, fun t htt => ?_, fun x hxx kx => ?_, fun x hxx kx => ?_, fun x hxx k2 => ?_, fun x hxx k2 => ?_, fun x hxx k2 hu2 => ?_⟩
    · rw [(al x).1] at k2; rw [(al x).2.1]; exact hx.sz x hxx k2
    · rw [(al x).1] at k1; rw [(al x).2.1]; exact hx.fz x hxx k1
    · rw [(al x).1] at k2; rw [(al x).2.1] at hj; rw [(al x).2.2.1]; exact hx.nb x j hxx k2 hj
    · rw [(al x).1] at k2; unfold Tr.Nodup; rw [(al x).2.1, (al x).2.2.1]; exact hx.dp x hxx k2
    · rw [(al x).1] at k2; rw [(al x).2.1] at hj
      rw [(al x).2.2.2.1, (al _).1, (al _).2.2.2.2.1, (al x).2.2.2.2.1, (al _).2.2.2.2.2.1]
      exact hx.ki x j hxx k2 hj
    · have a := hx.rt t (by rw [← hG] at htt; exact htt)
      have e : G.root t = F1.root t := by rw [← hG]; rfl
      rw [e, (al _).1, (al _).2.2.2.2.1, (al _).2.2.2.2.2.1]
      exact a
    · rw [(al x).1] at kx; rw [cnt]
      by_cases c : x = k
      · subst c; rw [gkl]; omega
      · rw [go x c]; have := hx.lk x hxx kx; rw [one x c] at this; exact this
    · rw [(al x).1] at kx
      by_cases c : x = k
      · subst c; rw [gkl, (al x).2.2.2.2.2.2, gk]; omega
      · rw [go x c]; exact hx.al x hxx kx
    · rw [(al x).1] at k2; rw [cnt]
      have c : x ≠ k := fun e => by rw [e, gk] at k2; exact k1 k2
      have := hx.dr x hxx k2; rw [one x c] at this; exact this
    · rw [(al x).1] at k2
      have c : x ≠ k := fun e => by rw [e, gk] at k2; exact k1 k2
      exact (hx.en x hxx k2 c).congr (fun y => (al y).2.2.2.2.2.1)
    · rw [(al x).1] at k2; rw [(al x).2.2.2.2.2.1] at hu2
      have c : x ≠ k := fun e => by rw [e, gk] at k2; exact k1 k2
      obtain ⟨t, h1, h2⟩ := hx.ro x hxx k2 c hu2
      exact ⟨t, by rw [← hG]; exact h1, by rw [← hG]; exact h2⟩
end Go.Proofs.YthdadmbpnoofoaaGreatDoor
/- The forest, plain: Plant keeps what is true of it. -/
namespace Go.Proofs.YthdadmbpnoofoaaGreatDoor
open Tr (Fo Nd)

theorem Tr.Ok.pla {F : Fo} (h : Tr.Ok F) {T : Nat} {E : Int} {G : Fo} (hm : Tr.PlaTo F T E G) : Tr.Ok G := by
  rcases hm with ⟨_, _, _, rfl⟩ | ⟨t4, n, e, hf, hm⟩
  · exact h
  rcases hm with ⟨_, _, _, rfl⟩ | ⟨rfl, _, _, rfl⟩
  · exact h
  obtain ⟨n40, k0⟩ : n < 40 ∧ (F.nd n).kind = 0 := by
    rcases hf with ⟨_, h1, h2, _⟩ | ⟨h1, _⟩
    · exact ⟨h1, h2⟩
    · omega
  obtain ⟨G, hG⟩ : ∃ G, Tr.plaF F n = G := ⟨_, rfl⟩
  rw [hG]
  have gk : G.nd n = newN 2 F.trees n := by rw [← hG]; exact Tr.put_same F n _
  have go : ∀ x, x ≠ n → G.nd x = F.nd x := fun x c => by rw [← hG]; exact Tr.put_ne F n _ x c
  have gtr : G.trees = F.trees + 1 := by rw [← hG]; rfl
  have gro : ∀ t, t < F.trees → G.root t = F.root t := fun t ht => by rw [← hG]; exact upA_ne _ _ _ _ (by omega)
  have grn : G.root F.trees = n := by rw [← hG]; exact upA_same _ _ _
  have hc0 := h.none k0
  obtain ⟨kne, rne⟩ := Tr.cnt_no hc0
  have cnt : ∀ x, Tr.cnt G x = Tr.cnt F x + oneN n x := fun x => by
    have a : Tr.cnt (F.put n (newN 2 F.trees n)) x = Tr.cnt F x := by
      refine Tr.cnt_put_same F n _ x n40 ?_
      rw [Tr.cntM_no (x := F.nd n) x (by rw [k0]; decide)]
      rfl
    have b : Tr.cntR G x = Tr.cntR F x + oneN n x := by
      unfold Tr.cntR
      rw [gtr]
      show sumN (fun t => oneN (G.root t) x) F.trees + oneN (G.root F.trees) x = _
      rw [grn, sumN_congr (fun t ht => by rw [gro t ht])]
    have c : sumN (fun m => Tr.cntM (G.nd m) x) 40 = sumN (fun m => Tr.cntM ((F.put n (newN 2 F.trees n)).nd m) x) 40 := by rw [← hG]; rfl
    have d : Tr.cntR (F.put n (newN 2 F.trees n)) x = Tr.cntR F x := rfl
    unfold Tr.cnt at a ⊢
    rw [c, b]
    omega
  have sz0 : (G.nd n).size = 0 := by rw [gk]; rfl
  have h4 := h.tr
  refine ⟨by rw [gtr]; omega, fun x hx => ?_, fun x hx k2 => ?_, fun x hx k1 => ?_, fun x j hx k2 hj => ?_, fun x hx k2 => ?_, fun x j hx k2 hj => ?_, fun t htt => ?_, fun x hx kx => ?_, fun x hx kx => ?_, fun x hx k2 => ?_, fun x hx k2 => ?_, fun x hx k2 hu2 => ?_⟩
  · by_cases c : x = n
    · subst c; rw [gk]; exact Nat.le_refl _
    · rw [go x c]; exact h.kd x hx
  · by_cases c : x = n
    · subst c; rw [sz0]; exact Nat.zero_le _
    · rw [go x c] at k2 ⊢; exact h.sz x hx k2
  · by_cases c : x = n
    · subst c; rw [sz0]; exact Nat.zero_le _
    · rw [go x c] at k1 ⊢; exact h.fz x hx k1
  · by_cases c : x = n
    · subst c; rw [sz0] at hj; omega
    · rw [go x c] at k2 hj ⊢; exact h.nb x j hx k2 hj
  · by_cases c : x = n
    · subst c; intro a b _ hb; rw [sz0] at hb; omega
    · rw [go x c] at k2 ⊢; exact h.dp x hx k2
  · by_cases c : x = n
    · subst c; rw [sz0] at hj; omega
    · rw [go x c] at k2 hj ⊢
      rw [go _ (kne x j hx k2 hj)]
      exact h.ki x j hx k2 hj
  · rw [gtr] at htt
    by_cases c : t = F.trees
    · subst c; rw [grn, gk]; exact ⟨n40, rfl, rfl, rfl⟩
    · rw [gro t (by omega), go _ (rne t (by omega))]
      exact h.rt t (by omega)
  · by_cases c : x = n
    · subst c; rw [gk, cnt, hc0, oneN_same]; rfl
    · rw [go x c] at kx ⊢; rw [cnt, oneN_ne (Ne.symm c)]; exact h.lk x hx kx
  · by_cases c : x = n
    · subst c; rw [gk]; show 1 ≤ 1 + 0; omega
    · rw [go x c] at kx ⊢; exact h.al x hx kx
  · by_cases c : x = n
    · subst c; rw [cnt, hc0, oneN_same]
    · rw [go x c] at k2; rw [cnt, oneN_ne (Ne.symm c)]; exact h.dr x hx k2
  · by_cases c : x = n
    · subst c
      exact Tr.EndsF.forty (m := 0) ⟨n40, by rw [gk]; rfl⟩
    · rw [go x c] at k2
      exact (h.en x hx k2).avoid (k := n) (fun y d => by rw [go y d]) (h.far k0 (fun _ _ => rfl) 40 x hx k2)
  · by_cases c : x = n
    · exact ⟨F.trees, by rw [gtr]; omega, by rw [grn, c]⟩
    · rw [go x c] at k2 hu2
      obtain ⟨t, h1, h2⟩ := h.ro x hx k2 hu2
      exact ⟨t, by rw [gtr]; omega, by rw [gro t h1]; exact h2⟩
/-- No directory is a name of its own. -/
theorem Tr.Ok.noself {F : Fo} (h : Tr.Ok F) {n i : Nat} (hn : n < 40) (n2 : (F.nd n).kind = 2) (hi : i < (F.nd n).size) : (F.nd n).kid i ≠ n := fun e => by
  obtain ⟨_, _, _, b⟩ := h.ki n i hn n2 hi
  rw [e] at b
  obtain ⟨t, ht, hr⟩ := h.ro n hn n2 (b n2)
  have a := h.dr n hn n2
  have c1 : 1 ≤ Tr.cntR F n := by
    have := sumN_le (f := fun t => oneN (F.root t) n) ht
    simp only [hr, oneN_same] at this
    exact this
  have c2 : 1 ≤ sumN (fun m => Tr.cntM (F.nd m) n) 40 := by
    have p := sumN_le (f := fun m => Tr.cntM (F.nd m) n) hn
    have q : 1 ≤ Tr.cntM (F.nd n) n := by
      unfold Tr.cntM
      rw [if_pos n2]
      have := sumN_le (f := fun j => oneN ((F.nd n).kid j) n) hi
      simp only [e, oneN_same] at this
      exact this
    have p' : Tr.cntM (F.nd n) n ≤ sumN (fun m => Tr.cntM (F.nd m) n) 40 := p
    omega
  unfold Tr.cnt at a
  omega
/-- A move leaves the moved node's own as it was. -/
theorem Tr.mov_same {F : Fo} (h : Tr.Ok F) {n i t : Nat} {o : ByteArray} (hn : n < 40) (n2 : (F.nd n).kind = 2) (hi : i < (F.nd n).size) (hb : Tr.belB F ((F.nd n).kid i) 40 t = false) :
    ∃ u, (Tr.movF F n i t ((F.nd n).kid i) o).nd ((F.nd n).kid i) = { F.nd ((F.nd n).kid i) with up := u } := by
  obtain ⟨k, hk⟩ : ∃ k, (F.nd n).kid i = k := ⟨_, rfl⟩
  rw [hk] at hb ⊢
  have tk : t ≠ k := fun c => by subst c; rw [Tr.belB_same] at hb; exact absurd hb (by decide)
  have nk : n ≠ k := fun c => h.noself hn n2 hi (hk.trans c.symm)
  unfold Tr.movF
  rw [Tr.leaF_put tk, Tr.put_same]
  have e : (F.put n (Tr.forN (F.nd n) i)).nd k = F.nd k := Tr.put_ne _ _ _ _ (Ne.symm nk)
  rw [e]
  split
  · exact ⟨t, rfl⟩
  · exact ⟨(F.nd k).up, rfl⟩
end Go.Proofs.YthdadmbpnoofoaaGreatDoor

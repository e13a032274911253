/- The forest, plain: how many names lead to a node. -/
import Derived.Test.YtfgnhldnmbfnkabUa
namespace Go.Proofs.Ytfgnhldnmbfnkab
open Tr (Fo Nd)

def sumN (f : Nat → Nat) : Nat → Nat
  | 0 => 0
  | n + 1 => sumN f n + f n
theorem sumN_congr {f g : Nat → Nat} : ∀ {n : Nat}, (∀ i, i < n → f i = g i) → sumN f n = sumN g n
  | 0, _ => rfl
  | n + 1, h => by show sumN f n + f n = sumN g n + g n; rw [sumN_congr (fun i hi => h i (by omega)), h n (by omega)]
theorem sumN_le {f : Nat → Nat} : ∀ {n i : Nat}, i < n → f i ≤ sumN f n
  | n + 1, i, h => by
    show f i ≤ sumN f n + f n
    by_cases c : i = n
    · subst c; omega
    · have := sumN_le (f := f) (n := n) (i := i) (by omega); omega
theorem sumN_pos {f : Nat → Nat} : ∀ {n : Nat}, 0 < sumN f n → ∃ i, i < n ∧ 0 < f i
  | 0, h => absurd h (Nat.lt_irrefl 0)
  | n + 1, h => by
    by_cases c : 0 < f n
    · exact ⟨n, by omega, c⟩
    · have h' : 0 < sumN f n + f n := h
      obtain ⟨i, h1, h2⟩ := sumN_pos (f := f) (n := n) (by omega)
      exact ⟨i, by omega, h2⟩
theorem sumN_zero {f : Nat → Nat} {n : Nat} (h : ∀ i, i < n → f i = 0) : sumN f n = 0 := by
  rcases Nat.eq_zero_or_pos (sumN f n) with c | c
  · exact c
  · obtain ⟨i, h1, h2⟩ := sumN_pos c
    rw [h i h1] at h2; omega
/-- One summand is another one. -/
theorem sumN_one {f g : Nat → Nat} {p : Nat} : ∀ {n : Nat}, p < n → (∀ i, i < n → i ≠ p → f i = g i) → sumN f n + g p = sumN g n + f p
  | n + 1, hp, h => by
    show sumN f n + f n + g p = sumN g n + g n + f p
    by_cases c : p = n
    · subst c
      rw [sumN_congr (f := f) (g := g) (fun i hi => h i (by omega) (by omega))]; omega
    · have := sumN_one (f := f) (g := g) (p := p) (n := n) (by omega) (fun i hi hne => h i (by omega) hne)
      rw [h n (by omega) (by omega)]; omega
theorem sumN_two {f : Nat → Nat} {n i j : Nat} (hi : i < j) (hj : j < n) : f i + f j ≤ sumN f n := by
  have a := sumN_one (f := fun m => if m = i then 0 else f m) (g := f) (p := i) (n := n) (by omega) (fun m _ hne => if_neg hne)
  have b := sumN_le (f := fun m => if m = i then 0 else f m) hj
  simp only [if_true] at a b
  rw [if_neg (by omega)] at b
  omega
def oneN (a b : Nat) : Nat := if a = b then 1 else 0
theorem oneN_same (a : Nat) : oneN a a = 1 := if_pos rfl
theorem oneN_ne {a b : Nat} (h : a ≠ b) : oneN a b = 0 := if_neg h
/-- How many names of a directory lead to n. -/
def Tr.cntM (x : Nd) (n : Nat) : Nat := if x.kind = 2 then sumN (fun i => oneN (x.kid i) n) x.size else 0
def Tr.cntR (F : Fo) (n : Nat) : Nat := sumN (fun t => oneN (F.root t) n) F.trees
/-- .. of all directories, and the roots. -/
def Tr.cnt (F : Fo) (n : Nat) : Nat := sumN (fun m => Tr.cntM (F.nd m) n) 40 + Tr.cntR F n
theorem Tr.cntM_no {x : Nd} (n : Nat) (h : x.kind ≠ 2) : Tr.cntM x n = 0 := if_neg h
theorem Tr.cntM_ad {x : Nd} (s : ByteArray) (k n : Nat) (h : x.kind = 2) : Tr.cntM (Tr.adN x s k) n = Tr.cntM x n + oneN k n := by
  unfold Tr.cntM
  rw [if_pos h, if_pos (show (Tr.adN x s k).kind = 2 from h), Tr.adN_size]
  show sumN (fun i => oneN ((Tr.adN x s k).kid i) n) x.size + oneN ((Tr.adN x s k).kid x.size) n = _
  rw [(Tr.adN_last x s k).2, sumN_congr (fun i hi => by rw [(Tr.adN_nam hi).2])]
theorem Tr.cntM_for {x : Nd} {i : Nat} (n : Nat) (h : x.kind = 2) (hi : i < x.size) : Tr.cntM (Tr.forN x i) n + oneN (x.kid i) n = Tr.cntM x n := by
  unfold Tr.cntM
  rw [if_pos h, if_pos (show (Tr.forN x i).kind = 2 from h), Tr.forN_size]
  obtain ⟨l, hl⟩ : ∃ l, x.size = l + 1 := ⟨x.size - 1, by omega⟩
  rw [hl, show l + 1 - 1 = l by omega]
  show sumN (fun j => oneN ((Tr.forN x i).kid j) n) l + oneN (x.kid i) n = sumN (fun j => oneN (x.kid j) n) l + oneN (x.kid l) n
  by_cases c : i = l
  · subst c
    rw [sumN_congr (fun j hj => by rw [Tr.forN_kid (by omega), if_neg (by omega)])]
  · have a := sumN_one (f := fun j => oneN ((Tr.forN x i).kid j) n) (g := fun j => oneN (x.kid j) n) (p := i) (n := l) (by omega) (fun j hj hne => by show oneN _ n = oneN _ n; rw [Tr.forN_kid (by omega), if_neg hne])
    have e : (Tr.forN x i).kid i = x.kid l := by rw [Tr.forN_kid (by omega), if_pos rfl, hl]; rfl
    simp only [e] at a
    omega
/-- One node is put in another's place. -/
theorem Tr.cnt_put (F : Fo) (p : Nat) (x : Nd) (n : Nat) (hp : p < 40) : Tr.cnt (F.put p x) n + Tr.cntM (F.nd p) n = Tr.cnt F n + Tr.cntM x n := by
  have a := sumN_one (f := fun m => Tr.cntM ((F.put p x).nd m) n) (g := fun m => Tr.cntM (F.nd m) n) (p := p) (n := 40) hp (fun i _ hne => by show Tr.cntM ((F.put p x).nd i) n = Tr.cntM (F.nd i) n; rw [Tr.put_ne _ _ _ _ hne])
  simp only [Tr.put_same] at a
  unfold Tr.cnt
  have r : Tr.cntR (F.put p x) n = Tr.cntR F n := rfl
  rw [r]; omega
theorem Tr.cnt_put_same (F : Fo) (p : Nat) (x : Nd) (n : Nat) (hp : p < 40) (h : Tr.cntM x n = Tr.cntM (F.nd p) n) : Tr.cnt (F.put p x) n = Tr.cnt F n := by
  have := Tr.cnt_put F p x n hp; omega
/-- A node that a name leads to is counted. -/
theorem Tr.cnt_kid {F : Fo} {m i : Nat} (hm : m < 40) (h2 : (F.nd m).kind = 2) (hi : i < (F.nd m).size) : 1 ≤ Tr.cnt F ((F.nd m).kid i) := by
  have a := sumN_le (f := fun q => Tr.cntM (F.nd q) ((F.nd m).kid i)) hm
  have b : 1 ≤ Tr.cntM (F.nd m) ((F.nd m).kid i) := by
    unfold Tr.cntM
    rw [if_pos h2]
    have := sumN_le (f := fun j => oneN ((F.nd m).kid j) ((F.nd m).kid i)) hi
    simp only [oneN_same] at this
    exact this
  have a' : Tr.cntM (F.nd m) ((F.nd m).kid i) ≤ sumN (fun q => Tr.cntM (F.nd q) ((F.nd m).kid i)) 40 := a
  unfold Tr.cnt; omega
/-- Whoever is not counted is neither a root nor named. -/
theorem Tr.cnt_no {F : Fo} {n : Nat} (h : Tr.cnt F n = 0) : (∀ m i, m < 40 → (F.nd m).kind = 2 → i < (F.nd m).size → (F.nd m).kid i ≠ n) ∧ ∀ t, t < F.trees → F.root t ≠ n := by
  refine ⟨fun m i hm h2 hi e => ?_, fun t ht e => ?_⟩
  · have := Tr.cnt_kid hm h2 hi
    rw [e] at this; omega
  · have := sumN_le (f := fun t => oneN (F.root t) n) ht
    simp only [e, oneN_same] at this
    have r : Tr.cntR F n = sumN (fun t => oneN (F.root t) n) F.trees := rfl
    unfold Tr.cnt at h; omega
/-- A count is bounded. -/
theorem Tr.cntM_le (x : Nd) (n : Nat) (h : x.kind = 2 → x.size ≤ 8) : Tr.cntM x n ≤ 8 := by
  unfold Tr.cntM
  split
  · rename_i c
    have : ∀ k, sumN (fun i => oneN (x.kid i) n) k ≤ k := fun k => by
      induction k with
      | zero => exact Nat.le_refl _
      | succ k ih => show sumN _ k + oneN _ n ≤ _; have : oneN (x.kid k) n ≤ 1 := by unfold oneN; split <;> omega
                     omega
    have := this x.size
    have := h c; omega
  · omega
end Go.Proofs.Ytfgnhldnmbfnkab

import Derived.Test.YtghogbngmcolmaaGreatSal
namespace Go.Proofs.YtghogbngmcolmaaGreat
open Tr (Fo Nd)
theorem pig : ∀ (k m : Nat) (f : Nat → Nat), (∀ i, i < m → f i < k) → (∀ i j, i < j → j < m → f i ≠ f j) → m ≤ k
  | 0, m, f, h, _ => by
    rcases Nat.eq_zero_or_pos m with h0 | h0
    · omega
    · exact absurd (h 0 h0) (by omega)
  | k + 1, m, f, h, hi => by
    by_cases c : ∃ i, i < m ∧ f i = k
    · obtain ⟨a, ha, hk⟩ := c
      have := pig k (m - 1) (fun i => if i < a then f i else f (i + 1)) (fun i hm => by
        show (if i < a then f i else f (i + 1)) < k
        split
        · have h1 := h i (by omega)
          have h2 := hi i a (by omega) ha
          omega
        · have h1 := h (i + 1) (by omega)
          have h2 := hi a (i + 1) (by omega) (by omega)
          omega) (fun i j hij hj => by
        show (if i < a then f i else f (i + 1)) ≠ (if j < a then f j else f (j + 1))
        by_cases c1 : i < a
        · rw [if_pos c1]
          by_cases c2 : j < a
          · rw [if_pos c2]; exact hi i j hij (by omega)
          · rw [if_neg c2]; exact hi i (j + 1) (by omega) (by omega)
        · rw [if_neg c1, if_neg (by omega)]; exact hi (i + 1) (j + 1) (by omega) (by omega))
      omega
    · have := pig k m f (fun i hm => by
        have h1 := h i hm
        have h2 : f i ≠ k := fun e => c ⟨i, hm, e⟩
        omega) hi
      omega
def Tr.upI (F : Fo) (n : Nat) : Nat → Nat
  | 0 => n
  | k + 1 => (F.nd (Tr.upI F n k)).up
theorem Tr.upI_shift (F : Fo) (n : Nat) : ∀ k, Tr.upI F (F.nd n).up k = Tr.upI F n (k + 1)
  | 0 => rfl
  | k + 1 => by show (F.nd (Tr.upI F (F.nd n).up k)).up = _; rw [Tr.upI_shift F n k]; rfl
theorem Tr.upI_add (F : Fo) (n i : Nat) : ∀ k, Tr.upI F (Tr.upI F n i) k = Tr.upI F n (i + k)
  | 0 => rfl
  | k + 1 => by show (F.nd (Tr.upI F (Tr.upI F n i) k)).up = _; rw [Tr.upI_add F n i k]; rfl
theorem Tr.EndsF.first {F : Fo} : ∀ {m n : Nat}, Tr.EndsF F m n → ∃ e, (∀ j, j ≤ e → Tr.upI F n j < 40) ∧ (F.nd (Tr.upI F n e)).up = Tr.upI F n e ∧ ∀ j, j < e → (F.nd (Tr.upI F n j)).up ≠ Tr.upI F n j
  | 0, n, h => ⟨0, fun j hj => by obtain rfl : j = 0 := by omega
                                  exact h.1, h.2, fun j hj => by omega⟩
  | m + 1, n, h => by
    by_cases c : (F.nd n).up = n
    · exact ⟨0, fun j hj => by obtain rfl : j = 0 := by omega
                               exact h.1, c, fun j hj => by omega⟩
    · rcases h.2 with h2 | h2
      · exact absurd h2 c
      · obtain ⟨e, h3, h4, h5⟩ := h2.first
        refine ⟨e + 1, fun j hj => ?_, ?_, fun j hj => ?_⟩
        · cases j with
          | zero => exact h.1
          | succ j => rw [← Tr.upI_shift]; exact h3 j (by omega)
        · rw [← Tr.upI_shift]; exact h4
        · cases j with
          | zero => exact c
          | succ j => rw [← Tr.upI_shift]; exact h5 j (by omega)
theorem Tr.EndsF.ofI {F : Fo} : ∀ {e n : Nat}, (∀ j, j ≤ e → Tr.upI F n j < 40) → (F.nd (Tr.upI F n e)).up = Tr.upI F n e → Tr.EndsF F e n
  | 0, _, h1, h2 => ⟨h1 0 (by omega), h2⟩
  | e + 1, n, h1, h2 => ⟨h1 0 (by omega), .inr (Tr.EndsF.ofI (fun j hj => by rw [Tr.upI_shift]; exact h1 (j + 1) (by omega)) (by rw [Tr.upI_shift]; exact h2))⟩
theorem Tr.EndsF.mono {F : Fo} {n m : Nat} (h : Tr.EndsF F m n) : ∀ k, Tr.EndsF F (m + k) n
  | 0 => h
  | k + 1 => (Tr.EndsF.mono h k).more.1
theorem Tr.EndsF.forty {F : Fo} {m n : Nat} (h : Tr.EndsF F m n) : Tr.EndsF F 40 n := by
  obtain ⟨e, h1, h2, h3⟩ := h.first
  have stay : ∀ k, Tr.upI F n (e + k) = Tr.upI F n e := fun k => by
    induction k with
    | zero => rfl
    | succ k ih => show (F.nd (Tr.upI F n (e + k))).up = _; rw [ih, h2]
  have he : e + 1 ≤ 40 := pig 40 (e + 1) (Tr.upI F n) (fun i hi => h1 i (by omega)) (fun i j hij hj eq => by
    have a : Tr.upI F n (i + (e - j)) = Tr.upI F n e := by
      rw [← Tr.upI_add, eq, Tr.upI_add, show j + (e - j) = e by omega]
    exact h3 (i + (e - j)) (by omega) (by rw [a, h2]))
  have := (Tr.EndsF.ofI h1 h2).mono (40 - e)
  rwa [show e + (40 - e) = 40 by omega] at this
def Tr.Nodup (x : Nd) : Prop := ∀ i j, i < j → j < x.size → (x.nam i).toList ≠ (x.nam j).toList
end Go.Proofs.YtghogbngmcolmaaGreat
namespace Go.Proofs.YtghogbngmcolmaaGreat
open Tr (Fo Nd)
def sumN (f : Nat → Nat) : Nat → Nat
  | 0 => 0
  | n + 1 => sumN f n + f n
theorem sumN_congr {f g : Nat → Nat} : ∀ {n : Nat}, (∀ i, i < n → f i = g i) → sumN f n = sumN g n
  | 0, _ => rfl
  | n + 1, h => by show sumN f n + f n = sumN g n + g n; rw [sumN_congr (fun i hi => h i (by omega)), h n (by omega)]
theorem sumN_le {f : Nat → Nat} : ∀ {n i : Nat}, i < n → f i ≤ sumN f n
  | n + 1, i, h => by
    show f i ≤ sumN f n + f n
    by_cases c : i = n
    · subst c; omega
    · have := sumN_le (f := f) (n := n) (i := i) (by omega); omega
theorem sumN_pos {f : Nat → Nat} : ∀ {n : Nat}, 0 < sumN f n → ∃ i, i < n ∧ 0 < f i
  | 0, h => absurd h (Nat.lt_irrefl 0)
  | n + 1, h => by
    by_cases c : 0 < f n
    · exact ⟨n, by omega, c⟩
    · have h' : 0 < sumN f n + f n := h
      obtain ⟨i, h1, h2⟩ := sumN_pos (f := f) (n := n) (by omega)
      exact ⟨i, by omega, h2⟩
theorem sumN_zero {f : Nat → Nat} {n : Nat} (h : ∀ i, i < n → f i = 0) : sumN f n = 0 := by
  rcases Nat.eq_zero_or_pos (sumN f n) with c | c
  · exact c
  · obtain ⟨i, h1, h2⟩ := sumN_pos c
    rw [h i h1] at h2; omega
theorem sumN_one {f g : Nat → Nat} {p : Nat} : ∀ {n : Nat}, p < n → (∀ i, i < n → i ≠ p → f i = g i) → sumN f n + g p = sumN g n + f p
  | n + 1, hp, h => by
    show sumN f n + f n + g p = sumN g n + g n + f p
    by_cases c : p = n
    · subst c
      rw [sumN_congr (f := f) (g := g) (fun i hi => h i (by omega) (by omega))]; omega
    · have := sumN_one (f := f) (g := g) (p := p) (n := n) (by omega) (fun i hi hne => h i (by omega) hne)
      rw [h n (by omega) (by omega)]; omega
def oneN (a b : Nat) : Nat := if a = b then 1 else 0
theorem oneN_same (a : Nat) : oneN a a = 1 := if_pos rfl
theorem oneN_ne {a b : Nat} (h : a ≠ b) : oneN a b = 0 := if_neg h
def Tr.cntM (x : Nd) (n : Nat) : Nat := if x.kind = 2 then sumN (fun i => oneN (x.kid i) n) x.size else 0
def Tr.cntR (F : Fo) (n : Nat) : Nat := sumN (fun t => oneN (F.root t) n) F.trees
def Tr.cnt (F : Fo) (n : Nat) : Nat := sumN (fun m => Tr.cntM (F.nd m) n) 40 + Tr.cntR F n
theorem Tr.cntM_no {x : Nd} (n : Nat) (h : x.kind ≠ 2) : Tr.cntM x n = 0 := if_neg h
theorem Tr.cnt_put (F : Fo) (p : Nat) (x : Nd) (n : Nat) (hp : p < 40) : Tr.cnt (F.put p x) n + Tr.cntM (F.nd p) n = Tr.cnt F n + Tr.cntM x n := by
  have a := sumN_one (f := fun m => Tr.cntM ((F.put p x).nd m) n) (g := fun m => Tr.cntM (F.nd m) n) (p := p) (n := 40) hp (fun i _ hne => by show Tr.cntM ((F.put p x).nd i) n = Tr.cntM (F.nd i) n; rw [Tr.put_ne _ _ _ _ hne])
  simp only [Tr.put_same] at a
  unfold Tr.cnt
  have r : Tr.cntR (F.put p x) n = Tr.cntR F n := rfl
  rw [r]; omega
theorem Tr.cnt_put_same (F : Fo) (p : Nat) (x : Nd) (n : Nat) (hp : p < 40) (h : Tr.cntM x n = Tr.cntM (F.nd p) n) : Tr.cnt (F.put p x) n = Tr.cnt F n := by
  have := Tr.cnt_put F p x n hp; omega
theorem Tr.cnt_kid {F : Fo} {m i : Nat} (hm : m < 40) (h2 : (F.nd m).kind = 2) (hi : i < (F.nd m).size) : 1 ≤ Tr.cnt F ((F.nd m).kid i) := by
  have a := sumN_le (f := fun q => Tr.cntM (F.nd q) ((F.nd m).kid i)) hm
  have b : 1 ≤ Tr.cntM (F.nd m) ((F.nd m).kid i) := by
    unfold Tr.cntM
    rw [if_pos h2]
    have := sumN_le (f := fun j => oneN ((F.nd m).kid j) ((F.nd m).kid i)) hi
    simp only [oneN_same] at this
    exact this
  have a' : Tr.cntM (F.nd m) ((F.nd m).kid i) ≤ sumN (fun q => Tr.cntM (F.nd q) ((F.nd m).kid i)) 40 := a
  unfold Tr.cnt; omega
theorem Tr.cnt_no {F : Fo} {n : Nat} (h : Tr.cnt F n = 0) : (∀ m i, m < 40 → (F.nd m).kind = 2 → i < (F.nd m).size → (F.nd m).kid i ≠ n) ∧ ∀ t, t < F.trees → F.root t ≠ n := by
  refine ⟨fun m i hm h2 hi e => ?_, fun t ht e => ?_⟩
  · have := Tr.cnt_kid hm h2 hi
    rw [e] at this; omega
  · have := sumN_le (f := fun t => oneN (F.root t) n) ht
    simp only [e, oneN_same] at this
    have r : Tr.cntR F n = sumN (fun t => oneN (F.root t) n) F.trees := rfl
    unfold Tr.cnt at h; omega
theorem Tr.cntM_le (x : Nd) (n : Nat) (h : x.kind = 2 → x.size ≤ 8) : Tr.cntM x n ≤ 8 := by
  unfold Tr.cntM
  split
  · rename_i c
    have : ∀ k, sumN (fun i => oneN (x.kid i) n) k ≤ k := fun k => by
      induction k with
      | zero => exact Nat.le_refl _
      | succ k ih => show sumN _ k + oneN _ n ≤ _; have : oneN (x.kid k) n ≤ 1 := by unfold oneN; split <;> omega
                     omega
    have := this x.size
    have := h c; omega
  · omega
end Go.Proofs.YtghogbngmcolmaaGreat
namespace Go.Proofs.YtghogbngmcolmaaGreat
open Tr (Fo Nd)
structure Tr.Ok (F : Fo) : Prop where
  tr : F.trees ≤ 4
  kd : ∀ n, n < 40 → (F.nd n).kind ≤ 2
  sz : Tr.SzOk F
  fz : Tr.FzOk F
  nb : ∀ n i, n < 40 → (F.nd n).kind = 2 → i < (F.nd n).size → Tr.nameB ((F.nd n).nam i) = true
  dp : ∀ n, n < 40 → (F.nd n).kind = 2 → Tr.Nodup (F.nd n)
  ki : ∀ n i, n < 40 → (F.nd n).kind = 2 → i < (F.nd n).size → (F.nd n).kid i < 40 ∧ (F.nd ((F.nd n).kid i)).kind ≠ 0 ∧ (F.nd ((F.nd n).kid i)).tree = (F.nd n).tree ∧ ((F.nd ((F.nd n).kid i)).kind = 2 → (F.nd ((F.nd n).kid i)).up = n)
  rt : ∀ t, t < F.trees → F.root t < 40 ∧ (F.nd (F.root t)).kind = 2 ∧ (F.nd (F.root t)).up = F.root t ∧ (F.nd (F.root t)).tree = t
  lk : ∀ n, n < 40 → (F.nd n).kind ≠ 0 → (F.nd n).links = Tr.cnt F n
  al : ∀ n, n < 40 → (F.nd n).kind ≠ 0 → 1 ≤ (F.nd n).links + (F.nd n).held
  dr : ∀ n, n < 40 → (F.nd n).kind = 2 → Tr.cnt F n = 1
  en : ∀ n, n < 40 → (F.nd n).kind = 2 → Tr.EndsF F 40 n
  ro : ∀ n, n < 40 → (F.nd n).kind = 2 → (F.nd n).up = n → ∃ t, t < F.trees ∧ F.root t = n
theorem Tr.Ok.none {F : Fo} (h : Tr.Ok F) {k : Nat} (k0 : (F.nd k).kind = 0) : Tr.cnt F k = 0 := by
  unfold Tr.cnt Tr.cntR
  rw [sumN_zero (fun m hm => ?_), sumN_zero (fun t ht => ?_)]
  · exact oneN_ne (fun e => by have := (h.rt t ht).2.1; rw [e, k0] at this; exact absurd this (by decide))
  · unfold Tr.cntM
    split
    · rename_i c
      exact sumN_zero (fun i hi => oneN_ne (fun e => by have := (h.ki m i hm c hi).2.1; rw [e] at this; exact this k0))
    · rfl
theorem Tr.Ok.cnt_le {F : Fo} (h : Tr.Ok F) (n : Nat) : Tr.cnt F n ≤ 324 := by
  have a : ∀ k, k ≤ 40 → sumN (fun m => Tr.cntM (F.nd m) n) k ≤ 8 * k := fun k hk => by
    induction k with
    | zero => exact Nat.le_refl _
    | succ k ih =>
      show sumN _ k + Tr.cntM (F.nd k) n ≤ _
      have := Tr.cntM_le (F.nd k) n (fun c => h.sz k (by omega) c)
      have := ih (by omega)
      omega
  have b : ∀ k, sumN (fun t => oneN (F.root t) n) k ≤ k := fun k => by
    induction k with
    | zero => exact Nat.le_refl _
    | succ k ih =>
      show sumN _ k + oneN _ n ≤ _
      have : oneN (F.root k) n ≤ 1 := by unfold oneN; split <;> omega
      omega
  have c1 := a 40 (Nat.le_refl _)
  have c2 := b F.trees
  have c3 := h.tr
  unfold Tr.cnt Tr.cntR; omega
theorem Tr.Ok.links_lt {F : Fo} (h : Tr.Ok F) (n : Nat) (hn : n < 40) (k0 : (F.nd n).kind ≠ 0) : (F.nd n).links ≤ 324 := by rw [h.lk n hn k0]; exact h.cnt_le n
theorem Tr.f0_kind (n : Nat) : (Tr.f0.nd n).kind = 0 := rfl
theorem Tr.ok0 : Tr.Ok Tr.f0 := by
  have n2 : ∀ n, (Tr.f0.nd n).kind ≠ 2 := fun n => by rw [Tr.f0_kind]; decide
  have n1 : ∀ n, (Tr.f0.nd n).kind ≠ 1 := fun n => by rw [Tr.f0_kind]; decide
  exact ⟨Nat.zero_le _, fun _ _ => Nat.zero_le _, fun _ _ h => absurd h (n2 _), fun _ _ h => absurd h (n1 _), fun _ _ _ h => absurd h (n2 _), fun _ _ h => absurd h (n2 _), fun _ _ _ h => absurd h (n2 _), fun t ht => absurd ht (Nat.not_lt_zero t), fun _ _ h => absurd rfl h, fun _ _ h => absurd rfl h, fun _ _ h => absurd h (n2 _), fun _ _ h => absurd h (n2 _), fun _ _ h => absurd h (n2 _)⟩
theorem Tr.EndsF.congr {F G : Fo} (h : ∀ n, (G.nd n).up = (F.nd n).up) : ∀ {m n : Nat}, Tr.EndsF F m n → Tr.EndsF G m n
  | 0, n, hh => ⟨hh.1, by rw [h n]; exact hh.2⟩
  | m + 1, n, hh => ⟨hh.1, by
      rw [h n]
      rcases hh.2 with a | a
      · exact .inl a
      · exact .inr (Tr.EndsF.congr h a)⟩
theorem Tr.Ok.put {F : Fo} (h : Tr.Ok F) (p : Nat) (x : Nd) (hp : p < 40) (e1 : x.kind = (F.nd p).kind) (e2 : x.links = (F.nd p).links) (e3 : x.tree = (F.nd p).tree) (e4 : x.up = (F.nd p).up) (e5 : x.kind = 2 → x.size = (F.nd p).size ∧ x.nam = (F.nd p).nam ∧ x.kid = (F.nd p).kid) (e6 : x.kind = 1 → x.size ≤ 40) (e7 : x.kind ≠ 0 → 1 ≤ x.links + x.held) : Tr.Ok (F.put p x) := by
  have hk : ∀ n, ((F.put p x).nd n).kind = (F.nd n).kind := fun n => by
    by_cases c : n = p
    · subst c; rw [Tr.put_same, e1]
    · rw [Tr.put_ne _ _ _ _ c]
  have hl : ∀ n, ((F.put p x).nd n).links = (F.nd n).links := fun n => by
    by_cases c : n = p
    · subst c; rw [Tr.put_same, e2]
    · rw [Tr.put_ne _ _ _ _ c]
  have ht : ∀ n, ((F.put p x).nd n).tree = (F.nd n).tree := fun n => by
    by_cases c : n = p
    · subst c; rw [Tr.put_same, e3]
    · rw [Tr.put_ne _ _ _ _ c]
  have hu : ∀ n, ((F.put p x).nd n).up = (F.nd n).up := fun n => by
    by_cases c : n = p
    · subst c; rw [Tr.put_same, e4]
    · rw [Tr.put_ne _ _ _ _ c]
  have hd : ∀ n, (F.nd n).kind = 2 → ((F.put p x).nd n).size = (F.nd n).size ∧ ((F.put p x).nd n).nam = (F.nd n).nam ∧ ((F.put p x).nd n).kid = (F.nd n).kid := fun n k2 => by
    by_cases c : n = p
    · subst c; rw [Tr.put_same]; exact e5 (by rw [e1]; exact k2)
    · rw [Tr.put_ne _ _ _ _ c]; exact ⟨rfl, rfl, rfl⟩
  have hc : ∀ n, Tr.cnt (F.put p x) n = Tr.cnt F n := fun n => Tr.cnt_put_same F p x n hp (by
    unfold Tr.cntM
    by_cases c : x.kind = 2
    · rw [if_pos c, if_pos (by rw [← e1]; exact c), (e5 c).1, (e5 c).2.2]
    · rw [if_neg c, if_neg (by rw [← e1]; exact c)])
  refine ⟨h.tr, fun n hn => by rw [hk]; exact h.kd n hn, fun n hn k2 => ?_, fun n hn k1 => ?_, fun n i hn k2 hi => ?_, fun n hn k2 => ?_, fun n i hn k2 hi => ?_, fun t htt => ?_, fun n hn k0 => ?_, fun n hn k0 => ?_, fun n hn k2 => ?_, fun n hn k2 => ?_, fun n hn k2 hu2 => ?_⟩
  · rw [hk] at k2; rw [(hd n k2).1]; exact h.sz n hn k2
  · by_cases c : n = p
    · subst c; rw [Tr.put_same] at k1 ⊢; exact e6 k1
    · rw [Tr.put_ne _ _ _ _ c] at k1 ⊢; exact h.fz n hn k1
  · rw [hk] at k2; rw [(hd n k2).1] at hi; rw [(hd n k2).2.1]; exact h.nb n i hn k2 hi
  · rw [hk] at k2; unfold Tr.Nodup; rw [(hd n k2).1, (hd n k2).2.1]; exact h.dp n hn k2
  · rw [hk] at k2; rw [(hd n k2).1] at hi; rw [(hd n k2).2.2, hk, ht, ht, hu]; exact h.ki n i hn k2 hi
  · show F.root t < 40 ∧ _
    have := h.rt t htt
    show F.root t < 40 ∧ ((F.put p x).nd (F.root t)).kind = 2 ∧ ((F.put p x).nd (F.root t)).up = F.root t ∧ ((F.put p x).nd (F.root t)).tree = t
    rw [hk, hu, ht]; exact this
  · rw [hk] at k0; rw [hl, hc]; exact h.lk n hn k0
  · by_cases c : n = p
    · subst c; rw [Tr.put_same] at k0 ⊢; exact e7 k0
    · rw [Tr.put_ne _ _ _ _ c] at k0 ⊢; exact h.al n hn k0
  · rw [hk] at k2; rw [hc]; exact h.dr n hn k2
  · rw [hk] at k2; exact (h.en n hn k2).congr hu
  · rw [hk] at k2; rw [hu] at hu2; exact h.ro n hn k2 hu2
end Go.Proofs.YtghogbngmcolmaaGreat
namespace Go.Proofs.YtghogbngmcolmaaGreat
open Tr (Fo Nd)
theorem Tr.Ok.wri {F : Fo} (h : Tr.Ok F) (z a : Int) (s : ByteArray) : Tr.Ok (Tr.wriF F z a s) := by
  unfold Tr.wriF
  split
  · rename_i c
    have c1 : Tr.isE F z 1 = 0 := by
      rcases Classical.em (Tr.isE F z 1 = 0) with d | d
      · exact d
      · have := c.1; unfold Tr.wriE at this; rw [if_pos d] at this; exact this
    obtain ⟨n, rfl, n40, _, k1⟩ := Tr.isE_ok c1
    have cw := c.1
    unfold Tr.wriE at cw
    rw [if_neg (fun d => d c1)] at cw
    rw [Int.toNat_natCast]
    refine h.put n _ n40 rfl rfl rfl rfl (fun k2 => absurd ((show (F.nd n).kind = 2 from k2).symm.trans k1) (by decide)) (fun _ => ?_) (fun k0 => h.al n n40 k0)
    show max (F.nd n).size (a.toNat + s.size) ≤ 40
    have := h.fz n n40 k1
    split at cw
    · omega
    · split at cw
      · omega
      · omega
  · exact h
theorem Tr.up_of {F : Fo} (ki : ∀ n i, n < 40 → (F.nd n).kind = 2 → i < (F.nd n).size → (F.nd n).kid i < 40 ∧ (F.nd ((F.nd n).kid i)).kind ≠ 0 ∧ (F.nd ((F.nd n).kid i)).tree = (F.nd n).tree ∧ ((F.nd ((F.nd n).kid i)).kind = 2 → (F.nd ((F.nd n).kid i)).up = n)) {m : Nat} (k2 : (F.nd m).kind = 2) (hc : 1 ≤ Tr.cnt F m) :
    (∃ t, t < F.trees ∧ F.root t = m) ∨ ∃ i, (F.nd m).up < 40 ∧ (F.nd (F.nd m).up).kind = 2 ∧ i < (F.nd (F.nd m).up).size ∧ (F.nd (F.nd m).up).kid i = m := by
  by_cases c : 0 < Tr.cntR F m
  · obtain ⟨t, ht, h1⟩ := sumN_pos c
    refine .inl ⟨t, ht, ?_⟩
    unfold oneN at h1
    split at h1
    · assumption
    · omega
  · unfold Tr.cnt at hc
    obtain ⟨p, hp, h1⟩ := sumN_pos (f := fun q => Tr.cntM (F.nd q) m) (n := 40) (by omega)
    have h1' : 0 < Tr.cntM (F.nd p) m := h1
    unfold Tr.cntM at h1'
    split at h1'
    · rename_i d
      obtain ⟨i, hi, h2⟩ := sumN_pos h1'
      unfold oneN at h2
      split at h2
      · rename_i e
        have a := (ki p i hp d hi).2.2.2
        rw [e] at a
        rw [a k2]
        exact .inr ⟨i, hp, d, hi, e⟩
      · omega
    · omega
theorem Tr.EndsF.on {F G : Fo} (P : Nat → Prop) (h : ∀ n, P n → (G.nd n).up = (F.nd n).up ∧ P (F.nd n).up) : ∀ {m n : Nat}, P n → Tr.EndsF F m n → Tr.EndsF G m n
  | 0, n, hp, hh => ⟨hh.1, by rw [(h n hp).1]; exact hh.2⟩
  | m + 1, n, hp, hh => ⟨hh.1, by
      rw [(h n hp).1]
      rcases hh.2 with a | a
      · exact .inl a
      · exact .inr (Tr.EndsF.on P h (h n hp).2 a)⟩
end Go.Proofs.YtghogbngmcolmaaGreat
namespace Go.Proofs.YtghogbngmcolmaaGreat
open Tr (Fo Nd)
theorem Tr.EndsF.avoid {F G : Fo} {k : Nat} (h : ∀ x, x ≠ k → (G.nd x).up = (F.nd x).up) : ∀ {m x : Nat}, Tr.EndsF F m x → Tr.belB F k m x = false → Tr.EndsF G m x
  | 0, x, hh, hb => by
    have c : x ≠ k := fun e => by subst e; rw [Tr.belB_same] at hb; exact absurd hb (by decide)
    exact ⟨hh.1, by rw [h x c]; exact hh.2⟩
  | m + 1, x, hh, hb => by
    have c : x ≠ k := fun e => by subst e; rw [Tr.belB_same] at hb; exact absurd hb (by decide)
    refine ⟨hh.1, ?_⟩
    rw [h x c]
    by_cases d : (F.nd x).up = x
    · exact .inl d
    · rcases hh.2 with a | a
      · exact absurd a d
      · refine .inr (Tr.EndsF.avoid h a ?_)
        have hb' : (x == k || (!((F.nd x).up == x) && Tr.belB F k m (F.nd x).up)) = false := hb
        rw [show (x == k) = false from by simpa using c, show ((F.nd x).up == x) = false from by simpa using d] at hb'
        exact hb'
end Go.Proofs.YtghogbngmcolmaaGreat
namespace Go.Proofs.YtghogbngmcolmaaGreat
open Tr (Fo Nd)
theorem Tr.Ok.far {F G : Fo} (h : Tr.Ok F) {k : Nat} (k0 : (F.nd k).kind = 0) (hu : ∀ x, x ≠ k → (G.nd x).up = (F.nd x).up) : ∀ m x, x < 40 → (F.nd x).kind = 2 → Tr.belB G k m x = false
  | 0, x, _, k2 => by
    show (x == k) = false
    have c : x ≠ k := fun e => by rw [e, k0] at k2; exact absurd k2 (by decide)
    simpa using c
  | m + 1, x, hx, k2 => by
    have c : x ≠ k := fun e => by rw [e, k0] at k2; exact absurd k2 (by decide)
    show (x == k || (!((G.nd x).up == x) && Tr.belB G k m (G.nd x).up)) = false
    rw [show (x == k) = false from by simpa using c, hu x c]
    by_cases d : (F.nd x).up = x
    · rw [d]; simp
    · rcases Tr.up_of h.ki k2 (by rw [h.dr x hx k2]; exact Nat.le_refl _) with ⟨t, ht, e⟩ | ⟨i, h1, h2, _, _⟩
      · have := (h.rt t ht).2.2.1
        rw [e] at this
        exact absurd this d
      · rw [Tr.Ok.far h k0 hu m _ h1 h2]; simp
theorem Tr.Ok.hol {F : Fo} (h : Tr.Ok F) (z : Int) : Tr.Ok (Tr.hol F z) := by
  unfold Tr.hol
  split
  · rename_i c
    obtain ⟨n, rfl, n40, _⟩ := Tr.nodeE_ok c
    rw [Int.toNat_natCast]
    exact h.put n _ n40 rfl rfl rfl rfl (fun _ => ⟨rfl, rfl, rfl⟩) (fun k1 => h.fz n n40 k1) (fun k0 => by show 1 ≤ (F.nd n).links + ((F.nd n).held + 1); omega)
  · exact h
end Go.Proofs.YtghogbngmcolmaaGreat
namespace Go.Proofs.YtghogbngmcolmaaGreat
open Tr (Fo Nd)
theorem Tr.erase {F : Fo} {k : Nat} (hk : k < 40) (tr : F.trees ≤ 4) (kd : ∀ n, n < 40 → (F.nd n).kind ≤ 2) (sz : Tr.SzOk F) (fz : Tr.FzOk F)
    (nb : ∀ n i, n < 40 → (F.nd n).kind = 2 → i < (F.nd n).size → Tr.nameB ((F.nd n).nam i) = true)
    (dp : ∀ n, n < 40 → (F.nd n).kind = 2 → Tr.Nodup (F.nd n))
    (ki : ∀ n i, n < 40 → (F.nd n).kind = 2 → i < (F.nd n).size → (F.nd n).kid i < 40 ∧ (F.nd ((F.nd n).kid i)).kind ≠ 0 ∧ (F.nd ((F.nd n).kid i)).tree = (F.nd n).tree ∧ ((F.nd ((F.nd n).kid i)).kind = 2 → (F.nd ((F.nd n).kid i)).up = n))
    (rt : ∀ t, t < F.trees → F.root t < 40 ∧ (F.nd (F.root t)).kind = 2 ∧ (F.nd (F.root t)).up = F.root t ∧ (F.nd (F.root t)).tree = t)
    (lk : ∀ n, n < 40 → (F.nd n).kind ≠ 0 → n ≠ k → (F.nd n).links = Tr.cnt F n)
    (al : ∀ n, n < 40 → (F.nd n).kind ≠ 0 → n ≠ k → 1 ≤ (F.nd n).links + (F.nd n).held)
    (dr : ∀ n, n < 40 → (F.nd n).kind = 2 → n ≠ k → Tr.cnt F n = 1)
    (en : ∀ n, n < 40 → (F.nd n).kind = 2 → n ≠ k → Tr.EndsF F 40 n)
    (ro : ∀ n, n < 40 → (F.nd n).kind = 2 → n ≠ k → (F.nd n).up = n → ∃ t, t < F.trees ∧ F.root t = n)
    (c0 : Tr.cnt F k = 0) (z0 : (F.nd k).kind = 2 → (F.nd k).size = 0) : Tr.Ok (F.put k Nd.no) := by
  obtain ⟨G, hG⟩ : ∃ G, F.put k Nd.no = G := ⟨_, rfl⟩
  rw [hG]
  have gk : G.nd k = Nd.no := by rw [← hG, Tr.put_same]
  have gk0 : (G.nd k).kind = 0 := by rw [gk]; rfl
  have go : ∀ x, x ≠ k → G.nd x = F.nd x := fun x c => by rw [← hG, Tr.put_ne _ _ _ _ c]
  have cnt : ∀ x, Tr.cnt G x = Tr.cnt F x := fun x => by
    rw [← hG]
    refine Tr.cnt_put_same F k _ x hk ?_
    rw [Tr.cntM_no (x := Nd.no) x (by decide)]
    unfold Tr.cntM
    split
    · rename_i c; rw [z0 c]; rfl
    · rfl
  obtain ⟨kne, rne⟩ := Tr.cnt_no c0
  have n2 : ∀ {x}, (G.nd x).kind = 2 → x ≠ k := fun {x} k2 c => by subst c; rw [gk0] at k2; exact absurd k2 (by decide)
  have n0 : ∀ {x}, (G.nd x).kind ≠ 0 → x ≠ k := fun {x} kx c => by subst c; exact kx gk0
  refine ⟨by rw [← hG]; exact tr, fun x hx => ?_, fun x hx k2 => ?_, fun x hx k1 => ?_, fun x j hx k2 hj => ?_, fun x hx k2 => ?_, fun x j hx k2 hj => ?_, fun t htt => ?_, fun x hx kx => ?_, fun x hx kx => ?_, fun x hx k2 => ?_, fun x hx k2 => ?_, fun x hx k2 hu2 => ?_⟩
  · by_cases c : x = k
    · subst c; rw [gk0]; exact Nat.zero_le _
    · rw [go x c]; exact kd x hx
  · have c := n2 k2; rw [go x c] at k2 ⊢; exact sz x hx k2
  · have c : x ≠ k := fun e => by subst e; rw [gk0] at k1; exact absurd k1 (by decide)
    rw [go x c] at k1 ⊢; exact fz x hx k1
  · have c := n2 k2; rw [go x c] at k2 hj ⊢; exact nb x j hx k2 hj
  · have c := n2 k2; rw [go x c] at k2 ⊢; exact dp x hx k2
  · have c := n2 k2; rw [go x c] at k2 hj ⊢
    rw [go _ (kne x j hx k2 hj)]
    exact ki x j hx k2 hj
  · have htt' : t < F.trees := by rw [← hG] at htt; exact htt
    have e : G.root t = F.root t := by rw [← hG]; rfl
    rw [e, go _ (rne t htt')]
    exact rt t htt'
  · have c := n0 kx; rw [go x c] at kx ⊢; rw [cnt]; exact lk x hx kx c
  · have c := n0 kx; rw [go x c] at kx ⊢; exact al x hx kx c
  · have c := n2 k2; rw [go x c] at k2; rw [cnt]; exact dr x hx k2 c
  · have c := n2 k2; rw [go x c] at k2
    refine Tr.EndsF.on (F := F) (G := G) (fun y => y < 40 ∧ (F.nd y).kind = 2 ∧ y ≠ k) (fun y hy => ?_) ⟨hx, k2, c⟩ (en x hx k2 c)
    refine ⟨by rw [go y hy.2.2], ?_⟩
    rcases Tr.up_of ki hy.2.1 (by rw [dr y hy.1 hy.2.1 hy.2.2]; exact Nat.le_refl _) with ⟨t, ht, e⟩ | ⟨i, h1, h2, h3, _⟩
    · have := (rt t ht).2.2.1
      rw [e] at this
      rw [this]; exact hy
    · refine ⟨h1, h2, fun e => ?_⟩
      rw [e] at h2 h3
      rw [z0 h2] at h3; omega
  · have c := n2 k2; rw [go x c] at k2 hu2
    obtain ⟨t, h1, h2⟩ := ro x hx k2 c hu2
    exact ⟨t, by rw [← hG]; exact h1, by rw [← hG]; exact h2⟩
theorem Tr.Ok.letT {F : Fo} (h : Tr.Ok F) (z : Int) : Tr.Ok (Tr.letT F z) := by
  unfold Tr.letT
  split
  · rename_i c
    have c1 : Tr.nodeE F z = 0 := by
      rcases Classical.em (Tr.nodeE F z = 0) with d | d
      · exact d
      · unfold Tr.letE at c; rw [if_neg d] at c; exact c
    obtain ⟨n, rfl, n40, k0⟩ := Tr.nodeE_ok c1
    unfold Tr.letE at c
    rw [if_pos c1, Int.toNat_natCast] at c
    have h0 : (F.nd n).held ≠ 0 := fun e => by rw [if_pos e] at c; exact absurd c (by decide)
    rw [Int.toNat_natCast]
    unfold Tr.swe
    rw [Tr.put_same]
    split
    · rename_i d
      have d1 : (F.nd n).links = 0 := d.1
      rw [Tr.put_put]
      have c0 : Tr.cnt F n = 0 := by rw [← h.lk n n40 k0]; exact d1
      refine Tr.erase n40 h.tr h.kd h.sz h.fz h.nb h.dp h.ki h.rt (fun x hx kx _ => h.lk x hx kx) (fun x hx kx _ => h.al x hx kx) (fun x hx k2 _ => h.dr x hx k2) (fun x hx k2 _ => h.en x hx k2) (fun x hx k2 _ u => h.ro x hx k2 u) c0 (fun k2 => ?_)
      have := h.dr n n40 k2
      omega
    · rename_i d
      refine h.put n _ n40 rfl rfl rfl rfl (fun _ => ⟨rfl, rfl, rfl⟩) (fun k1 => h.fz n n40 k1) (fun _ => ?_)
      have d' : ¬ ((F.nd n).links = 0 ∧ (F.nd n).held - 1 = 0) := d
      show 1 ≤ (F.nd n).links + ((F.nd n).held - 1)
      omega
  · exact h
end Go.Proofs.YtghogbngmcolmaaGreat
namespace Go.Proofs.YtghogbngmcolmaaGreat
open Tr (Fo Nd)
theorem Tr.Ok.pla {F : Fo} (h : Tr.Ok F) {T : Nat} {E : Int} {G : Fo} (hm : Tr.PlaTo F T E G) : Tr.Ok G := by
  rcases hm with ⟨_, _, _, rfl⟩ | ⟨t4, n, e, hf, hm⟩
  · exact h
  rcases hm with ⟨_, _, _, rfl⟩ | ⟨rfl, _, _, rfl⟩
  · exact h
  obtain ⟨n40, k0⟩ : n < 40 ∧ (F.nd n).kind = 0 := by
    rcases hf with ⟨_, h1, h2, _⟩ | ⟨h1, _⟩
    · exact ⟨h1, h2⟩
    · omega
  obtain ⟨G, hG⟩ : ∃ G, Tr.plaF F n = G := ⟨_, rfl⟩
  rw [hG]
  have gk : G.nd n = newN 2 F.trees n := by rw [← hG]; exact Tr.put_same F n _
  have go : ∀ x, x ≠ n → G.nd x = F.nd x := fun x c => by rw [← hG]; exact Tr.put_ne F n _ x c
  have gtr : G.trees = F.trees + 1 := by rw [← hG]; rfl
  have gro : ∀ t, t < F.trees → G.root t = F.root t := fun t ht => by rw [← hG]; exact upA_ne _ _ _ _ (by omega)
  have grn : G.root F.trees = n := by rw [← hG]; exact upA_same _ _ _
  have hc0 := h.none k0
  obtain ⟨kne, rne⟩ := Tr.cnt_no hc0
  have cnt : ∀ x, Tr.cnt G x = Tr.cnt F x + oneN n x := fun x => by
    have a : Tr.cnt (F.put n (newN 2 F.trees n)) x = Tr.cnt F x := by
      refine Tr.cnt_put_same F n _ x n40 ?_
      rw [Tr.cntM_no (x := F.nd n) x (by rw [k0]; decide)]
      rfl
    have b : Tr.cntR G x = Tr.cntR F x + oneN n x := by
      unfold Tr.cntR
      rw [gtr]
      show sumN (fun t => oneN (G.root t) x) F.trees + oneN (G.root F.trees) x = _
      rw [grn, sumN_congr (fun t ht => by rw [gro t ht])]
    have c : sumN (fun m => Tr.cntM (G.nd m) x) 40 = sumN (fun m => Tr.cntM ((F.put n (newN 2 F.trees n)).nd m) x) 40 := by rw [← hG]; rfl
    have d : Tr.cntR (F.put n (newN 2 F.trees n)) x = Tr.cntR F x := rfl
    unfold Tr.cnt at a ⊢
    rw [c, b]
    omega
  have sz0 : (G.nd n).size = 0 := by rw [gk]; rfl
  have h4 := h.tr
  refine ⟨by rw [gtr]; omega, fun x hx => ?_, fun x hx k2 => ?_, fun x hx k1 => ?_, fun x j hx k2 hj => ?_, fun x hx k2 => ?_, fun x j hx k2 hj => ?_, fun t htt => ?_, fun x hx kx => ?_, fun x hx kx => ?_, fun x hx k2 => ?_, fun x hx k2 => ?_, fun x hx k2 hu2 => ?_⟩
  · by_cases c : x = n
    · subst c; rw [gk]; exact Nat.le_refl _
    · rw [go x c]; exact h.kd x hx
  · by_cases c : x = n
    · subst c; rw [sz0]; exact Nat.zero_le _
    · rw [go x c] at k2 ⊢; exact h.sz x hx k2
  · by_cases c : x = n
    · subst c; rw [sz0]; exact Nat.zero_le _
    · rw [go x c] at k1 ⊢; exact h.fz x hx k1
  · by_cases c : x = n
    · subst c; rw [sz0] at hj; omega
    · rw [go x c] at k2 hj ⊢; exact h.nb x j hx k2 hj
  · by_cases c : x = n
    · subst c; intro a b _ hb; rw [sz0] at hb; omega
    · rw [go x c] at k2 ⊢; exact h.dp x hx k2
  · by_cases c : x = n
    · subst c; rw [sz0] at hj; omega
    · rw [go x c] at k2 hj ⊢
      rw [go _ (kne x j hx k2 hj)]
      exact h.ki x j hx k2 hj
  · rw [gtr] at htt
    by_cases c : t = F.trees
    · subst c; rw [grn, gk]; exact ⟨n40, rfl, rfl, rfl⟩
    · rw [gro t (by omega), go _ (rne t (by omega))]
      exact h.rt t (by omega)
  · by_cases c : x = n
    · subst c; rw [gk, cnt, hc0, oneN_same]; rfl
    · rw [go x c] at kx ⊢; rw [cnt, oneN_ne (Ne.symm c)]; exact h.lk x hx kx
  · by_cases c : x = n
    · subst c; rw [gk]; show 1 ≤ 1 + 0; omega
    · rw [go x c] at kx ⊢; exact h.al x hx kx
  · by_cases c : x = n
    · subst c; rw [cnt, hc0, oneN_same]
    · rw [go x c] at k2; rw [cnt, oneN_ne (Ne.symm c)]; exact h.dr x hx k2
  · by_cases c : x = n
    · subst c
      exact Tr.EndsF.forty (m := 0) ⟨n40, by rw [gk]; rfl⟩
    · rw [go x c] at k2
      exact (h.en x hx k2).avoid (k := n) (fun y d => by rw [go y d]) (h.far k0 (fun _ _ => rfl) 40 x hx k2)
  · by_cases c : x = n
    · exact ⟨F.trees, by rw [gtr]; omega, by rw [grn, c]⟩
    · rw [go x c] at k2 hu2
      obtain ⟨t, h1, h2⟩ := h.ro x hx k2 hu2
      exact ⟨t, by rw [gtr]; omega, by rw [gro t h1]; exact h2⟩
end Go.Proofs.YtghogbngmcolmaaGreat

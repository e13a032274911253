/- The forest, plain: what stays true of it; the beginning, Plant, Hold, Write, Cut. -/
import Derived.Test.YtfgnhldnmbfnkabUb
namespace Go.Proofs.Ytfgnhldnmbfnkab
open Tr (Fo Nd)

/-- What is true of every forest. -/
structure Tr.Ok (F : Fo) : Prop where
  tr : F.trees ≤ 4
  kd : ∀ n, n < 40 → (F.nd n).kind ≤ 2
  sz : Tr.SzOk F
  fz : Tr.FzOk F
  nb : ∀ n i, n < 40 → (F.nd n).kind = 2 → i < (F.nd n).size → Tr.nameB ((F.nd n).nam i) = true
  dp : ∀ n, n < 40 → (F.nd n).kind = 2 → Tr.Nodup (F.nd n)
  ki : ∀ n i, n < 40 → (F.nd n).kind = 2 → i < (F.nd n).size → (F.nd n).kid i < 40 ∧ (F.nd ((F.nd n).kid i)).kind ≠ 0 ∧ (F.nd ((F.nd n).kid i)).tree = (F.nd n).tree ∧ ((F.nd ((F.nd n).kid i)).kind = 2 → (F.nd ((F.nd n).kid i)).up = n)
  rt : ∀ t, t < F.trees → F.root t < 40 ∧ (F.nd (F.root t)).kind = 2 ∧ (F.nd (F.root t)).up = F.root t ∧ (F.nd (F.root t)).tree = t
  lk : ∀ n, n < 40 → (F.nd n).kind ≠ 0 → (F.nd n).links = Tr.cnt F n
  al : ∀ n, n < 40 → (F.nd n).kind ≠ 0 → 1 ≤ (F.nd n).links + (F.nd n).held
  dr : ∀ n, n < 40 → (F.nd n).kind = 2 → Tr.cnt F n = 1
  en : ∀ n, n < 40 → (F.nd n).kind = 2 → Tr.EndsF F 40 n
  ro : ∀ n, n < 40 → (F.nd n).kind = 2 → (F.nd n).up = n → ∃ t, t < F.trees ∧ F.root t = n
/-- A node that is none is led to by nobody. -/
theorem Tr.Ok.none {F : Fo} (h : Tr.Ok F) {k : Nat} (k0 : (F.nd k).kind = 0) : Tr.cnt F k = 0 := by
  unfold Tr.cnt Tr.cntR
  rw [sumN_zero (fun m hm => ?_), sumN_zero (fun t ht => ?_)]
  · exact oneN_ne (fun e => by have := (h.rt t ht).2.1; rw [e, k0] at this; exact absurd this (by decide))
  · unfold Tr.cntM
    split
    · rename_i c
      exact sumN_zero (fun i hi => oneN_ne (fun e => by have := (h.ki m i hm c hi).2.1; rw [e] at this; exact this k0))
    · rfl
/-- The count is bounded. -/
theorem Tr.Ok.cnt_le {F : Fo} (h : Tr.Ok F) (n : Nat) : Tr.cnt F n ≤ 324 := by
  have a : ∀ k, k ≤ 40 → sumN (fun m => Tr.cntM (F.nd m) n) k ≤ 8 * k := fun k hk => by
    induction k with
    | zero => exact Nat.le_refl _
    | succ k ih =>
      show sumN _ k + Tr.cntM (F.nd k) n ≤ _
      have := Tr.cntM_le (F.nd k) n (fun c => h.sz k (by omega) c)
      have := ih (by omega)
      omega
  have b : ∀ k, sumN (fun t => oneN (F.root t) n) k ≤ k := fun k => by
    induction k with
    | zero => exact Nat.le_refl _
    | succ k ih =>
      show sumN _ k + oneN _ n ≤ _
      have : oneN (F.root k) n ≤ 1 := by unfold oneN; split <;> omega
      omega
  have c1 := a 40 (Nat.le_refl _)
  have c2 := b F.trees
  have c3 := h.tr
  unfold Tr.cnt Tr.cntR; omega
theorem Tr.Ok.links_lt {F : Fo} (h : Tr.Ok F) (n : Nat) (hn : n < 40) (k0 : (F.nd n).kind ≠ 0) : (F.nd n).links ≤ 324 := by rw [h.lk n hn k0]; exact h.cnt_le n
theorem Tr.Ok.kid {F : Fo} (h : Tr.Ok F) : Tr.KidOk F := fun n hn k2 i hi => by
  obtain ⟨h1, h2, _⟩ := h.ki n i hn k2 hi
  have := h.links_lt _ h1 h2
  exact ⟨h1, by rw [h.lk _ h1 h2]; exact Tr.cnt_kid hn k2 hi, by omega⟩
theorem Tr.f0_kind (n : Nat) : (Tr.f0.nd n).kind = 0 := rfl
theorem Tr.ok0 : Tr.Ok Tr.f0 := by
  have n2 : ∀ n, (Tr.f0.nd n).kind ≠ 2 := fun n => by rw [Tr.f0_kind]; decide
  have n1 : ∀ n, (Tr.f0.nd n).kind ≠ 1 := fun n => by rw [Tr.f0_kind]; decide
  exact ⟨Nat.zero_le _, fun _ _ => Nat.zero_le _, fun _ _ h => absurd h (n2 _), fun _ _ h => absurd h (n1 _), fun _ _ _ h => absurd h (n2 _), fun _ _ h => absurd h (n2 _), fun _ _ _ h => absurd h (n2 _), fun t ht => absurd ht (Nat.not_lt_zero t), fun _ _ h => absurd rfl h, fun _ _ h => absurd rfl h, fun _ _ h => absurd h (n2 _), fun _ _ h => absurd h (n2 _), fun _ _ h => absurd h (n2 _)⟩
theorem Tr.EndsF.congr {F G : Fo} (h : ∀ n, (G.nd n).up = (F.nd n).up) : ∀ {m n : Nat}, Tr.EndsF F m n → Tr.EndsF G m n
  | 0, n, hh => ⟨hh.1, by rw [h n]; exact hh.2⟩
  | m + 1, n, hh => ⟨hh.1, by
      rw [h n]
      rcases hh.2 with a | a
      · exact .inl a
      · exact .inr (Tr.EndsF.congr h a)⟩
/-- A node is put that has the same names, and is the same kind of thing. -/
theorem Tr.Ok.put {F : Fo} (h : Tr.Ok F) (p : Nat) (x : Nd) (hp : p < 40) (e1 : x.kind = (F.nd p).kind) (e2 : x.links = (F.nd p).links) (e3 : x.tree = (F.nd p).tree) (e4 : x.up = (F.nd p).up) (e5 : x.kind = 2 → x.size = (F.nd p).size ∧ x.nam = (F.nd p).nam ∧ x.kid = (F.nd p).kid) (e6 : x.kind = 1 → x.size ≤ 40) (e7 : x.kind ≠ 0 → 1 ≤ x.links + x.held) : Tr.Ok (F.put p x) := by
  have hk : ∀ n, ((F.put p x).nd n).kind = (F.nd n).kind := fun n => by
    by_cases c : n = p
    · subst c; rw [Tr.put_same, e1]
    · rw [Tr.put_ne _ _ _ _ c]
  have hl : ∀ n, ((F.put p x).nd n).links = (F.nd n).links := fun n => by
    by_cases c : n = p
    · subst c; rw [Tr.put_same, e2]
    · rw [Tr.put_ne _ _ _ _ c]
  have ht : ∀ n, ((F.put p x).nd n).tree = (F.nd n).tree := fun n => by
    by_cases c : n = p
    · subst c; rw [Tr.put_same, e3]
    · rw [Tr.put_ne _ _ _ _ c]
  have hu : ∀ n, ((F.put p x).nd n).up = (F.nd n).up := fun n => by
    by_cases c : n = p
    · subst c; rw [Tr.put_same, e4]
    · rw [Tr.put_ne _ _ _ _ c]
  have hd : ∀ n, (F.nd n).kind = 2 → ((F.put p x).nd n).size = (F.nd n).size ∧ ((F.put p x).nd n).nam = (F.nd n).nam ∧ ((F.put p x).nd n).kid = (F.nd n).kid := fun n k2 => by
    by_cases c : n = p
    · subst c; rw [Tr.put_same]; exact e5 (by rw [e1]; exact k2)
    · rw [Tr.put_ne _ _ _ _ c]; exact ⟨rfl, rfl, rfl⟩
  have hc : ∀ n, Tr.cnt (F.put p x) n = Tr.cnt F n := fun n => Tr.cnt_put_same F p x n hp (by
    unfold Tr.cntM
    by_cases c : x.kind = 2
    · rw [if_pos c, if_pos (by rw [← e1]; exact c), (e5 c).1, (e5 c).2.2]
    · rw [if_neg c, if_neg (by rw [← e1]; exact c)])
  refine ⟨h.tr, fun n hn => by rw [hk]; exact h.kd n hn, fun n hn k2 => ?_, fun n hn k1 => ?_, fun n i hn k2 hi => ?_, fun n hn k2 => ?_, fun n i hn k2 hi => ?_, fun t htt => ?_, fun n hn k0 => ?_, fun n hn k0 => ?_, fun n hn k2 => ?_, fun n hn k2 => ?_, fun n hn k2 hu2 => ?_⟩
  · rw [hk] at k2; rw [(hd n k2).1]; exact h.sz n hn k2
  · by_cases c : n = p
    · subst c; rw [Tr.put_same] at k1 ⊢; exact e6 k1
    · rw [Tr.put_ne _ _ _ _ c] at k1 ⊢; exact h.fz n hn k1
  · rw [hk] at k2; rw [(hd n k2).1] at hi; rw [(hd n k2).2.1]; exact h.nb n i hn k2 hi
  · rw [hk] at k2; unfold Tr.Nodup; rw [(hd n k2).1, (hd n k2).2.1]; exact h.dp n hn k2
  · rw [hk] at k2; rw [(hd n k2).1] at hi; rw [(hd n k2).2.2, hk, ht, ht, hu]; exact h.ki n i hn k2 hi
  · show F.root t < 40 ∧ _
    have := h.rt t htt
    show F.root t < 40 ∧ ((F.put p x).nd (F.root t)).kind = 2 ∧ ((F.put p x).nd (F.root t)).up = F.root t ∧ ((F.put p x).nd (F.root t)).tree = t
    rw [hk, hu, ht]; exact this
  · rw [hk] at k0; rw [hl, hc]; exact h.lk n hn k0
  · by_cases c : n = p
    · subst c; rw [Tr.put_same] at k0 ⊢; exact e7 k0
    · rw [Tr.put_ne _ _ _ _ c] at k0 ⊢; exact h.al n hn k0
  · rw [hk] at k2; rw [hc]; exact h.dr n hn k2
  · rw [hk] at k2; exact (h.en n hn k2).congr hu
  · rw [hk] at k2; rw [hu] at hu2; exact h.ro n hn k2 hu2
end Go.Proofs.Ytfgnhldnmbfnkab

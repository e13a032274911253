/- The forest, plain: Hold, Write, Cut keep what is true of it; a node is swept. -/
import Derived.Test.YtfgnhldnmbfnkabUc
namespace Go.Proofs.Ytfgnhldnmbfnkab
open Tr (Fo Nd)

theorem Tr.Ok.wri {F : Fo} (h : Tr.Ok F) (z a : Int) (s : ByteArray) : Tr.Ok (Tr.wriF F z a s) := by
  unfold Tr.wriF
  split
  · rename_i c
    have c1 : Tr.isE F z 1 = 0 := by
      rcases Classical.em (Tr.isE F z 1 = 0) with d | d
      · exact d
      · have := c.1; unfold Tr.wriE at this; rw [if_pos d] at this; exact this
    obtain ⟨n, rfl, n40, _, k1⟩ := Tr.isE_ok c1
    have cw := c.1
    unfold Tr.wriE at cw
    rw [if_neg (fun d => d c1)] at cw
    rw [Int.toNat_natCast]
    refine h.put n _ n40 rfl rfl rfl rfl (fun k2 => absurd ((show (F.nd n).kind = 2 from k2).symm.trans k1) (by decide)) (fun _ => ?_) (fun k0 => h.al n n40 k0)
    show max (F.nd n).size (a.toNat + s.size) ≤ 40
    have := h.fz n n40 k1
    split at cw
    · omega
    · split at cw
      · omega
      · omega
  · exact h
theorem Tr.Ok.cut {F : Fo} (h : Tr.Ok F) (z a : Int) : Tr.Ok (Tr.cutF F z a) := by
  unfold Tr.cutF
  split
  · rename_i c
    have c1 : Tr.isE F z 1 = 0 := by
      rcases Classical.em (Tr.isE F z 1 = 0) with d | d
      · exact d
      · have := c; unfold Tr.cutE at this; rw [if_pos d] at this; exact this
    obtain ⟨n, rfl, n40, _, k1⟩ := Tr.isE_ok c1
    have cw := c
    unfold Tr.cutE at cw
    rw [if_neg (fun d => d c1), Int.toNat_natCast] at cw
    rw [Int.toNat_natCast]
    refine h.put n _ n40 rfl rfl rfl rfl (fun k2 => absurd ((show (F.nd n).kind = 2 from k2).symm.trans k1) (by decide)) (fun _ => ?_) (fun k0 => h.al n n40 k0)
    show a.toNat ≤ 40
    have := h.fz n n40 k1
    split at cw
    · omega
    · omega
  · exact h
/-- Whoever is a directory is a root, or a name of the one above leads to it. -/
theorem Tr.up_of {F : Fo} (ki : ∀ n i, n < 40 → (F.nd n).kind = 2 → i < (F.nd n).size → (F.nd n).kid i < 40 ∧ (F.nd ((F.nd n).kid i)).kind ≠ 0 ∧ (F.nd ((F.nd n).kid i)).tree = (F.nd n).tree ∧ ((F.nd ((F.nd n).kid i)).kind = 2 → (F.nd ((F.nd n).kid i)).up = n)) {m : Nat} (k2 : (F.nd m).kind = 2) (hc : 1 ≤ Tr.cnt F m) :
    (∃ t, t < F.trees ∧ F.root t = m) ∨ ∃ i, (F.nd m).up < 40 ∧ (F.nd (F.nd m).up).kind = 2 ∧ i < (F.nd (F.nd m).up).size ∧ (F.nd (F.nd m).up).kid i = m := by
  by_cases c : 0 < Tr.cntR F m
  · obtain ⟨t, ht, h1⟩ := sumN_pos c
    refine .inl ⟨t, ht, ?_⟩
    unfold oneN at h1
    split at h1
    · assumption
    · omega
  · unfold Tr.cnt at hc
    obtain ⟨p, hp, h1⟩ := sumN_pos (f := fun q => Tr.cntM (F.nd q) m) (n := 40) (by omega)
    have h1' : 0 < Tr.cntM (F.nd p) m := h1
    unfold Tr.cntM at h1'
    split at h1'
    · rename_i d
      obtain ⟨i, hi, h2⟩ := sumN_pos h1'
      unfold oneN at h2
      split at h2
      · rename_i e
        have a := (ki p i hp d hi).2.2.2
        rw [e] at a
        rw [a k2]
        exact .inr ⟨i, hp, d, hi, e⟩
      · omega
    · omega
/-- Going up stays among those of whom P is true. -/
theorem Tr.EndsF.on {F G : Fo} (P : Nat → Prop) (h : ∀ n, P n → (G.nd n).up = (F.nd n).up ∧ P (F.nd n).up) : ∀ {m n : Nat}, P n → Tr.EndsF F m n → Tr.EndsF G m n
  | 0, n, hp, hh => ⟨hh.1, by rw [(h n hp).1]; exact hh.2⟩
  | m + 1, n, hp, hh => ⟨hh.1, by
      rw [(h n hp).1]
      rcases hh.2 with a | a
      · exact .inl a
      · exact .inr (Tr.EndsF.on P h (h n hp).2 a)⟩
end Go.Proofs.Ytfgnhldnmbfnkab

/- TopTree, plain: how often each node is held behind each act; the way up comes to an end. -/
import Derived.Test.YtfgnhldnmbfnkabWa
namespace Go.Proofs.Ytfgnhldnmbfnkab
open Go.RowKit
open Tr (Fo Nd)

theorem Tr.Hb.pla {F G : Fo} {k T : Nat} {E : Int} (h : Tr.Hb F k) (hm : Tr.PlaTo F T E G) : Tr.Hb G k := by
  rcases hm with ⟨_, _, _, rfl⟩ | ⟨_, n, e, hf, hm⟩
  · exact h
  rcases hm with ⟨_, _, _, rfl⟩ | ⟨_, _, _, rfl⟩
  · exact h
  · exact h.put (x := newN 2 F.trees n) (n := n) (Nat.zero_le _)
theorem Tr.Hb.mak {F G : Fo} {k K : Nat} {z kz E : Int} {s : ByteArray} (h : Tr.Hb F k) (hm : Tr.MakTo F z s kz K E G) : Tr.Hb G k := by
  rcases hm with ⟨_, _, _, _, rfl⟩ | ⟨hkz, e, hw, hm⟩
  · exact h
  rcases hm with ⟨_, _, _, rfl⟩ | ⟨rfl, q, e2, hf, hm⟩
  · exact h
  rcases hm with ⟨_, _, _, rfl⟩ | ⟨rfl, _, _, rfl⟩
  · exact h
  obtain ⟨n, rfl, n40, _⟩ := hw.ok
  have q40 : q < 40 := by
    rcases hf with ⟨_, h1, _⟩ | ⟨h1, _⟩
    · exact h1
    · omega
  rw [Int.toNat_natCast]
  unfold Tr.makF
  exact (h.put (Nat.zero_le _)).leaF n40 q40
theorem Tr.Hb.lin {F G : Fo} {k : Nat} {y z E : Int} {s : ByteArray} (h : Tr.Hb F k) (hm : Tr.LinTo F y z s E G) : Tr.Hb G k := by
  rcases hm with ⟨_, _, rfl⟩ | ⟨ey, e, hw, hm⟩
  · exact h
  rcases hm with ⟨_, _, rfl⟩ | ⟨rfl, hm⟩
  · exact h
  rcases hm with ⟨_, _, rfl⟩ | ⟨_, _, rfl⟩
  · exact h
  obtain ⟨n, rfl, n40, _⟩ := hw.ok
  obtain ⟨q, rfl, q40, _⟩ := Tr.isE_ok ey
  rw [Int.toNat_natCast, Int.toNat_natCast]
  unfold Tr.linF
  have a : Tr.Hb (F.put q { F.nd q with links := (F.nd q).links + 1 }) k := h.put (h q q40)
  exact a.leaF n40 q40
theorem Tr.Hb.rem {F G : Fo} {k : Nat} {z E : Int} {s : ByteArray} (h : Tr.Hb F k) (ho : Tr.Ok F) (hm : Tr.RemTo F z s E G) : Tr.Hb G k := by
  obtain ⟨K, e, hf, ⟨_, _, rfl⟩ | ⟨rfl, hm⟩⟩ := hm
  · exact h
  rcases hm with ⟨_, _, _, rfl⟩ | ⟨_, _, i, hp, rfl⟩
  · exact h
  obtain ⟨n, i', rfl, n40, n2, hp', hK⟩ := hf.ok
  have K40 : K < 40 := by rw [hK]; exact (ho.ki n i' n40 n2 hp'.lt).1
  rw [Int.toNat_natCast]
  unfold Tr.remF
  have a : Tr.Hb (F.put n (Tr.forN (F.nd n) i)) k := h.put (h n n40)
  refine Tr.Hb.swe (a.put ?_)
  exact a K K40
theorem Tr.Hb.mov {F G : Fo} {k : Nat} {z y E : Int} {s o : ByteArray} (h : Tr.Hb F k) (ho : Tr.Ok F) (hm : Tr.MovTo F z s y o E G) : Tr.Hb G k := by
  obtain ⟨K, e, hf, ⟨_, _, rfl⟩ | ⟨rfl, hm⟩⟩ := hm
  · exact h
  rcases hm with ⟨_, _, rfl⟩ | ⟨ey, hm⟩
  · exact h
  rcases hm with ⟨_, _, rfl⟩ | ⟨_, hm⟩
  · exact h
  rcases hm with ⟨_, _, rfl⟩ | ⟨_, i, _, e2, _, hm⟩
  · exact h
  rcases hm with ⟨_, _, rfl⟩ | ⟨_, _, rfl⟩
  · exact h
  obtain ⟨n, i', rfl, n40, n2, hp', hK⟩ := hf.ok
  obtain ⟨t, rfl, t40, _⟩ := Tr.isE_ok ey
  have K40 : K < 40 := by rw [hK]; exact (ho.ki n i' n40 n2 hp'.lt).1
  rw [Int.toNat_natCast, Int.toNat_natCast]
  unfold Tr.movF
  have a : Tr.Hb (F.put n (Tr.forN (F.nd n) i)) k := h.put (h n n40)
  exact a.leaF t40 K40
theorem Tr.Hb.hol {F : Fo} {k : Nat} (h : Tr.Hb F k) (z : Int) : Tr.Hb (Tr.hol F z) (k + 1) := by
  unfold Tr.hol
  split
  · rename_i c
    obtain ⟨n, rfl, n40, _⟩ := Tr.nodeE_ok c
    rw [Int.toNat_natCast]
    refine (h.mono (Nat.le_succ k)).put ?_
    exact Nat.succ_le_succ (h n n40)
  · exact h.mono (Nat.le_succ k)
theorem Tr.Hb.letT {F : Fo} {k : Nat} (h : Tr.Hb F k) (z : Int) : Tr.Hb (Tr.letT F z) k := by
  unfold Tr.letT
  split
  · rename_i c
    have c' : Tr.nodeE F z = 0 := by
      unfold Tr.letE at c
      by_cases d : Tr.nodeE F z = 0
      · exact d
      · rw [if_neg d] at c; exact c
    obtain ⟨n, rfl, n40, _⟩ := Tr.nodeE_ok c'
    rw [Int.toNat_natCast]
    refine Tr.Hb.swe (h.put ?_)
    exact Nat.le_trans (Nat.sub_le _ _) (h n n40)
  · exact h
theorem Tr.Hb.wri {F : Fo} {k : Nat} (h : Tr.Hb F k) (z a : Int) (s : ByteArray) : Tr.Hb (Tr.wriF F z a s) k := by
  unfold Tr.wriF
  split
  · rename_i c
    have c' : Tr.isE F z 1 = 0 := by
      have c1 := c.1
      unfold Tr.wriE at c1
      by_cases d : Tr.isE F z 1 = 0
      · exact d
      · first | (rw [if_neg d] at c1; exact c1) | (rw [if_pos d] at c1; exact c1)
    obtain ⟨n, rfl, n40, _⟩ := Tr.isE_ok c'
    rw [Int.toNat_natCast]
    refine h.put ?_
    exact h n n40
  · exact h
theorem Tr.Hb.cut {F : Fo} {k : Nat} (h : Tr.Hb F k) (z a : Int) : Tr.Hb (Tr.cutF F z a) k := by
  unfold Tr.cutF
  split
  · rename_i c
    have c' : Tr.isE F z 1 = 0 := by
      unfold Tr.cutE at c
      by_cases d : Tr.isE F z 1 = 0
      · exact d
      · first | (rw [if_neg d] at c; exact c) | (rw [if_pos d] at c; exact c)
    obtain ⟨n, rfl, n40, _⟩ := Tr.isE_ok c'
    rw [Int.toNat_natCast]
    refine h.put ?_
    exact h n n40
  · exact h
theorem Tr.hb_g1 : Tr.Hb Tr.g1 0 := by
  have h0 : Tr.Hb Tr.f0 0 := fun n _ => Nat.le_refl _
  exact h0.put (n := 0) (x := newN 2 0 0) (Nat.zero_le _)
theorem Tr.Hb.lt {F : Fo} {k : Nat} (h : Tr.Hb F k) (hk : k < 1000) : ∀ n, n < 40 → (F.nd n).held < 2 ^ 60 := fun n hn => by have := h n hn; omega
/-- Where a directory is, that is one too. -/
theorem Tr.Ok.up_dir {F : Fo} (h : Tr.Ok F) {n : Nat} (hn : n < 40) (k2 : (F.nd n).kind = 2) : (F.nd n).up < 40 ∧ (F.nd (F.nd n).up).kind = 2 := by
  rcases Tr.up_of h.ki k2 (by rw [h.dr n hn k2]; exact Nat.le_refl _) with ⟨t, ht, rfl⟩ | ⟨i, h1, h2, _⟩
  · obtain ⟨a, b, c, _⟩ := h.rt t ht
    rw [c]; exact ⟨a, b⟩
  · exact ⟨h1, h2⟩
/-- The way up comes to an end in forty steps. -/
theorem Tr.EndsF.within {F : Fo} : ∀ {m n : Nat}, Tr.EndsF F m n → ∃ e, e ≤ m ∧ (F.nd (Tr.upI F n e)).up = Tr.upI F n e ∧ ∀ j, j < e → (F.nd (Tr.upI F n j)).up ≠ Tr.upI F n j
  | 0, n, h => ⟨0, Nat.le_refl _, h.2, fun j hj => by omega⟩
  | m + 1, n, h => by
    by_cases c : (F.nd n).up = n
    · exact ⟨0, Nat.zero_le _, c, fun j hj => by omega⟩
    · obtain ⟨e, h1, h2, h3⟩ := Tr.EndsF.within (h.2.resolve_left c)
      refine ⟨e + 1, by omega, ?_, fun j hj => ?_⟩
      · rw [← Tr.upI_shift]; exact h2
      · cases j with
        | zero => exact c
        | succ j => rw [← Tr.upI_shift]; exact h3 j (by omega)
theorem Tr.Ok.way {F : Fo} (h : Tr.Ok F) {n : Nat} (hn : n < 40) (k2 : (F.nd n).kind = 2) : ∀ j, Tr.upI F n j < 40 ∧ (F.nd (Tr.upI F n j)).kind = 2
  | 0 => ⟨hn, k2⟩
  | j + 1 => by
    obtain ⟨a, b⟩ := h.way hn k2 j
    exact h.up_dir a b
end Go.Proofs.Ytfgnhldnmbfnkab

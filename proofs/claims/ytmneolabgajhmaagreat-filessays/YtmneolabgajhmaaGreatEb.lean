/- FilesSays, plain: a pipe's ends; makes, removes and writes. -/
import Derived.Test.YtmneolabgajhmaaGreatEa
import Derived.Test.YtmneolabgajhmaaGreatPg
namespace Go.Proofs.YtmneolabgajhmaaGreat
open Go.RowKit
open Fx (Fi)
open Tr (Fo Nd)
open Pp (Pi)

section
variable {T : Nat → Fi} {F G : Fo} {S : Nat → Pi}
/-- One entry more. -/
theorem WI.entry (h : WI T F S) {K q n : Nat} {R : Nat → Pi} (hl : Fx.Low T K) (hq : q = 2 ∨ q = 3) (n8 : n < 8) (h2 : ∀ m, m < 8 → (R m).reads = (S m).reads + if q = 2 ∧ m = n then 1 else 0) (h3 : ∀ m, m < 8 → (R m).writes = (S m).writes + if q = 3 ∧ m = n then 1 else 0) : WI (Fx.put T K ⟨q, n, false, 0, 1⟩) F R := by
  have cc : ∀ k m, Fx.cK (Fx.put T K ⟨q, n, false, 0, 1⟩) k m 24 = Fx.cK T k m 24 + if k = q ∧ m = n then 1 else 0 := fun k m => by
    have := Fx.cK_at T ⟨q, n, false, 0, 1⟩ k m hl.1
    rw [Fx.hit_zero hl.2.1] at this
    have e2 : Fx.hit ⟨q, n, false, 0, 1⟩ k m = if k = q ∧ m = n then 1 else 0 := by
      unfold Fx.hit
      by_cases c : k = q ∧ m = n
      · rw [if_pos c, if_pos ⟨Nat.succ_ne_zero 0, c.1.symm, c.2.symm⟩]
      · rw [if_neg c, if_neg (fun d => c ⟨d.2.1.symm, d.2.2.symm⟩)]
    rw [e2] at this
    omega
  refine ⟨fun m hm e => ?_, fun m hm e => ?_, fun m hm e k => ?_, fun m hm e k => ?_, fun m hm => ?_, fun m hm => ?_, h.z0, fun m hm => ?_, fun m hm => ?_⟩
  · by_cases c : m = K
    · subst c; rw [Fx.put_same] at e; exact absurd e (Nat.succ_ne_zero 0)
    · rw [Fx.put_ne _ _ _ _ c] at e ⊢; exact h.no m hm e
  · by_cases c : m = K
    · subst c; rw [Fx.put_same]; exact .inr hq
    · rw [Fx.put_ne _ _ _ _ c] at e ⊢; exact h.kd m hm e
  · by_cases c : m = K
    · subst c; rw [Fx.put_same] at k; have : q = 1 := k; omega
    · rw [Fx.put_ne _ _ _ _ c] at e k ⊢; exact h.nd m hm e k
  · by_cases c : m = K
    · subst c; rw [Fx.put_same]; exact n8
    · rw [Fx.put_ne _ _ _ _ c] at e k ⊢; exact h.pn m hm e k
  · by_cases c : m = K
    · subst c; rw [Fx.put_same]; exact Nat.zero_le _
    · rw [Fx.put_ne _ _ _ _ c]; exact h.ps m hm
  · rw [cc, if_neg (by omega)]; exact h.hl m hm
  · rw [cc, h2 m hm, h.rd m hm]
    by_cases c : q = 2 ∧ m = n
    · rw [if_pos c, if_pos ⟨c.1.symm, c.2⟩]
    · rw [if_neg c, if_neg (fun d => c ⟨d.1.symm, d.2⟩)]
  · rw [cc, h3 m hm, h.wt m hm]
    by_cases c : q = 3 ∧ m = n
    · rw [if_pos c, if_pos ⟨c.1.symm, c.2⟩]
    · rw [if_neg c, if_neg (fun d => c ⟨d.1.symm, d.2⟩)]
/-- Both ends of a new pipe. -/
theorem WI.pipe (h : WI T F S) {a c n : Nat} (hf : Pp.FreeTo S n 0) (h1 : Fx.Low T a) (h2 : Fx.Low (Fx.put T a ⟨2, n, false, 0, 1⟩) c) : WI (Fx.put (Fx.put T a ⟨2, n, false, 0, 1⟩) c ⟨3, n, false, 0, 1⟩) F (Pp.makF S n 0) := by
  have n8 : n < 8 ∧ Pp.thr (S n) = false := by
    rcases hf with ⟨_, x, y, _⟩ | ⟨x, _⟩
    · exact ⟨x, y⟩
    · exact absurd x (by decide)
  have z : (S n).reads = 0 ∧ (S n).writes = 0 := by
    have := n8.2
    unfold Pp.thr at this
    have := of_decide_eq_false this
    omega
  have eM : Pp.makF S n 0 = Pp.put S n ⟨⟨#[]⟩, 1, 1⟩ := if_pos rfl
  rw [eM]
  have s1 := h.entry (q := 2) (R := Pp.put S n ⟨⟨#[]⟩, 1, 0⟩) h1 (.inl rfl) n8.1 (fun m hm => by
    by_cases d : m = n
    · subst d; rw [Pp.put_same, if_pos ⟨rfl, rfl⟩, z.1]
    · rw [Pp.put_ne _ _ _ _ d, if_neg (fun e => d e.2)]; rfl) (fun m hm => by
    rw [if_neg (fun e => absurd e.1 (by decide))]
    by_cases d : m = n
    · subst d; rw [Pp.put_same, z.2]
    · rw [Pp.put_ne _ _ _ _ d]; rfl)
  refine s1.entry (q := 3) h2 (.inr rfl) n8.1 (fun m hm => ?_) (fun m hm => ?_)
  · rw [if_neg (fun e => absurd e.1 (by decide))]
    by_cases d : m = n
    · subst d; rw [Pp.put_same, Pp.put_same]
    · rw [Pp.put_ne _ _ _ _ d, Pp.put_ne _ _ _ _ d]; rfl
  · by_cases d : m = n
    · subst d; rw [Pp.put_same, Pp.put_same, if_pos ⟨rfl, rfl⟩]
    · rw [Pp.put_ne _ _ _ _ d, Pp.put_ne _ _ _ _ d, if_neg (fun e => d e.2)]; rfl
/-- Two free numbers, one behind the other. -/
theorem Fx.low_two {x : Fi} (hx : x.refs ≠ 0) (h : Fx.cnt T 24 ≤ 22) : ∃ a c, Fx.Low T a ∧ Fx.Low (Fx.put T a x) c := by
  obtain ⟨a, ha⟩ := Fx.low_of (T := T) (by omega)
  have cp : ∀ N, Fx.cnt (Fx.put T a x) N ≤ Fx.cnt T N + 1 := by
    intro N
    induction N with
    | zero => exact Nat.zero_le _
    | succ N ih =>
      show Fx.cnt (Fx.put T a x) N + (if (Fx.put T a x N).refs = 0 then 0 else 1) ≤ Fx.cnt T N + (if (T N).refs = 0 then 0 else 1) + 1
      by_cases c : N = a
      · have ex : ∀ M, M ≤ a → Fx.cnt (Fx.put T a x) M = Fx.cnt T M := by
          intro M
          induction M with
          | zero => intro _; rfl
          | succ M ih2 =>
            intro hM
            show Fx.cnt (Fx.put T a x) M + (if (Fx.put T a x M).refs = 0 then 0 else 1) = Fx.cnt T M + (if (T M).refs = 0 then 0 else 1)
            rw [ih2 (by omega), Fx.put_ne _ _ _ _ (by omega)]
        rw [ex N (by omega)]
        repeat' split
        all_goals omega
      · rw [Fx.put_ne _ _ _ _ c]
        omega
  have := cp 24
  obtain ⟨c, hc⟩ := Fx.low_of (T := Fx.put T a x) (by omega)
  have _ := hx
  exact ⟨a, c, ha, hc⟩
theorem WI.lea {n k : Nat} {s : ByteArray} (F : Fo) (m : Nat) : ((Tr.leaF F n s k).nd m).held = (F.nd m).held ∧ ((Tr.leaF F n s k).nd m).kind = (F.nd m).kind := by
  have one : ∀ m, ((F.put n (Tr.adN (F.nd n) s k)).nd m).held = (F.nd m).held ∧ ((F.put n (Tr.adN (F.nd n) s k)).nd m).kind = (F.nd m).kind := fun m => by
    by_cases c : m = n
    · subst c; rw [Tr.put_same]; exact ⟨rfl, rfl⟩
    · rw [Tr.put_ne _ _ _ _ c]; exact ⟨rfl, rfl⟩
  unfold Tr.leaF
  split
  · by_cases c : m = k
    · subst c; rw [Tr.put_same]; exact one m
    · rw [Tr.put_ne _ _ _ _ c]; exact one m
  · exact one m
theorem WI.mak (h : WI T F S) {z kz E : Int} {s : ByteArray} {K : Nat} (hm : Tr.MakTo F z s kz K E G) : WI T G S := by
  rcases hm with ⟨_, _, _, _, rfl⟩ | ⟨kk, e, _, ⟨_, _, _, rfl⟩ | ⟨_, k, e2, hf, ⟨_, _, _, rfl⟩ | ⟨e0, _, _, rfl⟩⟩⟩
  · exact h
  · exact h
  · exact h
  · obtain ⟨k40, k0⟩ : k < 40 ∧ (F.nd k).kind = 0 := by
      rcases hf with ⟨_, x, y, _⟩ | ⟨x, _⟩
      · exact ⟨x, y⟩
      · omega
    have hk := h.z0 k k40 k0
    have kz0 : kz.toNat ≠ 0 := by omega
    have cut : ∀ m, ((Tr.makF F z.toNat s kz.toNat k).nd m).held = (F.nd m).held ∧ (((Tr.makF F z.toNat s kz.toNat k).nd m).kind = if m = k then kz.toNat else (F.nd m).kind) := fun m => by
      unfold Tr.makF
      obtain ⟨x, y⟩ := WI.lea (n := z.toNat) (k := k) (s := s) (F.put k (newN kz.toNat (F.nd z.toNat).tree 0)) m
      rw [x, y]
      by_cases c : m = k
      · subst c; rw [Tr.put_same, if_pos rfl]; exact ⟨hk.symm, rfl⟩
      · rw [Tr.put_ne _ _ _ _ c, if_neg c]; exact ⟨rfl, rfl⟩
    refine h.forest (fun m _ => (cut m).1) (fun m hm hh => ?_) (fun m hm e => ?_)
    · rw [(cut m).2, if_neg (fun c => by subst c; exact hh hk)]
    · rw [(cut m).2] at e
      rw [(cut m).1]
      by_cases c : m = k
      · rw [if_pos c] at e; exact absurd e kz0
      · rw [if_neg c] at e; exact h.z0 m hm e
theorem WI.rem (h : WI T F S) {z E : Int} {s : ByteArray} (hm : Tr.RemTo F z s E G) : WI T G S := by
  obtain ⟨K, e, _, ⟨_, _, rfl⟩ | ⟨_, ⟨_, _, _, rfl⟩ | ⟨_, _, i, _, rfl⟩⟩⟩ := hm
  · exact h
  · exact h
  · have one : ∀ m, (((F.put z.toNat (Tr.forN (F.nd z.toNat) i)).put K { (F.put z.toNat (Tr.forN (F.nd z.toNat) i)).nd K with links := (F.nd K).links - 1 }).nd m).held = (F.nd m).held ∧ (((F.put z.toNat (Tr.forN (F.nd z.toNat) i)).put K { (F.put z.toNat (Tr.forN (F.nd z.toNat) i)).nd K with links := (F.nd K).links - 1 }).nd m).kind = (F.nd m).kind := fun m => by
      have two : ((F.put z.toNat (Tr.forN (F.nd z.toNat) i)).nd m).held = (F.nd m).held ∧ ((F.put z.toNat (Tr.forN (F.nd z.toNat) i)).nd m).kind = (F.nd m).kind := by
        by_cases c : m = z.toNat
        · subst c; rw [Tr.put_same]; exact ⟨rfl, rfl⟩
        · rw [Tr.put_ne _ _ _ _ c]; exact ⟨rfl, rfl⟩
      by_cases c : m = K
      · subst c; rw [Tr.put_same]; exact two
      · rw [Tr.put_ne _ _ _ _ c]; exact two
    unfold Tr.remF Tr.swe
    split
    · rename_i c
      refine h.forest (fun m hm => ?_) (fun m hm hh => ?_) (fun m hm e => ?_)
      · by_cases d : m = K
        · subst d; rw [Tr.put_same, ← (one m).1, c.2]; rfl
        · rw [Tr.put_ne _ _ _ _ d]; exact (one m).1
      · by_cases d : m = K
        · subst d; rw [← (one m).1] at hh; exact absurd c.2 hh
        · rw [Tr.put_ne _ _ _ _ d]; exact (one m).2
      · by_cases d : m = K
        · subst d; rw [Tr.put_same]; rfl
        · rw [Tr.put_ne _ _ _ _ d] at e ⊢
          rw [(one m).2] at e
          rw [(one m).1]
          exact h.z0 m hm e
    · refine h.forest (fun m hm => (one m).1) (fun m hm _ => (one m).2) (fun m hm e => ?_)
      rw [(one m).2] at e
      rw [(one m).1]
      exact h.z0 m hm e
theorem WI.wri (h : WI T F S) (z a : Int) (s : ByteArray) : WI T (Tr.wriF F z a s) S := by
  unfold Tr.wriF
  split
  · have one : ∀ m, ((F.put z.toNat (Tr.wriN (F.nd z.toNat) a.toNat s)).nd m).held = (F.nd m).held ∧ ((F.put z.toNat (Tr.wriN (F.nd z.toNat) a.toNat s)).nd m).kind = (F.nd m).kind := fun m => by
      by_cases c : m = z.toNat
      · subst c; rw [Tr.put_same]; exact ⟨rfl, rfl⟩
      · rw [Tr.put_ne _ _ _ _ c]; exact ⟨rfl, rfl⟩
    refine h.forest (fun m hm => (one m).1) (fun m hm _ => (one m).2) (fun m hm e => ?_)
    rw [(one m).2] at e
    rw [(one m).1]
    exact h.z0 m hm e
  · exact h
theorem WI.rea (h : WI T F S) (z m : Int) : WI T F (Pp.reaF S z m) := by
  unfold Pp.reaF
  split
  · refine h.pipes (fun q hq => ?_)
    by_cases c : q = z.toNat
    · subst c; rw [Pp.put_same]; exact ⟨rfl, rfl⟩
    · rw [Pp.put_ne _ _ _ _ c]; exact ⟨rfl, rfl⟩
  · exact h
theorem WI.pwri (h : WI T F S) (z : Int) (s : ByteArray) : WI T F (Pp.wriF S z s) := by
  unfold Pp.wriF
  split
  · refine h.pipes (fun q hq => ?_)
    by_cases c : q = z.toNat
    · subst c; rw [Pp.put_same]; exact ⟨rfl, rfl⟩
    · rw [Pp.put_ne _ _ _ _ c]; exact ⟨rfl, rfl⟩
  · exact h
end
end Go.Proofs.YtmneolabgajhmaaGreat

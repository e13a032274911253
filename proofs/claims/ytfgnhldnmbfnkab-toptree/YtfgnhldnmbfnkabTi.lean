/- The code's forest: below. -/
import Derived.Test.YtfgnhldnmbfnkabTh
namespace Go.Proofs.Ytfgnhldnmbfnkab
open Go.RowKit
open Tr (Fo Nd)

/-- Going up from a directory, m steps at most, one comes to its root. -/
def Tr.EndsF (F : Fo) : Nat → Nat → Prop
  | 0, n => n < 40 ∧ (F.nd n).up = n
  | m + 1, n => n < 40 ∧ ((F.nd n).up = n ∨ Tr.EndsF F m (F.nd n).up)
/-- Is o above n, or n itself? -/
def Tr.belB (F : Fo) (o : Nat) : Nat → Nat → Bool
  | 0, n => n == o
  | m + 1, n => n == o || (!((F.nd n).up == n) && Tr.belB F o m (F.nd n).up)
/-- How far the root is. -/
def Tr.farF (F : Fo) : Nat → Nat → Nat
  | 0, _ => 0
  | m + 1, n => if (F.nd n).up = n then 0 else 1 + Tr.farF F m (F.nd n).up
theorem Tr.EndsF.lt {F : Fo} {n m : Nat} (h : Tr.EndsF F m n) : n < 40 := by cases m <;> exact h.1
theorem Tr.EndsF.more {F : Fo} : ∀ {m n : Nat}, Tr.EndsF F m n → Tr.EndsF F (m + 1) n ∧ Tr.farF F (m + 1) n = Tr.farF F m n ∧ ∀ o, Tr.belB F o (m + 1) n = Tr.belB F o m n
  | 0, n, h => ⟨⟨h.1, .inl h.2⟩, if_pos h.2, fun o => by
      show (n == o || (!((F.nd n).up == n) && _)) = (n == o)
      rw [h.2]; simp⟩
  | m + 1, n, ⟨h1, h2⟩ => by
      by_cases c : (F.nd n).up = n
      · refine ⟨⟨h1, .inl c⟩, ?_, fun o => ?_⟩
        · unfold Tr.farF; rw [if_pos c, if_pos c]
        · unfold Tr.belB; simp [c]
      · rcases h2 with h2 | h2
        · exact absurd h2 c
        · obtain ⟨a1, a2, a3⟩ := Tr.EndsF.more h2
          refine ⟨⟨h1, .inr a1⟩, ?_, fun o => ?_⟩
          · show (if _ then 0 else 1 + Tr.farF F (m + 1) _) = (if _ then 0 else 1 + Tr.farF F m _)
            rw [a2]
          · show (n == o || (!((F.nd n).up == n) && Tr.belB F o (m + 1) (F.nd n).up)) = (n == o || (!((F.nd n).up == n) && Tr.belB F o m (F.nd n).up))
            rw [a3]
/-- One step up. -/
theorem Tr.EndsF.step {F : Fo} {m n : Nat} (h : Tr.EndsF F m n) (c : (F.nd n).up ≠ n) : Tr.EndsF F m (F.nd n).up ∧ Tr.farF F m (F.nd n).up < Tr.farF F m n ∧ ∀ o, n ≠ o → Tr.belB F o m n = Tr.belB F o m (F.nd n).up := by
  cases m with
  | zero => exact absurd h.2 c
  | succ m =>
    rcases h.2 with h2 | h2
    · exact absurd h2 c
    · obtain ⟨a1, a2, a3⟩ := h2.more
      refine ⟨a1, ?_, fun o ho => ?_⟩
      · rw [a2]
        show _ < (if _ then 0 else 1 + Tr.farF F m _)
        rw [if_neg c]; omega
      · rw [a3]
        show (n == o || (!((F.nd n).up == n) && Tr.belB F o m (F.nd n).up)) = _
        rw [show (n == o) = false from by simpa using ho, show ((F.nd n).up == n) = false from by simpa using c]
        rfl
theorem Tr.belB_same (F : Fo) (m n : Nat) : Tr.belB F n m n = true := by cases m <;> simp [Tr.belB]
theorem Tr.belB_root {F : Fo} (m : Nat) {n o : Nat} (c : (F.nd n).up = n) (h : n ≠ o) : Tr.belB F o m n = false := by cases m <;> simp [Tr.belB, c, h]
set_option maxRecDepth 100000 in
set_option maxHeartbeats 1000000 in
theorem tbelow_any (b n o m : Nat) (F : Fo) (w : World) (h : FAt w b F) (he : Tr.EndsF F m n) :
    Calls Try.prog 114 #[.pointer (some ⟨b, 0, none⟩), .int .i64 (n : Int), .int .i64 (o : Int)] w fun e w' => e = .returned (.bool (Tr.belB F o m n)) ∧ w' = w := by
  have HF := Hid.intro h
  have HE := Hid.intro he
  clear h he
  go_enter Try.func114, Try.ntmps114
  go_wp2_with fail
  go_loopw [1] (fun i wr => ∃ (y : Nat), i = .int .i64 y ∧ Hid (Tr.EndsF F m y ∧ Tr.belB F o m n = Tr.belB F o m y) ∧ wr = w) (fun i _ => Tr.farF F m (intOf i).toNat)
  case atStart => exact ⟨n, rfl, Hid.intro ⟨HE.out, rfl⟩, rfl⟩
  case round =>
    obtain ⟨y, rfl, R, hwr⟩ := hrel
    subst wr
    have y40 := R.out.1.lt
    have yI : (y : Int) < 40 := by omega
    by_cases c : y = o
    · subst c
      have FIN : Hid (Tr.belB F y m n = true) := Hid.intro (by rw [R.out.2]; exact Tr.belB_same F m y)
      go_wp2_with fail
      go_ret
      exact ⟨by rw [FIN.out]; simp, rfl⟩
    · have c1 : ((y : Int) == (o : Int)) = false := by simp; omega
      have c2 : ¬ (y : Int) = (o : Int) := by omega
      have c3 : ((y : Int) != (o : Int)) = true := by simp; omega
      have c0 := HF.out.cUp y y40
      by_cases d : (F.nd y).up = y
      · rw [d] at c0
        have FIN : Hid (Tr.belB F o m n = false) := Hid.intro (by rw [R.out.2]; exact Tr.belB_root m d c)
        clear d
        go_wp2_with fail
        go_ret
        exact ⟨by rw [FIN.out]; simp, rfl⟩
      · have NX := Hid.intro (R.out.1.step d)
        obtain ⟨u, hu⟩ : ∃ u, (F.nd y).up = u := ⟨_, rfl⟩
        rw [hu] at c0 NX d
        have d2 : ¬ (y : Int) = (u : Int) := by omega
        have d3 : ((y : Int) != (u : Int)) = true := by simp; omega
        clear hu d
        go_wp2_with fail
        go_roundw
        case rel => exact ⟨u, rfl, Hid.intro ⟨NX.out.1, R.out.2.trans (NX.out.2.2 o c)⟩, by first | rfl | trivial⟩
        case measure => simp [intOf]; exact NX.out.2.1
end Go.Proofs.Ytfgnhldnmbfnkab

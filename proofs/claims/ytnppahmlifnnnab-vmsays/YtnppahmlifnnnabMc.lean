/- The document's own memory: Map, Protect, Resident. -/
import Derived.Test.YtnppahmlifnnnabMb
namespace Go.Proofs.Ytnppahmlifnnnab
open Go.RowKit
open Mv (Me)

theorem resK_le (m : Me) (k : Nat) : Mv.resK m k ≤ k := by
  induction k with
  | zero => exact Nat.le_refl 0
  | succ k ih => show Mv.resK m k + _ ≤ k + 1; split <;> omega

set_option maxRecDepth 100000 in
set_option maxHeartbeats 1000000 in
theorem resident_any (b r : Nat) (m : Me) (own : Nat → Bool) (w : World) (h : MAt w b r m own) :
    Calls Try.prog 70 #[.pointer (some ⟨b, 0, none⟩)] w fun e w' => e = .returned (.int .i64 (Mv.resK m 16 : Int)) ∧ w' = w := by
  have HF := Hid.intro h
  clear h
  go_enter Try.func70, Try.ntmps70
  go_wp2_with fail
  go_loopw [3, 4] (fun s i wr => ∃ (k : Nat), i = .int .i64 k ∧ s = .int .i64 (Mv.resK m k : Int) ∧ k ≤ 16 ∧ wr = w) (fun _ i _ => 16 - (intOf i).toNat)
  case atStart => exact ⟨0, rfl, rfl, by omega, rfl⟩
  case round =>
    obtain ⟨k, rfl, rfl, hk, hw⟩ := hrel
    subst wr
    by_cases hlt : k < 16
    · have hltI : (k : Int) < 16 := by omega
      have c1 := HF.out.cFr k hlt
      have LS : Hid (Mv.resK m (k + 1) = Mv.resK m k + if m.fr k = 0 then 0 else 1) := Hid.intro rfl
      have lb := resK_le m k
      by_cases e : m.fr k = 0
      · have LE : Hid (Mv.resK m (k + 1) = Mv.resK m k) := Hid.intro (by rw [LS.out, if_pos e]; rfl)
        rw [e] at c1
        have c1' : w.cell? ⟨b, 17 + k, none⟩ = some (.int .i64 0) := c1
        clear e c1
        go_wp2_with fail
        go_roundw
        case rel => exact ⟨k + 1, by go_num, by rw [LE.out], by omega, by first | rfl | trivial⟩
        case measure => simp [intOf]; omega
      · have LE : Hid (Mv.resK m (k + 1) = Mv.resK m k + 1) := Hid.intro (by rw [LS.out, if_neg e])
        generalize Mv.resK m k = lk at *
        generalize m.fr k = u at *
        have eI : (0 : Int) < (u : Int) := by omega
        clear e
        go_wp2_with fail
        go_roundw
        case rel => exact ⟨k + 1, by go_num, by rw [LE.out]; go_num, by omega, by first | rfl | trivial⟩
        case measure => simp [intOf]; omega
    · have hk16 : k = 16 := by omega
      subst hk16
      go_wp2_with fail
      go_ret
      exact ⟨rfl, rfl⟩

set_option maxRecDepth 100000 in
set_option maxHeartbeats 1000000 in
theorem map_any (b r : Nat) (a n : Int) (wt : Bool) (m : Me) (own : Nat → Bool) (w : World) (h : MAt w b r m own) :
    Calls Try.prog 61 #[.pointer (some ⟨b, 0, none⟩), .int .i64 a, .int .i64 n, .bool wt] w fun e w' => e = .returned (.int .i64 (Mv.mapE m a n)) ∧ MAt w' b r (Mv.mapM m a n wt) own ∧ Frm b w w' := by
  have HF := Hid.intro h
  cases hb : Mv.badB a n
  · obtain ⟨x, c, rfl, rfl, hx, hc, hxc⟩ := Mv.bad_no hb
    have HB := Hid.intro hb
    have hw : IntKind.i64.wrap ((x : Int) + (c : Int)) = (x : Int) + (c : Int) := IntWalk.i64_in _ ⟨by omega, by omega⟩
    clear h hb
    go_enter Try.func61, Try.ntmps61
    go_wp2_with fail
    refine (bad_any x c _).mono ?_
    rintro e w1 ⟨rfl, hw1⟩
    subst w1
    rw [HB.out]
    go_wp2_with fail
    go_loopw [9] (fun i wr => ∃ (k : Nat), i = .int .i64 k ∧ x ≤ k ∧ k ≤ x + c ∧ (∀ j, x ≤ j → j < k → m.is j = 0) ∧ wr = w) (fun i _ => x + c - (intOf i).toNat)
    case atStart => exact ⟨x, rfl, by omega, by omega, fun j h1 h2 => absurd h1 (by omega), rfl⟩
    case round =>
      obtain ⟨k, rfl, hk1, hk2, hall, hw1⟩ := hrel
      subst wr
      have HA := Hid.intro hall
      clear hall
      by_cases hlt : k < x + c
      · have hltI : (k : Int) < (x : Int) + (c : Int) := by omega
        have hkI : (k : Int) < 16 := by omega
        have c1 := HF.out.cIs k (by omega)
        by_cases e : m.is k = 0
        · have HN : Hid (∀ j, x ≤ j → j < k + 1 → m.is j = 0) := Hid.intro (fun j h1 h2 => by
            by_cases c : j = k
            · subst c; exact e
            · exact HA.out j h1 (by omega))
          rw [e] at c1
          have c1' : w.cell? ⟨b, 1 + k, none⟩ = some (.int .i64 0) := c1
          clear e c1
          go_wp2_with fail
          go_roundw
          case rel => exact ⟨k + 1, by go_num, by omega, by omega, HN.out, by first | rfl | trivial⟩
          case measure => simp [intOf]; omega
        · have HE : Hid (Mv.mapE m x c = 3 ∧ Mv.mapM m x c wt = m) := Hid.intro (by
            have e0 : Mv.mapE m x c = 3 := by
              unfold Mv.mapE
              rw [HB.out, Int.toNat_natCast, Int.toNat_natCast]
              rw [if_neg (by decide), if_pos ((Mv.anyM_iff hxc).2 ⟨k, hk1, hlt, e⟩)]
            exact ⟨e0, by unfold Mv.mapM; rw [e0]; rfl⟩)
          generalize m.is k = u at *
          have eI : (0 : Int) < (u : Int) := by omega
          clear e 
          go_wp2_with fail
          go_ret
          exact ⟨by rw [HE.out.1]; rfl, by rw [HE.out.2]; exact HF.out, Frm.refl b w⟩
      · have hltI : ¬ (k : Int) < (x : Int) + (c : Int) := by omega
        have hk : k = x + c := by omega
        subst hk
        have HE : Hid (Mv.mapE m x c = 0 ∧ Mv.mapM m x c wt = Mv.layM m x (x + c) wt) := Hid.intro (by
          have e0 : Mv.mapE m x c = 0 := by
            unfold Mv.mapE
            rw [HB.out, Int.toNat_natCast, Int.toNat_natCast]
            rw [if_neg (by decide), if_neg (fun q => by obtain ⟨i, h1, h2, h3⟩ := (Mv.anyM_iff hxc).1 q; exact h3 (HA.out i h1 h2))]
          refine ⟨e0, ?_⟩
          unfold Mv.mapM
          rw [if_pos e0, Int.toNat_natCast, Int.toNat_natCast])
        go_wp2_with fail
        refine (lay_any b r x c wt m own _ HF.out hxc).mono ?_
        rintro e w2 ⟨rfl, S⟩
        go_wp2_with fail
        go_ret
        exact ⟨by rw [HE.out.1]; rfl, by rw [HE.out.2]; exact S⟩
  · have HE : Hid (Mv.badB a n = true ∧ Mv.mapE m a n = 1 ∧ Mv.mapM m a n wt = m) := Hid.intro (by
      have e0 : Mv.mapE m a n = 1 := by unfold Mv.mapE; rw [if_pos hb]
      exact ⟨hb, e0, by unfold Mv.mapM; rw [e0]; rfl⟩)
    clear h hb
    go_enter Try.func61, Try.ntmps61
    go_wp2_with fail
    refine (bad_any a n _).mono ?_
    rintro e w1 ⟨rfl, hw1⟩
    subst w1
    rw [HE.out.1]
    go_wp2_with fail
    go_ret
    exact ⟨by rw [HE.out.2.1]; rfl, by rw [HE.out.2.2]; exact HF.out, Frm.refl b w⟩

set_option maxRecDepth 100000 in
set_option maxHeartbeats 1000000 in
theorem protect_any (b r : Nat) (a n : Int) (wt : Bool) (m : Me) (own : Nat → Bool) (w : World) (h : MAt w b r m own) :
    Calls Try.prog 63 #[.pointer (some ⟨b, 0, none⟩), .int .i64 a, .int .i64 n, .bool wt] w fun e w' => e = .returned (.int .i64 (Mv.proE m a n)) ∧ MAt w' b r (Mv.proM m a n wt) own ∧ Frm b w w' := by
  have HF := Hid.intro h
  cases hb : Mv.badB a n
  · obtain ⟨x, c, rfl, rfl, hx, hc, hxc⟩ := Mv.bad_no hb
    have HB := Hid.intro hb
    have hw : IntKind.i64.wrap ((x : Int) + (c : Int)) = (x : Int) + (c : Int) := IntWalk.i64_in _ ⟨by omega, by omega⟩
    clear h hb
    go_enter Try.func63, Try.ntmps63
    go_wp2_with fail
    refine (bad_any x c _).mono ?_
    rintro e w1 ⟨rfl, hw1⟩
    subst w1
    rw [HB.out]
    go_wp2_with fail
    go_loopw [9] (fun i wr => ∃ (k : Nat), i = .int .i64 k ∧ x ≤ k ∧ k ≤ x + c ∧ (∀ j, x ≤ j → j < k → m.is j ≠ 0) ∧ wr = w) (fun i _ => x + c - (intOf i).toNat)
    case atStart => exact ⟨x, rfl, by omega, by omega, fun j h1 h2 => absurd h1 (by omega), rfl⟩
    case round =>
      obtain ⟨k, rfl, hk1, hk2, hall, hw1⟩ := hrel
      subst wr
      have HA := Hid.intro hall
      clear hall
      by_cases hlt : k < x + c
      · have hltI : (k : Int) < (x : Int) + (c : Int) := by omega
        have hkI : (k : Int) < 16 := by omega
        have c1 := HF.out.cIs k (by omega)
        by_cases e : m.is k = 0
        · have HE : Hid (Mv.proE m x c = 10 ∧ Mv.proM m x c wt = m) := Hid.intro (by
            have e0 : Mv.proE m x c = 10 := by
              unfold Mv.proE
              rw [HB.out, Int.toNat_natCast, Int.toNat_natCast]
              rw [if_neg (by decide), if_neg (fun q => (Mv.allM_iff hxc).1 q k hk1 hlt e)]
            exact ⟨e0, by unfold Mv.proM; rw [e0]; rfl⟩)
          rw [e] at c1
          have c1' : w.cell? ⟨b, 1 + k, none⟩ = some (.int .i64 0) := c1
          clear e c1
          go_wp2_with fail
          go_ret
          exact ⟨by rw [HE.out.1]; rfl, by rw [HE.out.2]; exact HF.out, Frm.refl b w⟩
        · have HN : Hid (∀ j, x ≤ j → j < k + 1 → m.is j ≠ 0) := Hid.intro (fun j h1 h2 => by
            by_cases c : j = k
            · subst c; exact e
            · exact HA.out j h1 (by omega))
          generalize m.is k = u at *
          have eI : ((u : Int) == 0) = false := by simp; omega
          clear e 
          go_wp2_with fail
          go_roundw
          case rel => exact ⟨k + 1, by go_num, by omega, by omega, HN.out, by first | rfl | trivial⟩
          case measure => simp [intOf]; omega
      · have hltI : ¬ (k : Int) < (x : Int) + (c : Int) := by omega
        have hk : k = x + c := by omega
        subst hk
        have HE : Hid (Mv.proE m x c = 0 ∧ Mv.proM m x c wt = Mv.layM m x (x + c) wt) := Hid.intro (by
          have e0 : Mv.proE m x c = 0 := by
            unfold Mv.proE
            rw [HB.out, Int.toNat_natCast, Int.toNat_natCast]
            rw [if_neg (by decide), if_pos ((Mv.allM_iff hxc).2 HA.out)]
          refine ⟨e0, ?_⟩
          unfold Mv.proM
          rw [if_pos e0, Int.toNat_natCast, Int.toNat_natCast])
        go_wp2_with fail
        refine (lay_any b r x c wt m own _ HF.out hxc).mono ?_
        rintro e w2 ⟨rfl, S⟩
        go_wp2_with fail
        go_ret
        exact ⟨by rw [HE.out.1]; rfl, by rw [HE.out.2]; exact S⟩
  · have HE : Hid (Mv.badB a n = true ∧ Mv.proE m a n = 1 ∧ Mv.proM m a n wt = m) := Hid.intro (by
      have e0 : Mv.proE m a n = 1 := by unfold Mv.proE; rw [if_pos hb]
      exact ⟨hb, e0, by unfold Mv.proM; rw [e0]; rfl⟩)
    clear h hb
    go_enter Try.func63, Try.ntmps63
    go_wp2_with fail
    refine (bad_any a n _).mono ?_
    rintro e w1 ⟨rfl, hw1⟩
    subst w1
    rw [HE.out.1]
    go_wp2_with fail
    go_ret
    exact ⟨by rw [HE.out.2.1]; rfl, by rw [HE.out.2.2]; exact HF.out, Frm.refl b w⟩
end Go.Proofs.Ytnppahmlifnnnab

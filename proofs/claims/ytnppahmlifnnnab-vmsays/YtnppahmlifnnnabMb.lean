/- The document's own memory: bad, lay, Map, Protect, May, Wants, Resident. -/
import Derived.Test.YtnppahmlifnnnabMa
namespace Go.Proofs.Ytnppahmlifnnnab
open Go.RowKit
open Mv (Me)

set_option maxRecDepth 100000 in
set_option maxHeartbeats 1000000 in
theorem bad_any (a n : Int) (w : World) : Calls Try.prog 123 #[.int .i64 a, .int .i64 n] w fun e w' => e = .returned (.bool (Mv.badB a n)) ∧ w' = w := by
  by_cases h1 : a < 0
  · have HE : Hid (Mv.badB a n = true) := Hid.intro (decide_eq_true (.inl h1))
    go_enter Try.func123, Try.ntmps123
    go_wp2
    go_ret
    exact ⟨ret_bool HE.out.symm, rfl⟩
  · have h1' : decide (a < 0) = false := decide_eq_false h1
    by_cases h2 : 15 < a
    · have HE : Hid (Mv.badB a n = true) := Hid.intro (decide_eq_true (.inr (.inl h2)))
      go_enter Try.func123, Try.ntmps123
      go_wp2
      go_ret
      exact ⟨ret_bool HE.out.symm, rfl⟩
    · have h2' : decide (15 < a) = false := decide_eq_false h2
      by_cases h3 : n < 1
      · have HE : Hid (Mv.badB a n = true) := Hid.intro (decide_eq_true (.inr (.inr (.inl h3))))
        clear h1 h2
        go_enter Try.func123, Try.ntmps123
        go_wp2
        go_ret
        exact ⟨ret_bool HE.out.symm, rfl⟩
      · have h3' : decide (n < 1) = false := decide_eq_false h3
        have hw : IntKind.i64.wrap (16 - a) = 16 - a := IntWalk.i64_in _ ⟨by omega, by omega⟩
        have HE : Hid (Mv.badB a n = decide (16 - a < n)) := Hid.intro (by
          unfold Mv.badB
          rw [decide_eq_decide]
          omega)
        clear h1 h2 h3
        go_enter Try.func123, Try.ntmps123
        go_wp2_with fail
        go_ret
        exact ⟨ret_bool HE.out.symm, rfl⟩

theorem div8 (x : Nat) : ((x : Int) / 8).toNat = x / 8 := by omega
section
attribute [local go_sem] div8
set_option maxRecDepth 100000 in
set_option maxHeartbeats 1000000 in
theorem may_any (b r : Nat) (z : Int) (wr : Bool) (m : Me) (own : Nat → Bool) (w : World) (h : MAt w b r m own) :
    Calls Try.prog 68 #[.pointer (some ⟨b, 0, none⟩), .int .i64 z, .bool wr] w fun e w' => e = .returned (.bool (Mv.mayB m z wr)) ∧ w' = w := by
  by_cases k : z < 0 ∨ 127 < z
  · have HE : Hid (Mv.mayB m z wr = false) := Hid.intro (if_pos k)
    by_cases h0 : z < 0
    · clear k h
      go_enter Try.func68, Try.ntmps68
      go_wp2
      go_ret
      exact ⟨ret_bool HE.out.symm, rfl⟩
    · have h1 : decide (z < 0) = false := decide_eq_false h0
      have h2 : 127 < z := by omega
      clear k h0 h
      go_enter Try.func68, Try.ntmps68
      go_wp2
      go_ret
      exact ⟨ret_bool HE.out.symm, rfl⟩
  · obtain ⟨x, rfl⟩ := Int.eq_ofNat_of_zero_le (show 0 ≤ z by omega)
    have h2 : decide (127 < (x : Int)) = false := by simp; omega
    have c1 := h.cIs (x / 8) (by omega)
    have h8 : (x : Int) / 8 < 16 := by omega
    have h80 : (0 : Int) ≤ (x : Int) / 8 := by omega
    have HE : Hid (Mv.mayB m x wr = (decide (m.is (x / 8) = 2) || (decide (m.is (x / 8) = 1) && !wr))) := Hid.intro (by unfold Mv.mayB; rw [if_neg k, Int.toNat_natCast])
    obtain ⟨u, hu⟩ : ∃ u, m.is (x / 8) = u := ⟨_, rfl⟩
    rw [hu] at c1 HE
    clear k h hu
    by_cases e2 : u = 2
    · subst e2
      go_enter Try.func68, Try.ntmps68
      go_wp2_with fail
      go_ret
      exact ⟨ret_bool (by rw [HE.out]; rfl), rfl⟩
    · have e2' : ((u : Int) == 2) = false := by simp; omega
      by_cases e1 : u = 1
      · subst e1
        cases wr
        · go_enter Try.func68, Try.ntmps68
          go_wp2_with fail
          go_ret
          exact ⟨ret_bool (by rw [HE.out]; rfl), rfl⟩
        · go_enter Try.func68, Try.ntmps68
          go_wp2_with fail
          go_ret
          exact ⟨ret_bool (by rw [HE.out]; rfl), rfl⟩
      · have e1' : ((u : Int) == 1) = false := by simp; omega
        go_enter Try.func68, Try.ntmps68
        go_wp2_with fail
        go_ret
        exact ⟨ret_bool (by rw [HE.out, decide_eq_false e2, decide_eq_false e1]; rfl), rfl⟩
set_option maxRecDepth 100000 in
set_option maxHeartbeats 1000000 in
theorem wants_any (b r : Nat) (z : Int) (m : Me) (own : Nat → Bool) (w : World) (h : MAt w b r m own) :
    Calls Try.prog 69 #[.pointer (some ⟨b, 0, none⟩), .int .i64 z] w fun e w' => e = .returned (.bool (Mv.wantsB m z)) ∧ w' = w := by
  have HF := Hid.intro h
  cases hm : Mv.mayB m z false
  · have HE : Hid (Mv.wantsB m z = false ∧ Mv.mayB m z false = false) := Hid.intro ⟨by unfold Mv.wantsB; rw [hm]; rfl, hm⟩
    clear h hm
    go_enter Try.func69, Try.ntmps69
    go_wp2_with fail
    refine (may_any b r z false m own _ HF.out).mono ?_
    rintro e w1 ⟨rfl, hw⟩
    subst w1
    rw [HE.out.2]
    go_wp2_with fail
    go_ret
    exact ⟨ret_bool HE.out.1.symm, rfl⟩
  · have hz : ¬ (z < 0 ∨ 127 < z) := fun c => by unfold Mv.mayB at hm; rw [if_pos c] at hm; cases hm
    obtain ⟨x, rfl⟩ := Int.eq_ofNat_of_zero_le (show 0 ≤ z by omega)
    have c1 := h.cFr (x / 8) (by omega)
    have h8 : (x : Int) / 8 < 16 := by omega
    have h80 : (0 : Int) ≤ (x : Int) / 8 := by omega
    have HE : Hid (Mv.wantsB m x = decide (m.fr (x / 8) = 0) ∧ Mv.mayB m x false = true) := Hid.intro ⟨by unfold Mv.wantsB; rw [hm, Int.toNat_natCast]; rfl, hm⟩
    obtain ⟨u, hu⟩ : ∃ u, m.fr (x / 8) = u := ⟨_, rfl⟩
    rw [hu] at c1 HE
    clear h hm hz hu
    go_enter Try.func69, Try.ntmps69
    go_wp2_with fail
    refine (may_any b r x false m own _ HF.out).mono ?_
    rintro e w1 ⟨rfl, hw⟩
    subst w1
    rw [HE.out.2]
    by_cases e0 : u = 0
    · subst e0
      go_wp2_with fail
      go_ret
      exact ⟨ret_bool (by rw [HE.out.1]; rfl), rfl⟩
    · have e0' : ((u : Int) == 0) = false := by simp; omega
      go_wp2_with fail
      go_ret
      exact ⟨ret_bool (by rw [HE.out.1, decide_eq_false e0]), rfl⟩
end
set_option maxRecDepth 100000 in
set_option maxHeartbeats 1000000 in
theorem lay_any (b r a n : Nat) (wt : Bool) (m : Me) (own : Nat → Bool) (w : World) (h : MAt w b r m own) (hn : a + n ≤ 16) :
    Calls Try.prog 124 #[.pointer (some ⟨b, 0, none⟩), .int .i64 a, .int .i64 n, .bool wt] w fun e w' => e = .returned (.tuple #[]) ∧ MAt w' b r (Mv.layM m a (a + n) wt) own ∧ Frm b w w' := by
  have S0 : Hid (MAt w b r (Mv.layM m a a wt) own ∧ Frm b w w) := Hid.intro ⟨h.congr (fun o ho => by unfold cellM; simp only [Mv.layM_none]; rfl), Frm.refl b w⟩
  have hw : IntKind.i64.wrap ((a : Int) + (n : Int)) = (a : Int) + (n : Int) := IntWalk.i64_in _ ⟨by omega, by omega⟩
  clear h
  go_enter Try.func124, Try.ntmps124
  go_wp2_with fail
  go_loopw [8] (fun i wr => ∃ (k : Nat), i = .int .i64 k ∧ a ≤ k ∧ k ≤ a + n ∧ Hid (MAt wr b r (Mv.layM m a k wt) own ∧ Frm b w wr)) (fun i _ => a + n - (intOf i).toNat)
  case atStart => exact ⟨a, rfl, by omega, by omega, S0⟩
  case round =>
    clear S0
    obtain ⟨k, rfl, hk1, hk2, S⟩ := hrel
    by_cases hlt : k < a + n
    · have hltI : (k : Int) < (a : Int) + (n : Int) := by omega
      have hkI : (k : Int) < 16 := by omega
      have c1 := S.out.1.cIs k (by omega)
      have cf := S.out.1.frozen
      cases wt
      · have S2 : Hid (MAt (wr.setCell ⟨b, 1 + k, none⟩ (.int .i64 1)) b r (Mv.layM m a (k + 1) false) own ∧ Frm b w (wr.setCell ⟨b, 1 + k, none⟩ (.int .i64 1))) := Hid.intro ⟨(S.out.1.setIs k 1 (by omega)).congr (fun o ho => by unfold cellM; simp only [Mv.layM_step hk1]; rfl), S.out.2.setCell _ _⟩
        go_wp2_with fail
        go_roundw
        case rel => exact ⟨k + 1, by go_num, by omega, by omega, S2⟩
        case measure => simp [intOf]; omega
      · have S2 : Hid (MAt ((wr.setCell ⟨b, 1 + k, none⟩ (.int .i64 1)).setCell ⟨b, 1 + k, none⟩ (.int .i64 2)) b r (Mv.layM m a (k + 1) true) own ∧ Frm b w ((wr.setCell ⟨b, 1 + k, none⟩ (.int .i64 1)).setCell ⟨b, 1 + k, none⟩ (.int .i64 2))) := Hid.intro ⟨((S.out.1.setIs k 1 (by omega)).setIs k 2 (by omega)).congr (fun o ho => by
            unfold cellM
            simp only [Mv.layM_step hk1]
            unfold upn
            by_cases c : o - 1 = k
            · simp [c]; rfl
            · simp [c]; rfl), (S.out.2.setCell _ _).setCell _ _⟩
        go_wp2_with fail
        go_roundw
        case rel => exact ⟨k + 1, by go_num, by omega, by omega, S2⟩
        case measure => simp [intOf]; omega
    · have hltI : ¬ (k : Int) < (a : Int) + (n : Int) := by omega
      have hk : k = a + n := by omega
      subst hk
      go_wp2_with fail
      go_end0
      exact ⟨rfl, S.out⟩
end Go.Proofs.Ytnppahmlifnnnab

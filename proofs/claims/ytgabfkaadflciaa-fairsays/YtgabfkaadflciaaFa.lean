/- The walks of wrongTask, wrongGroup, wrongLower, Wake, Freeze, Quota, Now, Ran. -/
import Derived.Test.YtgabfkaadflciaaFo
import Derived.Test.YtgabfkaadflciaaTm
namespace Go.Proofs.Ytgabfkaadflciaa
open Go.RowKit
open Hp (Q)
open Fr (Un M)

/-- An error, by its number (0: none). -/
def errV (k : Int) : Value := if k = 0 then .nilIface else .iface 110 (.int .i64 k)
theorem errV_zero : errV 0 = .nilIface := rfl
theorem errV_ne {k : Int} (h : k ≠ 0) : errV k = .iface 110 (.int .i64 k) := if_neg h

theorem Fair.cHere {w : World} {b : Nat} {m : M} (h : Fair w b m) (u : Nat) (hu : u < 30) : w.cell? ⟨b, 1 + u * 4, none⟩ = some (.bool (m.u u).here) := by obtain ⟨qs, hS, _⟩ := h; exact hS.cHere u hu

set_option maxRecDepth 100000 in
set_option maxHeartbeats 400000 in
theorem wrongGroup_any (b : Nat) (z : Int) (m : M) (w : World) (h : Fair w b m) : Calls Try.prog 151 #[.pointer (some ⟨b, 0, none⟩), .int .i64 z] w fun e w' => e = .returned (errV (Fr.groupE m z)) ∧ w' = w := by
  by_cases k : z < 0 ∨ 10 ≤ z
  · have e : Hid (Fr.groupE m z = 1) := Hid.intro (if_pos k)
    by_cases h0 : z < 0
    · clear h k
      go_enter Try.func151, Try.ntmps151
      go_wp2
      go_ret
      rw [e.out]; exact ⟨rfl, rfl⟩
    · have h1 : decide (z < 0) = false := by simp; omega
      have h2 : 10 ≤ z := by omega
      clear h k h0
      go_enter Try.func151, Try.ntmps151
      go_wp2
      go_ret
      rw [e.out]; exact ⟨rfl, rfl⟩
  · obtain ⟨g, rfl⟩ := Int.eq_ofNat_of_zero_le (show 0 ≤ z by omega)
    have c := h.cHere g (by omega)
    have h1 : (g : Int) < 10 := by omega
    have h2 : ¬ (10 : Int) ≤ (g : Int) := by omega
    cases hh : (m.u g).here
    · have e : Hid (Fr.groupE m g = 2) := Hid.intro (by unfold Fr.groupE; rw [if_neg k, Int.toNat_natCast, hh]; rfl)
      rw [hh] at c
      clear h k hh
      go_enter Try.func151, Try.ntmps151
      go_wp2
      go_ret
      rw [e.out]; exact ⟨rfl, rfl⟩
    · have e : Hid (Fr.groupE m g = 0) := Hid.intro (Fr.groupE_nat (by omega) hh)
      rw [hh] at c
      clear h k hh
      go_enter Try.func151, Try.ntmps151
      go_wp2
      go_ret
      rw [e.out]; exact ⟨rfl, rfl⟩

set_option maxRecDepth 100000 in
set_option maxHeartbeats 400000 in
theorem wrongTask_any (b : Nat) (z : Int) (m : M) (w : World) (h : Fair w b m) : Calls Try.prog 115 #[.pointer (some ⟨b, 0, none⟩), .int .i64 z] w fun e w' => e = .returned (errV (Fr.taskE m z)) ∧ w' = w := by
  by_cases k : z < 0 ∨ 20 ≤ z
  · have e : Hid (Fr.taskE m z = 1) := Hid.intro (if_pos k)
    by_cases h0 : z < 0
    · clear h k
      go_enter Try.func115, Try.ntmps115
      go_wp2
      go_ret
      rw [e.out]; exact ⟨rfl, rfl⟩
    · have h1 : decide (z < 0) = false := by simp; omega
      have h2 : 20 ≤ z := by omega
      clear h k h0
      go_enter Try.func115, Try.ntmps115
      go_wp2
      go_ret
      rw [e.out]; exact ⟨rfl, rfl⟩
  · obtain ⟨g, rfl⟩ := Int.eq_ofNat_of_zero_le (show 0 ≤ z by omega)
    have c := h.cHere (10 + g) (by omega)
    have h1 : (g : Int) < 20 := by omega
    have h2 : ¬ (20 : Int) ≤ (g : Int) := by omega
    cases hh : (m.u (10 + g)).here
    · have e : Hid (Fr.taskE m g = 2) := Hid.intro (by unfold Fr.taskE; rw [if_neg k, Int.toNat_natCast, hh]; rfl)
      rw [hh] at c
      clear h k hh
      go_enter Try.func115, Try.ntmps115
      go_wp2
      go_ret
      rw [e.out]; exact ⟨rfl, rfl⟩
    · have e : Hid (Fr.taskE m g = 0) := Hid.intro (Fr.taskE_nat (by omega) hh)
      rw [hh] at c
      clear h k hh
      go_enter Try.func115, Try.ntmps115
      go_wp2
      go_ret
      rw [e.out]; exact ⟨rfl, rfl⟩

set_option maxRecDepth 100000 in
set_option maxHeartbeats 400000 in
theorem wrongLower_any (b : Nat) (z : Int) (m : M) (w : World) (h : Fair w b m) : Calls Try.prog 121 #[.pointer (some ⟨b, 0, none⟩), .int .i64 z] w fun e w' => e = .returned (errV (Fr.lowerE m z)) ∧ w' = w := by
  have HF : Hid (Fair w b m) := h
  clear h
  by_cases k : Fr.groupE m z = 0
  · have HK : Hid (Fr.groupE m z = 0) := k
    by_cases k0 : z = 0
    · have e : Hid (Fr.lowerE m z = 8) := Hid.intro (by unfold Fr.lowerE; rw [if_pos k, if_pos k0])
      clear k
      subst k0
      go_enter Try.func121, Try.ntmps121
      go_wp2_with fail
      refine (wrongGroup_any b 0 m _ HF.out).mono ?_
      rintro e w1 ⟨rfl, hw⟩
      subst w1
      rw [HK.out, errV_zero]
      go_wp2
      go_ret
      rw [e.out]; exact ⟨rfl, rfl⟩
    · have e : Hid (Fr.lowerE m z = 0) := Hid.intro (by unfold Fr.lowerE; rw [if_pos k, if_neg k0])
      have k1 : (z == 0) = false := by simp; omega
      clear k k0
      go_enter Try.func121, Try.ntmps121
      go_wp2_with fail
      refine (wrongGroup_any b z m _ HF.out).mono ?_
      rintro e w1 ⟨rfl, hw⟩
      subst w1
      rw [HK.out, errV_zero]
      go_wp2
      go_ret
      rw [e.out]; exact ⟨rfl, rfl⟩
  · have e : Hid (Fr.lowerE m z = Fr.groupE m z) := Hid.intro (if_neg k)
    have HW := Hid.intro (errV_ne k)
    clear k
    go_enter Try.func121, Try.ntmps121
    go_wp2_with fail
    refine (wrongGroup_any b z m _ HF.out).mono ?_
    rintro e w1 ⟨rfl, hw⟩
    subst w1
    rw [HW.out]
    go_wp2
    go_ret
    rw [e.out, HW.out]; exact ⟨rfl, rfl⟩

set_option maxRecDepth 100000 in
set_option maxHeartbeats 400000 in
theorem wake_any (b : Nat) (z : Int) (on : Bool) (m : M) (w : World) (h : Fair w b m) (hI : Fr.Inv m) :
    Calls Try.prog 56 #[.pointer (some ⟨b, 0, none⟩), .int .i64 z, .bool on] w fun e w' => e = .returned (errV (Fr.taskE m z)) ∧ ∃ m', Fr.WakeTo m z on m' ∧ Fair w' b m' ∧ Frm b w w' := by
  have HF : Hid (Fair w b m) := h
  have HI : Hid (Fr.Inv m) := hI
  clear h hI
  by_cases k : Fr.taskE m z = 0
  · have HK : Hid (Fr.taskE m z = 0) := k
    obtain ⟨n, rfl, hn, hh⟩ := Fr.taskE_zero k
    have HH : Hid ((m.u (10 + n)).here = true) := hh
    clear k hh
    go_enter Try.func56, Try.ntmps56
    go_wp2_with fail
    refine (wrongTask_any b n m _ HF.out).mono ?_
    rintro e w1 ⟨rfl, hw⟩
    subst w1
    rw [HK.out, errV_zero]
    go_wp2_with fail
    refine (rouse_any b n on m _ HF.out HI.out hn HH.out).mono ?_
    rintro e w1 ⟨rfl, m', l1, f1, r1⟩
    have FIN : Hid (∃ m', Fr.WakeTo m n on m' ∧ Fair w1 b m' ∧ Frm b w w1) := Hid.intro ⟨m', .inl ⟨HK.out, l1⟩, f1, r1⟩
    clear l1 f1 r1
    go_wp2_with fail
    go_ret
    rw [HK.out]; exact ⟨rfl, FIN.out⟩
  · have HW := Hid.intro (errV_ne k)
    have HK : Hid (Fr.taskE m z ≠ 0) := k
    clear k
    go_enter Try.func56, Try.ntmps56
    go_wp2_with fail
    refine (wrongTask_any b z m _ HF.out).mono ?_
    rintro e w1 ⟨rfl, hw⟩
    subst w1
    rw [HW.out]
    go_wp2
    go_ret
    rw [HW.out]; exact ⟨rfl, m, .inr ⟨HK.out, rfl⟩, HF.out, Frm.refl b w⟩

theorem Fair.setFrozen {w : World} {b : Nat} {m : M} (h : Fair w b m) (g : Nat) (x : Bool) (hg : g < 10) : Fair (w.setCell ⟨b, 121 + g * 198 + 194, none⟩ (.bool x)) b (m.set g { m.u g with frozen := x }) := by
  obtain ⟨qs, hS, hC⟩ := h; exact ⟨qs, hS.setFrozen g x hg, hC.set rfl rfl rfl (.inl rfl)⟩
theorem Fair.cFrozen {w : World} {b : Nat} {m : M} (h : Fair w b m) (g : Nat) (hg : g < 10) : w.cell? ⟨b, 121 + g * 198 + 194, none⟩ = some (.bool (m.u g).frozen) := by obtain ⟨qs, hS, _⟩ := h; exact hS.cFrozen g hg
theorem Fair.setQ {w : World} {b : Nat} {m : M} (h : Fair w b m) (g q p : Nat) (hg : g < 10) : Fair (((w.setCell ⟨b, 121 + g * 198 + 195, none⟩ (.int .i64 (q : Int))).setCell ⟨b, 121 + g * 198 + 196, none⟩ (.int .i64 (p : Int))).setCell ⟨b, 121 + g * 198 + 197, none⟩ (.int .i64 0)) b (m.set g { m.u g with quota := q, period := p, used := 0 }) := by
  obtain ⟨qs, hS, hC⟩ := h
  have := ((hS.setQuota g q hg).setPeriod g p hg).setUsed g 0 hg
  simp only [Fr.set_same, Fr.set_set] at this
  exact ⟨qs, this, hC.set rfl rfl rfl (.inl rfl)⟩

set_option maxRecDepth 100000 in
set_option maxHeartbeats 400000 in
theorem freeze_any (b : Nat) (z : Int) (on : Bool) (m : M) (w : World) (h : Fair w b m) (hI : Fr.Inv m) :
    Calls Try.prog 60 #[.pointer (some ⟨b, 0, none⟩), .int .i64 z, .bool on] w fun e w' => e = .returned (errV (Fr.lowerE m z)) ∧ ∃ m', Fr.FreezeTo m z on m' ∧ Fair w' b m' ∧ Frm b w w' := by
  have HF : Hid (Fair w b m) := h
  have HI : Hid (Fr.Inv m) := hI
  clear hI
  by_cases k : Fr.lowerE m z = 0
  · have HK : Hid (Fr.lowerE m z = 0) := k
    obtain ⟨n, rfl, h0, hn, hh⟩ := Fr.lowerE_zero k
    have HH : Hid ((m.u n).here = true) := hh
    have c := h.cFrozen n hn
    have cf := h.frozen
    have hnI : (n : Int) < 10 := by omega
    have HT : Hid (Fr.Turn m n { m.u n with frozen := on }) := Hid.intro (by have t := Fr.Turn.of HI.out (show n < 30 by omega) hh; exact ⟨t.here, t.inn, t.weight, t.floor, t.quo, t.per, t.fl, t.tm⟩)
    clear k hh h
    go_enter Try.func60, Try.ntmps60
    go_wp2_with fail
    refine (wrongLower_any b n m _ HF.out).mono ?_
    rintro e w1 ⟨rfl, hw⟩
    subst w1
    rw [HK.out, errV_zero]
    go_wp2_with fail
    refine (settle_any b n _ _ (HF.out.setFrozen n on hn) (HI.out.turn (by omega) HH.out HT.out) (by omega) (by rw [Fr.set_same]; exact HH.out)).mono ?_
    rintro e w1 ⟨rfl, m', l1, f1, r1⟩
    have FIN : Hid (∃ m', Fr.FreezeTo m n on m' ∧ Fair w1 b m' ∧ Frm b w w1) := Hid.intro ⟨m', .inl ⟨HK.out, l1⟩, f1, ((Frm.refl b w).setCell _ _).trans r1⟩
    clear l1 f1 r1 c cf
    go_wp2_with fail
    go_ret
    rw [HK.out]; exact ⟨rfl, FIN.out⟩
  · have HW := Hid.intro (errV_ne k)
    have HK : Hid (Fr.lowerE m z ≠ 0) := k
    clear k h
    go_enter Try.func60, Try.ntmps60
    go_wp2_with fail
    refine (wrongLower_any b z m _ HF.out).mono ?_
    rintro e w1 ⟨rfl, hw⟩
    subst w1
    rw [HW.out]
    go_wp2
    go_ret
    rw [HW.out]; exact ⟨rfl, m, .inr ⟨HK.out, rfl⟩, HF.out, Frm.refl b w⟩

theorem now_any (b : Nat) (m : M) (w : World) (h : Fair w b m) : Calls Try.prog 52 #[.pointer (some ⟨b, 0, none⟩)] w fun e w' => e = .returned (.int .i64 (m.now : Int)) ∧ w' = w := by
  have c := h.cNow
  clear h
  go_enter Try.func52, Try.ntmps52
  go_wp2
  go_ret
  exact ⟨rfl, rfl⟩

/-- In how many ticks a task ran. -/
def ranI (m : M) (z : Int) : Int := if Fr.taskE m z = 0 then ((m.u (10 + z.toNat)).ran : Int) else 0
set_option maxRecDepth 100000 in
set_option maxHeartbeats 400000 in
theorem ran_any (b : Nat) (z : Int) (m : M) (w : World) (h : Fair w b m) : Calls Try.prog 53 #[.pointer (some ⟨b, 0, none⟩), .int .i64 z] w fun e w' => e = .returned (.tuple #[.int .i64 (ranI m z), errV (Fr.taskE m z)]) ∧ w' = w := by
  have HF : Hid (Fair w b m) := h
  by_cases k : Fr.taskE m z = 0
  · have HK : Hid (Fr.taskE m z = 0) := k
    have HR : Hid (ranI m z = ((m.u (10 + z.toNat)).ran : Int)) := Hid.intro (if_pos k)
    obtain ⟨n, rfl, hn, hh⟩ := Fr.taskE_zero k
    have c := h.ran hn
    have hnI : (n : Int) < 20 := by omega
    clear k hh h
    go_enter Try.func53, Try.ntmps53
    go_wp2_with fail
    refine (wrongTask_any b n m _ HF.out).mono ?_
    rintro e w1 ⟨rfl, hw⟩
    subst w1
    rw [HK.out, errV_zero]
    go_wp2
    go_ret2
    rw [HK.out, HR.out]; exact ⟨rfl, rfl⟩
  · have HW := Hid.intro (errV_ne k)
    have HR : Hid (ranI m z = 0) := Hid.intro (if_neg k)
    clear k h
    go_enter Try.func53, Try.ntmps53
    go_wp2_with fail
    refine (wrongTask_any b z m _ HF.out).mono ?_
    rintro e w1 ⟨rfl, hw⟩
    subst w1
    rw [HW.out]
    go_wp2
    go_ret2
    rw [HW.out, HR.out]; exact ⟨rfl, rfl⟩

end Go.Proofs.Ytgabfkaadflciaa

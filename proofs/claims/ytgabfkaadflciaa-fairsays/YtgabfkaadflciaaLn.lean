/- The walk of line. -/
import Derived.Test.YtgabfkaadflciaaFl
import Derived.BigRegion
namespace Go.Proofs.Ytgabfkaadflciaa
open Go.RowKit
open Hp (Q)
open Fr (Un M)

theorem max_if (T L : Nat) : (if T < L then (L : Int) else (T : Int)) = ((max T L : Nat) : Int) := by
  by_cases h : T < L
  · rw [if_pos h, Nat.max_eq_right (by omega)]
  · rw [if_neg h, Nat.max_eq_left (by omega)]
attribute [local go_sem] max_if

set_option maxRecDepth 100000 in
set_option maxHeartbeats 1000000 in
theorem line_keep (b u g : Nat) (m : M) (w : World) (h : Fair w b m) (hI : InG m u g) (hr : Fr.ready m u = (m.u u).was) :
    Calls Try.prog 158 #[.pointer (some ⟨b, 0, none⟩), .int .i64 u] w fun e w' => e = .returned (.tuple #[]) ∧ ∃ n, w' = w.drewN n := by
  obtain ⟨qs, hS, hC⟩ := h
  have c1 := hS.cIn u hI.lt
  rw [hI.inn] at c1
  have l1 : (u : Int) < 30 := by have := hI.lt; omega
  have l2 : (g : Int) < 10 := by have := hI.glt; omega
  have HS : Hid (SAt w b m qs) := hS
  have HC : Hid (Cpl m qs) := hC
  have HI : Hid (InG m u g) := hI
  have HF : Hid (Fair w b m) := Hid.intro ⟨qs, hS, hC⟩
  have HR : Hid (Fr.ready m u = (m.u u).was) := hr
  clear hS hC hI hr
  cases hw : (m.u u).was
  · have HW : Hid ((m.u u).was = false) := hw
    have HR2 : Hid (Fr.ready m u = false) := Hid.intro (HR.out.trans hw)
    clear hw
    go_enter Try.func158, Try.ntmps158
    go_wp2
    go_quiet (fail)
    go_wp2_with fail
    refine (key_not b u g m qs _ (HS.out.drewN _) HC.out HI.out HW.out).mono ?_
    rintro e w1 ⟨rfl, hw1⟩
    have HX : Hid (∃ k, w1 = w.drewN k) := Hid.intro ⟨_, hw1⟩
    have HF1 : Hid (Fair w1 b m) := Hid.intro (by rw [hw1]; exact HF.out.drewN _)
    have HS1 : Hid (SAt w1 b m qs) := Hid.intro (by rw [hw1]; exact HS.out.drewN _)
    clear hw1
    go_wp2_with fail
    go_quiet ((go_at_call 171; exact Calls.quiet_of (ready_any b u m _ (HF1.out.drewN _) HI.out.lt)))
    rw [HR2.out]
    go_wp2_with fail
    go_end0
    obtain ⟨k, hk⟩ := HX.out
    rw [hk, World.drewN_drewN]
    exact ⟨rfl, _, rfl⟩
  · have HW : Hid ((m.u u).was = true) := hw
    have HR2 : Hid (Fr.ready m u = true) := Hid.intro (HR.out.trans hw)
    clear hw
    go_enter Try.func158, Try.ntmps158
    go_wp2
    go_quiet (fail)
    go_wp2_with fail
    refine (key_is b u g m qs _ (HS.out.drewN _) HC.out HI.out HW.out).mono ?_
    rintro e w1 ⟨rfl, hw1⟩
    have HX : Hid (∃ k, w1 = w.drewN k) := Hid.intro ⟨_, hw1⟩
    have HF1 : Hid (Fair w1 b m) := Hid.intro (by rw [hw1]; exact HF.out.drewN _)
    have HS1 : Hid (SAt w1 b m qs) := Hid.intro (by rw [hw1]; exact HS.out.drewN _)
    clear hw1
    go_wp2_with fail
    go_quiet ((go_at_call 171; exact Calls.quiet_of (ready_any b u m _ (HF1.out.drewN _) HI.out.lt)))
    rw [HR2.out]
    go_wp2_with fail
    go_end0
    obtain ⟨k, hk⟩ := HX.out
    rw [hk, World.drewN_drewN]
    exact ⟨rfl, _, rfl⟩

set_option maxRecDepth 100000 in
set_option maxHeartbeats 1000000 in
theorem line_off (b u g : Nat) (m : M) (w : World) (h : Fair w b m) (hI : InG m u g) (hr : Fr.ready m u = false) (hw : (m.u u).was = true) :
    Calls Try.prog 158 #[.pointer (some ⟨b, 0, none⟩), .int .i64 u] w fun e w' => e = .returned (.tuple #[]) ∧ Fair w' b (Fr.setWas m u false) ∧ Frm b w w' := by
  obtain ⟨qs, hS, hC⟩ := h
  have c1 := hS.cIn u hI.lt
  rw [hI.inn] at c1
  have l1 : (u : Int) < 30 := by have := hI.lt; omega
  have l2 : (g : Int) < 10 := by have := hI.glt; omega
  have HS : Hid (SAt w b m qs) := hS
  have HC : Hid (Cpl m qs) := hC
  have HI : Hid (InG m u g) := hI
  have HF : Hid (Fair w b m) := Hid.intro ⟨qs, hS, hC⟩
  have HR : Hid (Fr.ready m u = false) := hr
  have HW : Hid ((m.u u).was = true) := hw
  clear hS hC hI hr hw
  go_enter Try.func158, Try.ntmps158
  go_wp2
  go_quiet (fail)
  go_wp2_with fail
  refine (key_is b u g m qs _ (HS.out.drewN _) HC.out HI.out HW.out).mono ?_
  rintro e w1 ⟨rfl, hw1⟩
  have HX : Hid (∃ k, w1 = w.drewN k) := Hid.intro ⟨_, hw1⟩
  have HF1 : Hid (Fair w1 b m) := Hid.intro (by rw [hw1]; exact HF.out.drewN _)
  have HS1 : Hid (SAt w1 b m qs) := Hid.intro (by rw [hw1]; exact HS.out.drewN _)
  clear hw1
  go_wp2_with fail
  go_quiet ((go_at_call 171; exact Calls.quiet_of (ready_any b u m _ (HF1.out.drewN _) HI.out.lt)))
  rw [HR.out]
  go_wp2_with fail
  refine (cut_has b (121 + g * 198) u (qs g) _ ⟨(HS1.out.drewN _).at_ g HI.out.glt, (HC.out.ok g HI.out.glt).1, (HC.out.ok g HI.out.glt).2⟩ (by omega) (place_yes HC.out HI.out HW.out)).mono ?_
  rintro e w2 ⟨rfl, o2, q2, g2, m2, k2, h2⟩
  have FIN : Hid (Fair w2 b (Fr.setWas m u false) ∧ Frm b w w2) := Hid.intro
    ⟨⟨_, (((HS1.out.drewN _).queue HI.out.glt o2 g2.at_).setWas u false), HC.out.cut HI.out.pos HI.out.glt HI.out.here HI.out.inn ⟨g2.ok, g2.full⟩ k2 h2⟩, (by obtain ⟨k, hk⟩ := HX.out; rw [hk] at o2; exact (((Frm.refl b w).drewN _).drewN _).trans o2.frm)⟩
  clear o2 g2 m2 k2 h2
  go_wp2_with fail
  go_end0
  exact ⟨rfl, FIN.out⟩

set_option maxRecDepth 100000 in
set_option maxHeartbeats 1000000 in
theorem line_on (b u g : Nat) (m : M) (w : World) (h : Fair w b m) (hI : InG m u g) (hr : Fr.ready m u = true) (hw : (m.u u).was = false) :
    Calls Try.prog 158 #[.pointer (some ⟨b, 0, none⟩), .int .i64 u] w fun e w' => e = .returned (.tuple #[]) ∧ Fair w' b (Fr.setWas (m.set u { m.u u with time := max (m.u u).time (m.u g).floor }) u true) ∧ Frm b w w' := by
  obtain ⟨qs, hS, hC⟩ := h
  have c1 := hS.cIn u hI.lt
  rw [hI.inn] at c1
  have l1 : (u : Int) < 30 := by have := hI.lt; omega
  have l2 : (g : Int) < 10 := by have := hI.glt; omega
  have HS : Hid (SAt w b m qs) := hS
  have HC : Hid (Cpl m qs) := hC
  have HI : Hid (InG m u g) := hI
  have HF : Hid (Fair w b m) := Hid.intro ⟨qs, hS, hC⟩
  have HR : Hid (Fr.ready m u = true) := hr
  have HW : Hid ((m.u u).was = false) := hw
  clear hS hC hI hr hw
  go_enter Try.func158, Try.ntmps158
  go_wp2
  go_quiet (fail)
  go_wp2_with fail
  refine (key_not b u g m qs _ (HS.out.drewN _) HC.out HI.out HW.out).mono ?_
  rintro e w1 ⟨rfl, hw1⟩
  have HX : Hid (∃ k, w1 = w.drewN k) := Hid.intro ⟨_, hw1⟩
  have HF1 : Hid (Fair w1 b m) := Hid.intro (by rw [hw1]; exact HF.out.drewN _)
  have HS1 : Hid (SAt w1 b m qs) := Hid.intro (by rw [hw1]; exact HS.out.drewN _)
  clear hw1
  go_wp2_with fail
  go_quiet ((go_at_call 171; exact Calls.quiet_of (ready_any b u m _ (HF1.out.drewN _) HI.out.lt)))
  rw [HR.out]
  go_wp2_with fail
  refine wp_gen (fun W => SAt W b m qs ∧ Frm b w W) ⟨HS1.out.drewN _, by obtain ⟨k, hk⟩ := HX.out; rw [hk]; exact ((Frm.refl b w).drewN _).drewN _⟩ ?_
  clear HX HF1 HS1 HS HF c1
  rintro W ⟨hS, hF⟩
  have c2 := hS.cTime u HI.out.lt
  have c3 := hS.cFloor g HI.out.glt
  have cf := hS.frozen
  have HS : Hid (SAt W b m qs) := hS
  have HF : Hid (Frm b w W) := hF
  clear hS hF
  obtain ⟨T, hT⟩ : ∃ T, (m.u u).time = T := ⟨_, rfl⟩
  obtain ⟨L, hL⟩ : ∃ L, (m.u g).floor = L := ⟨_, rfl⟩
  rw [hT] at c2
  rw [hL] at c3
  have HT : Hid ((m.u u).time = T ∧ (m.u g).floor = L) := Hid.intro ⟨hT, hL⟩
  clear hT hL
  go_region
  go_wp2_with fail
  refine wp_gen (fun W2 => SAt W2 b (m.set u { m.u u with time := max T L }) qs ∧ Frm b w W2) ⟨(HS.out.setTime u (max T L) HI.out.lt).drew, (HF.out.setCell _ _).drew⟩ ?_
  clear c2 c3 cf HS HF
  rintro W2 ⟨hS, hF⟩
  have c2 : W2.cell? ⟨b, 1 + u * 4 + 3, none⟩ = some (.int .u64 ((max T L : Nat) : Int)) := by have := hS.cTime u HI.out.lt; rw [Fr.set_same] at this; exact this
  have HS : Hid (SAt W2 b (m.set u { m.u u with time := max T L }) qs) := hS
  have HF : Hid (Frm b w W2) := hF
  have HC2 : Hid (Cpl (m.set u { m.u u with time := max T L }) qs) := HC.out.set rfl rfl rfl (.inr HW.out)
  have HI2 : Hid (InG (m.set u { m.u u with time := max T L }) u g) := ⟨HI.out.pos, HI.out.lt, by rw [Fr.set_same]; exact HI.out.here, HI.out.glt, by rw [Fr.set_same]; exact HI.out.inn⟩
  have HW2 : Hid (((m.set u { m.u u with time := max T L }).u u).was = false) := Hid.intro (by rw [Fr.set_same]; exact HW.out)
  have HT2 : Hid (((m.set u { m.u u with time := max T L }).u u).time = max T L) := Hid.intro (by rw [Fr.set_same])
  have HE : Hid (m.set u { m.u u with time := max (m.u u).time (m.u g).floor } = m.set u { m.u u with time := max T L }) := Hid.intro (by rw [HT.out.1, HT.out.2])
  clear hS hF HC HI HW HT
  generalize m.set u { m.u u with time := max T L } = m2 at *
  generalize max T L = TL at *
  go_region_held3 (fun w' => w'.cell? ⟨b, 1 + u * 4 + 3, none⟩ = some (.int .u64 (TL : Int))) (go_keep) ((go_at_call 16; refine (put_new b (121 + g * 198) u TL (qs g) _ ⟨HS.out.drew.at_ g HI2.out.glt, (HC2.out.ok g HI2.out.glt).1, (HC2.out.ok g HI2.out.glt).2⟩ (by omega) (place_no HC2.out HI2.out HW2.out)).mono ?_; rintro e w5 ⟨rfl, o5, q5, g5, m5, k5, h5⟩; have FIN : Hid (Fair w5 b (Fr.setWas m2 u true) ∧ Frm b w w5) := Hid.intro ⟨⟨_, ((HS.out.drew.queue HI2.out.glt o5 g5.at_).setWas u true), HC2.out.put HI2.out.pos HI2.out.lt HI2.out.glt HI2.out.here HI2.out.inn ⟨g5.ok, g5.full⟩ (by rw [HT2.out]; exact k5) h5⟩, HF.out.drew.trans o5.frm⟩; have c5 : w5.cell? ⟨b, 1 + u * 4 + 3, none⟩ = some (.int .u64 (TL : Int)) := (by have hx := HT2.out; obtain ⟨⟨q9, s9, _⟩, _⟩ := FIN.out; have := s9.cTime u HI2.out.lt; unfold Fr.setWas at this; rw [Fr.set_same] at this; rw [← hx]; exact this); clear o5 g5 m5 k5 h5))
  go_wp2_with fail
  go_end0
  rw [HE.out]
  exact ⟨rfl, FIN.out⟩

theorem line_any (b u g : Nat) (m : M) (w : World) (h : Fair w b m) (hI : InG m u g) :
    Calls Try.prog 158 #[.pointer (some ⟨b, 0, none⟩), .int .i64 u] w fun e w' => e = .returned (.tuple #[]) ∧ Fair w' b (Fr.line m u) ∧ Frm b w w' := by
  by_cases k : Fr.ready m u = (m.u u).was
  · rw [Fr.line_same k]
    exact (line_keep b u g m w h hI k).mono fun e w' ⟨h1, n, h2⟩ => ⟨h1, by rw [h2]; exact h.drewN n, by rw [h2]; exact (Frm.refl b w).drewN n⟩
  · cases hr : Fr.ready m u
    · have hw : (m.u u).was = true := by
        cases hw : (m.u u).was
        · rw [hr, hw] at k; exact absurd rfl k
        · rfl
      rw [Fr.line_out hr]
      exact line_off b u g m w h hI hr hw
    · have hw : (m.u u).was = false := by
        cases hw : (m.u u).was
        · rfl
        · rw [hr, hw] at k; exact absurd rfl k
      rw [Fr.line_in hr hw, hI.grp]
      exact line_on b u g m w h hI hr hw

end Go.Proofs.Ytgabfkaadflciaa

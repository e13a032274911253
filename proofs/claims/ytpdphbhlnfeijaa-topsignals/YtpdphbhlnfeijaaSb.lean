/- The code's box: Send, Hold, How, Waits. -/
import Derived.Test.YtpdphbhlnfeijaaSa
import Derived.Deep.CutRange
import Derived.Deep.CutBlock
import Derived.Deep.DeepCutAuto
namespace Go.Proofs.Ytpdphbhlnfeijaa
open Go.RowKit
open Sg (S1)

/-- A signal that is one: where it lies. -/
theorem Sg.at_ok {z : Int} (h1 : 1 ≤ z) (h2 : z ≤ 8) : ∃ i : Nat, i < 8 ∧ z.toNat = i + 1 ∧ z.toNat - 1 = i := ⟨z.toNat - 1, by omega, by omega, rfl⟩
set_option maxRecDepth 100000 in
set_option maxHeartbeats 400000 in
theorem send_any (b : Nat) (z : Int) (X : Nat → S1) (w : World) (h : CX w b X) :
    Calls Try.prog 8 #[.pointer (some ⟨b, 0, none⟩), .int .i64 z] w fun e w' => e = .returned (errV (Sg.isE z)) ∧ CX w' b (Sg.senF X z) ∧ Frm b w w' := by
  have HF := Hid.intro h
  by_cases c : z < 1 ∨ 8 < z
  · have E : Hid (Sg.isE z = 1 ∧ Sg.senF X z = X) := Hid.intro ⟨Sg.isE_no c, if_neg (by rw [Sg.isE_no c]; decide)⟩
    have C := Hid.intro c
    clear c h
    go_enter Try.func8, Try.ntmps8
    go_wp2_with fail
    refine (sig_no b z _ C.out).mono ?_
    rintro e w1 ⟨rfl, hw1⟩
    subst w1
    go_wp2_with fail
    go_ret
    rw [E.out.1, E.out.2]
    exact ⟨rfl, HF.out, Frm.refl _ _⟩
  · have z1 : 1 ≤ z := by omega
    have z8 : z ≤ 8 := by omega
    obtain ⟨i, hi, hz, hz'⟩ := Sg.at_ok z1 z8
    have c2 := h.hw i hi
    have fz := h.frozen (i * 3)
    have is := h.wt i hi
    have E : Hid (Sg.isE z = 0 ∧ Sg.senF X z = Sg.put X (i + 1) ⟨!Sg.ign z (X (i + 1)).hw, (X (i + 1)).hd, (X (i + 1)).hw⟩) := Hid.intro ⟨Sg.isE_ok z1 z8, by unfold Sg.senF; rw [if_pos (Sg.isE_ok z1 z8), hz]⟩
    have SG : Hid (∀ W, Calls Try.prog 20 #[.pointer (some ⟨b, 0, none⟩), .int .i64 z] W fun e w' => e = .returned (.tuple #[.pointer (some ⟨b, i * 3, none⟩), .nilIface]) ∧ w' = W) := Hid.intro (fun W => by
      have := sig_ok b z W z1 z8
      rw [hz'] at this
      exact this)
    obtain ⟨K, hK⟩ : ∃ K, (X (i + 1)).hw = K := ⟨_, rfl⟩
    rw [hK] at c2
    have HK := Hid.intro hK
    clear c h z1 z8 hz hz' hK
    go_enter Try.func8, Try.ntmps8
    go_wp2_with fail
    refine (SG.out _).mono ?_
    rintro e w1 ⟨rfl, hw1⟩
    subst w1
    go_wp2_with fail
    refine (ign_any b (i * 3) z K _ c2).mono ?_
    rintro e w1 ⟨rfl, hw1⟩
    subst w1
    go_wp2_with fail
    go_ret
    rw [E.out.1, E.out.2]
    refine ⟨rfl, ?_, (Frm.refl _ _).setCell _ _⟩
    have := HF.out.setW i hi (!Sg.ign z (X (i + 1)).hw)
    rw [HK.out] at this ⊢
    exact this
set_option maxRecDepth 100000 in
set_option maxHeartbeats 400000 in
theorem hold_any (b : Nat) (z : Int) (on : Bool) (X : Nat → S1) (w : World) (h : CX w b X) :
    Calls Try.prog 10 #[.pointer (some ⟨b, 0, none⟩), .int .i64 z, .bool on] w fun e w' => e = .returned (errV (Sg.holE z)) ∧ CX w' b (Sg.holF X z on) ∧ Frm b w w' := by
  have HF := Hid.intro h
  by_cases c : z < 1 ∨ 8 < z
  · have e0 : Sg.holE z = 1 := by unfold Sg.holE; rw [Sg.isE_no c]; rfl
    have E : Hid (Sg.holE z = 1 ∧ Sg.holF X z on = X) := Hid.intro ⟨e0, if_neg (by rw [e0]; decide)⟩
    have C := Hid.intro c
    clear c h e0
    go_enter Try.func10, Try.ntmps10
    go_wp2_with fail
    refine (sig_no b z _ C.out).mono ?_
    rintro e w1 ⟨rfl, hw1⟩
    subst w1
    go_wp2_with fail
    go_ret
    rw [E.out.1, E.out.2]
    exact ⟨rfl, HF.out, Frm.refl _ _⟩
  · have z1 : 1 ≤ z := by omega
    have z8 : z ≤ 8 := by omega
    obtain ⟨i, hi, hz, hz'⟩ := Sg.at_ok z1 z8
    have fz := h.frozen (i * 3 + 1)
    have is := h.hd i hi
    have SG : Hid (∀ W, Calls Try.prog 20 #[.pointer (some ⟨b, 0, none⟩), .int .i64 z] W fun e w' => e = .returned (.tuple #[.pointer (some ⟨b, i * 3, none⟩), .nilIface]) ∧ w' = W) := Hid.intro (fun W => by
      have := sig_ok b z W z1 z8
      rw [hz'] at this
      exact this)
    by_cases k1 : z = 1
    · have e0 : Sg.holE z = 8 := by unfold Sg.holE; rw [Sg.isE_ok z1 z8, if_neg (fun d => d rfl), if_pos k1]
      have E : Hid (Sg.holE z = 8 ∧ Sg.holF X z on = X) := Hid.intro ⟨e0, if_neg (by rw [e0]; decide)⟩
      have k1' : (z == 1) = true := by simp [k1]
      clear c h z1 z8 hz hz' k1 e0
      go_enter Try.func10, Try.ntmps10
      go_wp2_with fail
      refine (SG.out _).mono ?_
      rintro e w1 ⟨rfl, hw1⟩
      subst w1
      go_wp2_with fail
      go_ret
      rw [E.out.1, E.out.2]
      exact ⟨rfl, HF.out, Frm.refl _ _⟩
    · have e0 : Sg.holE z = 0 := by unfold Sg.holE; rw [Sg.isE_ok z1 z8, if_neg (fun d => d rfl), if_neg k1]
      have E : Hid (Sg.holE z = 0 ∧ Sg.holF X z on = Sg.put X (i + 1) ⟨(X (i + 1)).wt, on, (X (i + 1)).hw⟩) := Hid.intro ⟨e0, by unfold Sg.holF; rw [if_pos e0, hz]⟩
      have k1' : (z == 1) = false := by simp [k1]
      clear c h z1 z8 hz hz' k1 e0
      go_enter Try.func10, Try.ntmps10
      go_wp2_with fail
      refine (SG.out _).mono ?_
      rintro e w1 ⟨rfl, hw1⟩
      subst w1
      go_wp2_with fail
      go_ret
      rw [E.out.1, E.out.2]
      exact ⟨rfl, HF.out.setH i hi on, (Frm.refl _ _).setCell _ _⟩
set_option maxRecDepth 100000 in
set_option maxHeartbeats 400000 in
theorem how_no (b : Nat) (z k : Int) (X : Nat → S1) (w : World) (h : CX w b X) (E0 : Sg.howE z k ≠ 0) :
    Calls Try.prog 12 #[.pointer (some ⟨b, 0, none⟩), .int .i64 z, .int .i64 k] w fun e w' => e = .returned (errV (Sg.howE z k)) ∧ CX w' b (Sg.howF X z k) ∧ Frm b w w' := by
  have HF := Hid.intro h
  have EF : Hid (Sg.howF X z k = X) := Hid.intro (if_neg E0)
  have N0 := Hid.intro E0
  clear E0
  by_cases c : z < 1 ∨ 8 < z
  · have e0 : Hid (Sg.howE z k = 1) := Hid.intro (by unfold Sg.howE; rw [Sg.isE_no c]; rfl)
    have C := Hid.intro c
    clear c h
    go_enter Try.func12, Try.ntmps12
    go_wp2_with fail
    refine (sig_no b z _ C.out).mono ?_
    rintro e w1 ⟨rfl, hw1⟩
    subst w1
    go_wp2_with fail
    go_ret
    rw [e0.out, EF.out]
    exact ⟨rfl, HF.out, Frm.refl _ _⟩
  · have z1 : 1 ≤ z := by omega
    have z8 : z ≤ 8 := by omega
    obtain ⟨i, hi, hz, hz'⟩ := Sg.at_ok z1 z8
    have SG : Hid (∀ W, Calls Try.prog 20 #[.pointer (some ⟨b, 0, none⟩), .int .i64 z] W fun e w' => e = .returned (.tuple #[.pointer (some ⟨b, i * 3, none⟩), .nilIface]) ∧ w' = W) := Hid.intro (fun W => by
      have := sig_ok b z W z1 z8
      rw [hz'] at this
      exact this)
    by_cases d : k < 0 ∨ 2 < k
    · have e0 : Hid (Sg.howE z k = 1) := Hid.intro (by unfold Sg.howE; rw [Sg.isE_ok z1 z8, if_neg (fun d => d rfl), if_pos d])
      have d0 : (k != 0) = true := by simp; omega
      have d1 : (k != 1) = true := by simp; omega
      have d2 : (k != 2) = true := by simp; omega
      have n0 : ¬ k = 0 := by omega
      have n1 : ¬ k = 1 := by omega
      have n2 : ¬ k = 2 := by omega
      clear c h z1 z8 hz hz' d
      go_enter Try.func12, Try.ntmps12
      go_wp2_with fail
      refine (SG.out _).mono ?_
      rintro e w1 ⟨rfl, hw1⟩
      subst w1
      go_wp2_with fail
      go_ret
      rw [e0.out, EF.out]
      exact ⟨rfl, HF.out, Frm.refl _ _⟩
    · by_cases k1 : z = 1
      · have e0 : Hid (Sg.howE z k = 8) := Hid.intro (by unfold Sg.howE; rw [Sg.isE_ok z1 z8, if_neg (fun d => d rfl), if_neg d, if_pos k1])
        have k1' : (z == 1) = true := by simp [k1]
        have kk : k = 0 ∨ k = 1 ∨ k = 2 := by omega
        clear c h z1 z8 hz hz' k1 d
        rcases kk with rfl | rfl | rfl
        all_goals
          go_enter Try.func12, Try.ntmps12
          go_wp2_with fail
          refine (SG.out _).mono ?_
          rintro e w1 ⟨rfl, hw1⟩
          subst w1
          go_wp2_with fail
          go_ret
          rw [e0.out, EF.out]
          exact ⟨rfl, HF.out, Frm.refl _ _⟩
      · exact absurd (show Sg.howE z k = 0 by unfold Sg.howE; rw [Sg.isE_ok z1 z8, if_neg (fun d => d rfl), if_neg d, if_neg k1]) N0.out
set_option maxRecDepth 100000 in
set_option maxHeartbeats 400000 in
theorem how_yes (b : Nat) (z k : Int) (X : Nat → S1) (w : World) (h : CX w b X) (E0 : Sg.howE z k = 0) :
    Calls Try.prog 12 #[.pointer (some ⟨b, 0, none⟩), .int .i64 z, .int .i64 k] w fun e w' => e = .returned (errV (Sg.howE z k)) ∧ CX w' b (Sg.howF X z k) ∧ Frm b w w' := by
  have HF := Hid.intro h
  obtain ⟨z1, z8, k0, k2⟩ := Sg.howE_0 E0
  obtain ⟨i, hi, hz, hz'⟩ := Sg.at_ok (show 1 ≤ z by omega) z8
  have E : Hid (Sg.howE z k = 0 ∧ Sg.howF X z k = Sg.put X (i + 1) ⟨(X (i + 1)).wt && !Sg.ign z k, (X (i + 1)).hd, k⟩) := Hid.intro ⟨E0, by unfold Sg.howF; rw [if_pos E0, hz]⟩
  have SG : Hid (∀ W, Calls Try.prog 20 #[.pointer (some ⟨b, 0, none⟩), .int .i64 z] W fun e w' => e = .returned (.tuple #[.pointer (some ⟨b, i * 3, none⟩), .nilIface]) ∧ w' = W) := Hid.intro (fun W => by
    have := sig_ok b z W (by omega) z8
    rw [hz'] at this
    exact this)
  have fz := h.frozen (i * 3 + 2)
  have is := h.hw i hi
  have k1' : (z == 1) = false := by simp; omega
  have kk : k = 0 ∨ k = 1 ∨ k = 2 := by omega
  obtain ⟨Y, hY⟩ : ∃ Y, Sg.put X (i + 1) ⟨(X (i + 1)).wt, (X (i + 1)).hd, k⟩ = Y := ⟨_, rfl⟩
  have S1 := Hid.intro (h.setK i hi k)
  rw [hY] at S1
  have F1 : Hid (Frm b w (w.setCell ⟨b, i * 3 + 2, none⟩ (.int .i64 k))) := Hid.intro ((Frm.refl _ _).setCell _ _)
  clear h z1 z8 hz hz' k0 k2 E0
  have FIN : Hid (∀ W, CX W b Y → Sg.ign z k = true → CX (W.setCell ⟨b, i * 3, none⟩ (.bool false)) b (Sg.howF X z k)) := Hid.intro (fun W hW hg => by
    have := hW.setW i hi false
    rw [← hY, Sg.put_same, Sg.put_put] at this
    rw [E.out.2, hg, Bool.not_true, Bool.and_false]
    exact this)
  have FI2 : Hid (∀ W, CX W b Y → Sg.ign z k = false → CX W b (Sg.howF X z k)) := Hid.intro (fun W hW hg => by
    rw [E.out.2, hg, Bool.not_false, Bool.and_true, hY]
    exact hW)
  have IG : Hid (∀ W, CX W b Y → W.cell? ⟨b, i * 3 + 2, none⟩ = some (.int .i64 k)) := Hid.intro (fun W hW => by
    have := hW.hw i hi
    rw [← hY, Sg.put_same] at this
    exact this)
  clear hY
  obtain ⟨G, hG⟩ : ∃ G, Sg.ign z k = G := ⟨_, rfl⟩
  have HG := Hid.intro hG
  clear hG
  rcases kk with rfl | rfl | rfl
  all_goals
    go_enter Try.func12, Try.ntmps12
    go_wp2_with fail
    refine (SG.out _).mono ?_
    rintro e w1 ⟨rfl, hw1⟩
    subst w1
    go_upto_region 9 with fail
    refine wp_gen (fun W' => CX W' b Y ∧ Frm b w W') ⟨S1.out, F1.out⟩ ?_
    rintro W1 ⟨f1, g1⟩
    have P1 := Hid.intro f1
    have G1 := Hid.intro g1
    have fy := f1.frozen (i * 3)
    have iy := f1.wt i hi
    clear f1 g1 fz is
    go_wp2_with fail
    refine (ign_any b (i * 3) z _ _ (IG.out _ P1.out)).mono ?_
    rintro e w1 ⟨rfl, hw1⟩
    subst w1
    rw [HG.out]
    cases G
    · go_wp2_with fail
      go_ret
      rw [E.out.1]
      exact ⟨rfl, FI2.out _ P1.out HG.out, G1.out⟩
    · go_wp2_with fail
      go_ret
      rw [E.out.1]
      exact ⟨rfl, FIN.out _ P1.out HG.out, G1.out.setCell _ _⟩
theorem how_any (b : Nat) (z k : Int) (X : Nat → S1) (w : World) (h : CX w b X) :
    Calls Try.prog 12 #[.pointer (some ⟨b, 0, none⟩), .int .i64 z, .int .i64 k] w fun e w' => e = .returned (errV (Sg.howE z k)) ∧ CX w' b (Sg.howF X z k) ∧ Frm b w w' := by
  by_cases c : Sg.howE z k = 0
  · exact how_yes b z k X w h c
  · exact how_no b z k X w h c
/-- Does it wait? -/
def Sg.waiB (X : Nat → S1) (z : Int) : Bool := if Sg.isE z = 0 then (X z.toNat).wt else false
set_option maxRecDepth 100000 in
set_option maxHeartbeats 400000 in
theorem waits_any (b : Nat) (z : Int) (X : Nat → S1) (w : World) (h : CX w b X) :
    Calls Try.prog 19 #[.pointer (some ⟨b, 0, none⟩), .int .i64 z] w fun e w' => e = .returned (.bool (Sg.waiB X z)) ∧ w' = w := by
  by_cases c : z < 1 ∨ 8 < z
  · have E : Hid (Sg.waiB X z = false) := Hid.intro (if_neg (by rw [Sg.isE_no c]; decide))
    have C := Hid.intro c
    rw [E.out]
    clear c h
    go_enter Try.func19, Try.ntmps19
    go_wp2_with fail
    refine (sig_no b z _ C.out).mono ?_
    rintro e w1 ⟨rfl, hw1⟩
    subst w1
    go_wp2_with fail
    go_ret
    exact ⟨rfl, rfl⟩
  · have z1 : 1 ≤ z := by omega
    have z8 : z ≤ 8 := by omega
    obtain ⟨i, hi, hz, hz'⟩ := Sg.at_ok z1 z8
    have c0 := h.wt i hi
    have E : Sg.waiB X z = (X (i + 1)).wt := by unfold Sg.waiB; rw [if_pos (Sg.isE_ok z1 z8), hz]
    rw [E]
    have SG : Hid (∀ W, Calls Try.prog 20 #[.pointer (some ⟨b, 0, none⟩), .int .i64 z] W fun e w' => e = .returned (.tuple #[.pointer (some ⟨b, i * 3, none⟩), .nilIface]) ∧ w' = W) := Hid.intro (fun W => by
      have := sig_ok b z W z1 z8
      rw [hz'] at this
      exact this)
    generalize (X (i + 1)).wt = v at c0 ⊢
    clear c h z1 z8 hz hz' E
    go_enter Try.func19, Try.ntmps19
    go_wp2_with fail
    refine (SG.out _).mono ?_
    rintro e w1 ⟨rfl, hw1⟩
    subst w1
    go_wp2_with fail
    go_ret
    exact ⟨rfl, rfl⟩
end Go.Proofs.Ytpdphbhlnfeijaa

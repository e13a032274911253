/- The document's own box: Does, First, Take. -/
import Derived.Test.YtpdphbhlnfeijaaSd
namespace Go.Proofs.Ytpdphbhlnfeijaa
open Go.RowKit
open Sg (S1)

set_option maxRecDepth 100000 in
set_option maxHeartbeats 400000 in
theorem rdoes_no (b : Nat) (z k : Int) (X : Nat → S1) (w : World) (h : RX w b X) (E0 : Sg.howE z k ≠ 0) :
    Calls Try.prog 13 #[.pointer (some ⟨b, 0, none⟩), .int .i64 z, .int .i64 k] w fun e w' => e = .returned (.int .i64 (Sg.howE z k)) ∧ RX w' b (Sg.howF X z k) ∧ Frm b w w' := by
  have HF := Hid.intro h
  have EF : Hid (Sg.howF X z k = X) := Hid.intro (if_neg E0)
  rw [EF.out]
  clear h EF
  by_cases c1 : z < 1
  · rw [show Sg.howE z k = 1 by unfold Sg.howE; rw [Sg.isE_no (.inl c1)]; rfl]
    clear E0
    go_enter Try.func13, Try.ntmps13
    go_wp2_with fail
    go_ret
    exact ⟨rfl, HF.out, Frm.refl _ _⟩
  · by_cases c2 : 8 < z
    · rw [show Sg.howE z k = 1 by unfold Sg.howE; rw [Sg.isE_no (.inr c2)]; rfl]
      clear E0
      go_enter Try.func13, Try.ntmps13
      go_wp2_with fail
      go_ret
      exact ⟨rfl, HF.out, Frm.refl _ _⟩
    · have ez : Sg.isE z = 0 := Sg.isE_ok (by omega) (by omega)
      by_cases d1 : k < 0
      · rw [show Sg.howE z k = 1 by unfold Sg.howE; rw [ez, if_neg (fun d => d rfl), if_pos (.inl d1)]]
        clear E0 ez
        go_enter Try.func13, Try.ntmps13
        go_wp2_with fail
        go_ret
        exact ⟨rfl, HF.out, Frm.refl _ _⟩
      · by_cases d2 : 2 < k
        · rw [show Sg.howE z k = 1 by unfold Sg.howE; rw [ez, if_neg (fun d => d rfl), if_pos (.inr d2)]]
          clear E0 ez
          go_enter Try.func13, Try.ntmps13
          go_wp2_with fail
          go_ret
          exact ⟨rfl, HF.out, Frm.refl _ _⟩
        · have e1 : Sg.howE z k = if z = 1 then 8 else 0 := by unfold Sg.howE; rw [ez, if_neg (fun d => d rfl), if_neg (by omega)]
          by_cases k1 : z = 1
          · rw [if_pos k1] at e1
            rw [e1]
            subst k1
            clear E0 ez e1
            go_enter Try.func13, Try.ntmps13
            go_wp2_with fail
            go_ret
            exact ⟨rfl, HF.out, Frm.refl _ _⟩
          · rw [if_neg k1] at e1
            exact absurd e1 E0
set_option maxRecDepth 100000 in
set_option maxHeartbeats 400000 in
theorem rdoes_yes (b : Nat) (z k : Int) (X : Nat → S1) (w : World) (h : RX w b X) (E0 : Sg.howE z k = 0) :
    Calls Try.prog 13 #[.pointer (some ⟨b, 0, none⟩), .int .i64 z, .int .i64 k] w fun e w' => e = .returned (.int .i64 (Sg.howE z k)) ∧ RX w' b (Sg.howF X z k) ∧ Frm b w w' := by
  have HF := Hid.intro h
  obtain ⟨z1, z8, k0, k2⟩ := Sg.howE_0 E0
  obtain ⟨n, rfl⟩ : ∃ n : Nat, z = n := ⟨z.toNat, by omega⟩
  have E : Hid (Sg.howE n k = 0 ∧ Sg.howF X n k = Sg.put X n ⟨(X n).wt && !Sg.ign n k, (X n).hd, k⟩) := Hid.intro ⟨E0, by unfold Sg.howF; rw [if_pos E0, Int.toNat_natCast]⟩
  rw [E.out.1]
  have n9 : n < 9 := by omega
  have n1i : ¬ (n : Int) < 1 := by omega
  have n8i : ¬ 8 < (n : Int) := by omega
  have n9i : (n : Int) < 9 := by omega
  have k0i : ¬ k < 0 := by omega
  have k2i : ¬ 2 < k := by omega
  have k1' : ((n : Int) == 1) = false := by simp; omega
  have k1'' : ¬ (n : Int) = 1 := by omega
  have c2 := h.hw n n9
  have fz := h.frozen (18 + n)
  obtain ⟨Y, hY⟩ : ∃ Y, Sg.put X n ⟨(X n).wt, (X n).hd, k⟩ = Y := ⟨_, rfl⟩
  have S1 := Hid.intro (h.setK n n9 k)
  rw [hY] at S1
  have F1 : Hid (Frm b w (w.setCell ⟨b, 18 + n, none⟩ (.int .i64 k))) := Hid.intro ((Frm.refl _ _).setCell _ _)
  have FIN : Hid (∀ W, RX W b Y → Sg.ign n k = true → RX (W.setCell ⟨b, n, none⟩ (.bool false)) b (Sg.howF X n k)) := Hid.intro (fun W hW hg => by
    have := hW.setW n n9 false
    rw [← hY, Sg.put_same, Sg.put_put] at this
    rw [E.out.2, hg, Bool.not_true, Bool.and_false]
    exact this)
  have FI2 : Hid (∀ W, RX W b Y → Sg.ign n k = false → RX W b (Sg.howF X n k)) := Hid.intro (fun W hW hg => by
    rw [E.out.2, hg, Bool.not_false, Bool.and_true, hY]
    exact hW)
  have IG : Hid (∀ W, RX W b Y → W.cell? ⟨b, 18 + n, none⟩ = some (.int .i64 k)) := Hid.intro (fun W hW => by
    have := hW.hw n n9
    rw [← hY, Sg.put_same] at this
    exact this)
  clear h z1 z8 k0 k2 E0 hY
  go_enter Try.func13, Try.ntmps13
  go_upto_region 6 with fail
  refine wp_gen (fun W' => RX W' b Y ∧ Frm b w W') ⟨S1.out, F1.out⟩ ?_
  rintro W1 ⟨f1, g1⟩
  have P1 := Hid.intro f1
  have G1 := Hid.intro g1
  have fy := f1.frozen n
  have iy := f1.wt n n9
  clear f1 g1 fz c2
  go_wp2_with fail
  refine (rign_any b n _ _ n9 (IG.out _ P1.out)).mono ?_
  rintro e w1 ⟨rfl, hw1⟩
  subst w1
  by_cases G : Sg.ign n k = true
  · rw [G]
    go_wp2_with fail
    go_ret
    exact ⟨rfl, FIN.out _ P1.out G, G1.out.setCell _ _⟩
  · have G' : Sg.ign n k = false := by simpa using G
    rw [G']
    go_wp2_with fail
    go_ret
    exact ⟨rfl, FI2.out _ P1.out G', G1.out⟩
theorem rdoes_any (b : Nat) (z k : Int) (X : Nat → S1) (w : World) (h : RX w b X) :
    Calls Try.prog 13 #[.pointer (some ⟨b, 0, none⟩), .int .i64 z, .int .i64 k] w fun e w' => e = .returned (.int .i64 (Sg.howE z k)) ∧ RX w' b (Sg.howF X z k) ∧ Frm b w w' := by
  by_cases c : Sg.howE z k = 0
  · exact rdoes_yes b z k X w h c
  · exact rdoes_no b z k X w h c
set_option maxRecDepth 100000 in
set_option maxHeartbeats 1000000 in
theorem rfirst_any (b : Nat) (k : Int) (X : Nat → S1) (w : World) (h : RX w b X) :
    Calls Try.prog 17 #[.pointer (some ⟨b, 0, none⟩), .int .i64 k] w fun e w' => ∃ n : Nat, e = .returned (.int .i64 n) ∧ Sg.FirTo X k n ∧ w' = w := by
  have HS := Hid.intro h
  clear h
  go_enter Try.func17, Try.ntmps17
  go_wp2_with fail
  go_loop [5] (fun i => ∃ (x : Nat), i = .int .i64 x ∧ 1 ≤ x ∧ x ≤ 9 ∧ Hid (∀ j, 1 ≤ j → j < x → Sg.ok X k j = false)) (fun i => 9 - (intOf i).toNat)
  case atStart => exact ⟨1, rfl, by omega, by omega, fun j h1 h2 => by omega⟩
  case round =>
    obtain ⟨x, rfl, hx1, hx9, HN⟩ := hrel
    by_cases hx : x < 9
    · have hxI : (x : Int) < 9 := by omega
      have HKB : Hid (Sg.ok X k x = ((X x).wt && !(X x).hd && decide ((X x).hw = k))) := Hid.intro rfl
      have c0 := HS.out.wt x hx
      have c1 := HS.out.hd x hx
      have c2 := HS.out.hw x hx
      generalize (X x).wt = ww at *
      generalize (X x).hd = hh at *
      generalize (X x).hw = kk at *
      have NX : Hid (Sg.ok X k x = false → ∀ j, 1 ≤ j → j < x + 1 → Sg.ok X k j = false) := Hid.intro (fun c j h1 hj => by
        by_cases e : j = x
        · rw [e]; exact c
        · exact HN.out j h1 (by omega))
      cases ww
      · go_wp2_with fail
        go_round
        case rel => exact ⟨x + 1, by go_num, by omega, by omega, NX.out (by rw [HKB.out]; rfl)⟩
        case measure => simp [intOf]; omega
      · cases hh
        · by_cases hi : kk = k
          · subst hi
            go_wp2_with fail
            go_ret
            exact ⟨x, rfl, .inr ⟨by omega, by omega, by rw [HKB.out]; simp, HN.out⟩, rfl⟩
          · have hi' : (kk == k) = false := by simp; exact hi
            go_wp2_with fail
            go_round
            case rel => exact ⟨x + 1, by go_num, by omega, by omega, NX.out (by rw [HKB.out, decide_eq_false hi]; simp)⟩
            case measure => simp [intOf]; omega
        · go_wp2_with fail
          go_round
          case rel => exact ⟨x + 1, by go_num, by omega, by omega, NX.out (by rw [HKB.out]; rfl)⟩
          case measure => simp [intOf]; omega
    · have hxI : ¬ (x : Int) < 9 := by omega
      go_wp2_with fail
      go_ret
      exact ⟨0, rfl, .inl ⟨rfl, fun j h1 h2 => HN.out j h1 (by omega)⟩, rfl⟩
set_option maxRecDepth 100000 in
set_option maxHeartbeats 400000 in
theorem rtake_any (b : Nat) (X : Nat → S1) (w : World) (h : RX w b X) (hI : Sg.Inv X) :
    Calls Try.prog 15 #[.pointer (some ⟨b, 0, none⟩)] w fun e w' => ∃ n : Nat, e = .returned (.int .i64 n) ∧ Sg.FirTo X 2 n ∧ RX w' b (Sg.takF X n) ∧ Frm b w w' := by
  have HF := Hid.intro h
  have II := Hid.intro hI.1
  clear h hI
  go_enter Try.func15, Try.ntmps15
  go_wp2_with fail
  refine (rfirst_any b 2 X _ HF.out).mono ?_
  rintro e w1 ⟨n, rfl, hn, hw1⟩
  subst w1
  have HN := Hid.intro hn
  have n8 := hn.le
  have n9i : (n : Int) < 9 := by omega
  have c0 := HF.out.wt n (by omega)
  have fz := HF.out.frozen n
  have FIN : Hid (RX (w.setCell ⟨b, n, none⟩ (.bool false)) b (Sg.takF X n)) := Hid.intro (by
    have := HF.out.setW n (by omega) false
    unfold Sg.takF
    by_cases e : n = 0
    · rw [if_pos e]
      subst e
      rw [show (⟨false, (X 0).hd, (X 0).hw⟩ : S1) = X 0 by rw [← II.out]] at this
      rw [show Sg.put X 0 (X 0) = X by funext m; unfold Sg.put; by_cases e : m = 0 <;> simp [e]] at this
      exact this
    · rw [if_neg e]
      exact this)
  clear hn
  go_wp2_with fail
  go_ret
  exact ⟨n, rfl, HN.out, FIN.out, (Frm.refl _ _).setCell _ _⟩
end Go.Proofs.Ytpdphbhlnfeijaa

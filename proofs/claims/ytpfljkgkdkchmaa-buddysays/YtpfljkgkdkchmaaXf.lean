/- The document's own blocks: Free. -/
import Derived.Test.YtpfljkgkdkchmaaXe
import Derived.Test.YtpfljkgkdkchmaaBc
import Derived.Test.YtpfljkgkdkchmaaXz
namespace Go.Proofs.Ytpfljkgkdkchmaa
open Go.RowKit
open Bd (P)


set_option maxRecDepth 100000 in
set_option maxHeartbeats 1000000 in
theorem kfree_any (b : Nat) (z : Int) (p : P) (w : World) (h : KAt w b p) :
    Calls Try.prog 161 #[.pointer (some ⟨b, 0, none⟩), .int .i64 z] w fun e w' => ∃ v, e = .returned (.tuple #[v, .int .i64 (Bd.freE z)]) ∧ LO w (Bd.freL p z) v w' := by
  obtain ⟨i0, hi, hz0, hz1, hz2⟩ := info_parts info3
  by_cases kz : z < 0 ∨ 6 < z
  · have HE : Hid (Bd.freE z = 1 ∧ Bd.freL p z = []) := Hid.intro ⟨if_pos kz, if_pos kz⟩
    by_cases z0 : z < 0
    · clear kz
      go_enter Try.func161, Try.ntmps161
      go_wp2
      go_ret2
      exact ⟨_, by rw [HE.out.1]; rfl, by rw [HE.out.2]; exact LO.nil w⟩
    · have z1 : decide (z < 0) = false := by simp; omega
      have z2 : 6 < z := by omega
      clear kz z0
      go_enter Try.func161, Try.ntmps161
      go_wp2
      go_ret2
      exact ⟨_, by rw [HE.out.1]; rfl, by rw [HE.out.2]; exact LO.nil w⟩
  · obtain ⟨o, rfl⟩ := Int.eq_ofNat_of_zero_le (show 0 ≤ z by omega)
    have HE : Hid (Bd.freE o = 0 ∧ Bd.freL p o = Bd.freK p o 64) := Hid.intro ⟨if_neg kz, by unfold Bd.freL; rw [if_neg kz, Int.toNat_natCast]⟩
    have z2 : decide (6 < (o : Int)) = false := by simp; omega
    have HF := Hid.intro h
    have ho1 : IntKind.i64.wrap ((o : Int) + 1) = (o : Int) + 1 := IntWalk.i64_in _ ⟨by omega, by omega⟩
    clear kz h
    go_enter Try.func161, Try.ntmps161
    go_wp2_with fail
    go_loopw [6, 7] (fun l i wr => ∃ (k : Nat), i = .int .i64 k ∧ k ≤ 64 ∧ Hid (LO w (Bd.freK p o k) l wr)) (fun _ i _ => 64 - (intOf i).toNat)
    case atStart => exact ⟨0, rfl, by omega, LO.nil w⟩
    case round =>
      obtain ⟨k, rfl, hk, R⟩ := hrel
      by_cases hlt : k < 64
      · have hltI : (k : Int) < 64 := by omega
        have T := Hid.intro (HF.out.below R.out.bel)
        have c1 := T.out.cOrd k hlt
        have c2 := T.out.cTk k hlt
        have HP : Hid (Bd.freP p o k = (decide (p.ord k = o + 1) && !p.tk k)) := Hid.intro rfl
        by_cases e : p.ord k = o + 1
        · rw [e] at c1
          have c1' : wr.cell? ⟨b, k, none⟩ = some (.int .i64 ((o : Int) + 1)) := c1
          cases t : p.tk k
          · have HM := Hid.intro (Bd.freK_yes (p := p) (o := o) (k := k) (by rw [HP.out, decide_eq_true e, t]; rfl))
            rw [t] at c2
            obtain ⟨a, cap, hv⟩ := own_form R.out.own
            rw [hv]
            have HV := Hid.intro hv
            have hlm := Bd.freK_len p o k
            generalize hN : (Bd.freK p o k).length = N at *
            have HN := Hid.intro hN
            clear hv hN e t c1
            go_wp2_with (at_builtin; refine wpList_append_lies _ rfl _ _ 47 (by rfl) w.heap.size 3 i0 (.int .i64 0) 1 8 Try.underlying47 hi hz0 hz1 hz2 rfl (by decide) (.slice a N cap) N (rowOf (Bd.freK p o k)) (by rfl) (by rw [← HV.out, ← HN.out]; exact R.out.own.alloc _) ⟨wr.heap.size, 0, none⟩ 1 1 [.int .i64 k] (by rfl) rfl (cell_one_new _ _ _) (by simp [Value.oneCell']) (by decide) (by unfold maxLen; omega) (by omega) (by have := R.out.bel.size; simp; omega) (wr.heap.size + 1) (by simp) ?_; intro gg cap2 w1 hown hgrow hat hlt2; have Q1 : Hid (LO w (Bd.freK p o k ++ [k]) (.slice (some ⟨gg, 0, none⟩) (N + 1) cap2) w1) := R.out.more HN.out hown _ (by rw [HV.out]; exact hgrow); clear hown hgrow hat hlt2)
            go_roundw
            case rel => exact ⟨k + 1, by go_num, by omega, by rw [HM.out]; exact Q1⟩
            case measure => simp [intOf]; omega
          · have HM := Hid.intro (Bd.freK_no (p := p) (o := o) (k := k) (by rw [HP.out, t]; simp))
            rw [t] at c2
            clear e t c1
            go_wp2_with fail
            go_roundw
            case rel => exact ⟨k + 1, by go_num, by omega, by rw [HM.out]; exact R⟩
            case measure => simp [intOf]; omega
        · have HM := Hid.intro (Bd.freK_no (p := p) (o := o) (k := k) (by rw [HP.out, decide_eq_false e]; rfl))
          have e' : ((p.ord k : Int) == (o : Int) + 1) = false := by simp; omega
          obtain ⟨u, hu⟩ : ∃ u, p.ord k = u := ⟨_, rfl⟩
          rw [hu] at c1 e'
          clear e hu
          go_wp2_with fail
          go_roundw
          case rel => exact ⟨k + 1, by go_num, by omega, by rw [HM.out]; exact R⟩
          case measure => simp [intOf]; omega
      · have hk64 : k = 64 := by omega
        subst hk64
        go_wp2_with fail
        go_ret2
        exact ⟨_, by rw [HE.out.1]; rfl, by rw [HE.out.2]; exact R.out⟩
end Go.Proofs.Ytpfljkgkdkchmaa

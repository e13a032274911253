/- The document's own sched: Ready, look. -/
import Derived.Test.YtgabfkaadflciaaRa
import Derived.Deep.CutRange
import Derived.Deep.CutBlock
import Derived.Handy
namespace Go.Proofs.Ytgabfkaadflciaa
open Go.RowKit
open Fr (Un M)
attribute [local go_sem] max_if

set_option maxRecDepth 100000 in
set_option maxHeartbeats 1000000 in
theorem rready_group (b g : Nat) (m : M) (w : World) (h : RAt w b m) (hg : g < 10) :
    Calls Try.prog 156 #[.pointer (some ⟨b, 0, none⟩), .int .i64 g] w fun e w' => e = .returned (.bool (Fr.ready m g)) ∧ Below w.heap.size w w' := by
  have HE : Hid (Fr.ready m g = (Fr.hasKid m g && Fr.mayB (m.u g))) := Hid.intro (by unfold Fr.ready; rw [if_neg (by omega)])
  have HM : Hid (Fr.mayB (m.u g) = (!(m.u g).frozen && (decide ((m.u g).quota = 0) || decide ((m.u g).used < (m.u g).quota)))) := Hid.intro rfl
  have HR := Hid.intro h
  obtain ⟨c0, c1, c2, c3, c4, c5, c6, c7, c8, c9, ca, cb⟩ := h.cells g (by omega)
  have hgI : (g : Int) < 30 := by omega
  have k : ¬ (9 : Int) < (g : Int) := by omega
  have hl := h.lt
  clear h
  generalize (m.u g).frozen = fz at *
  generalize (m.u g).quota = qu at *
  generalize (m.u g).used = us at *
  cases fz
  · by_cases hq : 0 < qu ∧ qu ≤ us
    · have q1 : decide ((0 : Int) < (qu : Int)) = true := by simp; omega
      have q2 : (qu : Int) ≤ (us : Int) := by omega
      go_enter Try.func156, Try.ntmps156
      go_wp2
      go_ret
      exact ⟨ret_bool (by rw [HE.out, HM.out, decide_eq_false (by omega), decide_eq_false (by omega)]; simp), (Below.refl _ _).alloc (Nat.le_refl _) _⟩
    · have HK : Hid (Fr.ready m g = Fr.hasKid m g) := Hid.intro (by
        rw [HE.out, HM.out]
        have : (decide (qu = 0) || decide (us < qu)) = true := by simp; omega
        rw [this]; simp)
      have hq' : qu = 0 ∨ (0 < qu ∧ us < qu) := by omega
      go_enter Try.func156, Try.ntmps156
      go_upto_region 4 with fail
      go_cut [30] from 7 to 61 (fun r wc => r = .bool false ∧ Hid (RAt wc b m ∧ Below w.heap.size w wc))
      case first =>
        rcases hq' with q0 | ⟨q0, q0'⟩
        · subst q0
          go_wp2_with fail
          go_meet
          case rel => exact ⟨rfl, HR.out.below ((Below.refl _ _).alloc (Nat.le_refl _) _), (Below.refl _ _).alloc (Nat.le_refl _) _⟩
        · have q1 : decide ((0 : Int) < (qu : Int)) = true := by simp; omega
          have q2 : decide ((qu : Int) ≤ (us : Int)) = false := by simp; omega
          go_wp2_with fail
          go_meet
          case rel => exact ⟨by first | rfl | (rw [decide_eq_false (show ¬ qu ≤ us by omega)]), HR.out.below ((Below.refl _ _).alloc (Nat.le_refl _) _), (Below.refl _ _).alloc (Nat.le_refl _) _⟩
      case rest =>
        obtain ⟨rfl, H2⟩ := hcut
        clear c0 c1 c2 c3 c4 c5 c6 c7 c8 c9 ca cb
        go_wp2_with fail
        go_loopw [6] (fun i wr => ∃ (x : Nat), i = .int .i64 x ∧ 1 ≤ x ∧ x ≤ 30 ∧ wr = wc ∧ Hid (∀ j, 0 < j → j < x → Fr.kidB m g j = false)) (fun i _ => 30 - (intOf i).toNat)
        case atStart => exact ⟨1, rfl, by omega, by omega, rfl, fun j h1 h2 => by omega⟩
        case round =>
          obtain ⟨x, rfl, hx1, hx30, hwr, HN⟩ := hrel
          subst wr
          by_cases hx : x < 30
          · have hxI : (x : Int) < 30 := by omega
            have cc := H2.out.1.cells x hx
            have d0 := cc.c0
            have d3 := cc.c3
            have d4 := cc.c4
            have HKB : Hid (Fr.kidB m g x = ((m.u x).here && decide ((m.u x).inn = (g : Int)) && (m.u x).was)) := Hid.intro (by unfold Fr.kidB; rw [decide_eq_true (show 0 < x by omega), Bool.true_and])
            have HHK : Hid (Fr.kidB m g x = true → Fr.hasKid m g = true) := Hid.intro (fun k => Fr.hasKid_iff.2 ⟨x, hx, k⟩)
            clear cc
            generalize (m.u x).here = hh at *
            generalize (m.u x).inn = ii at *
            generalize (m.u x).was = ww at *
            cases hh
            · go_wp2_with fail
              go_roundw
              case rel => exact ⟨x + 1, by go_num, by omega, by omega, by first | rfl | trivial, fun j h1 h2 => by
                by_cases e : j = x
                · rw [e, HKB.out]; rfl
                · exact HN.out j h1 (by omega)⟩
              case measure => simp [intOf]; omega
            · by_cases hi : ii = (g : Int)
              · subst hi
                cases ww
                · go_wp2_with fail
                  go_roundw
                  case rel => exact ⟨x + 1, by go_num, by omega, by omega, by first | rfl | trivial, fun j h1 h2 => by
                    by_cases e : j = x
                    · rw [e, HKB.out]; simp
                    · exact HN.out j h1 (by omega)⟩
                  case measure => simp [intOf]; omega
                · go_wp2_with fail
                  go_ret
                  exact ⟨ret_bool (by rw [HK.out, HHK.out (by rw [HKB.out]; simp)]), H2.out.2⟩
              · have hi' : (ii == (g : Int)) = false := by simp; exact hi
                go_wp2_with fail
                go_roundw
                case rel => exact ⟨x + 1, by go_num, by omega, by omega, by first | rfl | trivial, fun j h1 h2 => by
                  by_cases e : j = x
                  · rw [e, HKB.out, decide_eq_false hi]; simp
                  · exact HN.out j h1 (by omega)⟩
                case measure => simp [intOf]; omega
          · have hxI : ¬ (x : Int) < 30 := by omega
            go_wp2_with fail
            go_ret
            refine ⟨ret_bool ?_, H2.out.2⟩
            rw [HK.out]
            cases hk : Fr.hasKid m g
            · rfl
            · obtain ⟨j, hj, kj⟩ := Fr.hasKid_iff.1 hk
              rw [HN.out j (Fr.kidB_iff.1 kj).1 (by omega)] at kj; cases kj
  · go_enter Try.func156, Try.ntmps156
    go_wp2
    go_ret
    exact ⟨ret_bool (by rw [HE.out, HM.out]; simp), (Below.refl _ _).alloc (Nat.le_refl _) _⟩

theorem rready_any (b u : Nat) (m : M) (w : World) (h : RAt w b m) (hu : u < 30) :
    Calls Try.prog 156 #[.pointer (some ⟨b, 0, none⟩), .int .i64 u] w fun e w' => e = .returned (.bool (Fr.ready m u)) ∧ Below w.heap.size w w' := by
  by_cases k : 10 ≤ u
  · exact rready_task b u m w h k hu
  · exact rready_group b u m w h (by omega)

end Go.Proofs.Ytgabfkaadflciaa

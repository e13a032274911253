/- The walk of the law QueueSays where no act comes in. -/
import Derived.Test.YtgabceeekkcekaaQs
import Derived.Handy
namespace Go.Proofs.Ytgabceeekkcekaa
open Go.RowKit
open Hp (Q)
set_option maxRecDepth 100000 in
set_option maxHeartbeats 1000000 in
theorem qs_none (a0 : Option Addr) (c0 : Nat) (w : World) : Calls Try.prog 3 #[.slice a0 0 c0] w fun e w' => e = .returned (.bool true) ∧ Below w.heap.size w w' := by
  have d : decide (((0 : Nat) : Int) ≤ 120) = true := by decide
  go_enter Try.func3, Try.ntmps3
  go_wp2_with fail
  refine (lines_any _).mono ?_
  rintro e W1 ⟨rfl, hb⟩
  have HB : Hid (Below w.heap.size w W1) := hb
  clear hb
  go_wp2_with fail
  refine (light_any _ _ _ _ _).mono ?_
  rintro e W2 ⟨rfl, rfl⟩
  rw [d]
  go_wp2_with fail
  refine wp_gen (fun W => Sq w W W2.heap.size q0 (fun _ => false) (fun _ => 0)) (sq_start w W2 HB.out) ?_
  intro W hS
  have S : Hid (Sq w W W2.heap.size q0 (fun _ => false) (fun _ => 0)) := hS
  clear HB d hS
  generalize W2.heap.size = b at *
  refine wp_loop_rounds 1 ?_
  rw [rounds_succ]
  go_wp2_with fail
  refine (all_any sort_said b q0 _ S.out.good).mono ?_
  rintro e W4 ⟨gg, L, rfl, A4⟩
  have S4 : Hid (Sq w W4 b q0 (fun _ => false) (fun _ => 0)) := S.out.below A4.bel
  have hL : L.length = 0 := A4.len
  rw [hL]
  clear A4
  go_wp2_with fail
  refine (rall_any (b + 1) (fun _ => false) (fun _ => 0) _ S4.out.ref).mono ?_
  rintro e W5 ⟨v, L2, rfl, hL2, R⟩
  have S5 : Hid (Sq w W5 b q0 (fun _ => false) (fun _ => 0)) := S4.out.below R.bel
  have h0 : L2.length = 0 := (S5.out.list R).len
  obtain ⟨av, cv, hv⟩ := own_form R.own
  rw [h0] at hv
  rw [hv]
  clear R hv hL2
  go_wp2_with fail
  refine (sameNumbers_none _ _ _ _ _).mono ?_
  rintro e W6 ⟨rfl, nq, rfl⟩
  go_wp2_with fail
  go_ret
  exact ⟨rfl, below_drewN S5.out.bel _⟩
end Go.Proofs.Ytgabceeekkcekaa

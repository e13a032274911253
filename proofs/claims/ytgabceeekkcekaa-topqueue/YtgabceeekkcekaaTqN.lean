/- The walk of the law TopQueue where nothing comes in. -/
import Derived.Test.YtgabceeekkcekaaTq
import Derived.Handy
namespace Go.Proofs.Ytgabceeekkcekaa
open Go.RowKit
open Hp (Q)
set_option maxRecDepth 100000 in
set_option maxHeartbeats 1000000 in
theorem tq_none (a0 a1 : Option Addr) (n0 n1 c0 c1 : Nat) (w : World) (h : n0 = 0 ∨ n1 = 0) (m0 : n0 ≤ 100) (m1 : n1 ≤ 100) :
    Calls Try.prog 5 #[.slice a0 n0 c0, .slice a1 n1 c1] w fun e w' => e = .returned (.bool true) ∧ Below w.heap.size w w' := by
  have HG : Hid (Good (w.alloc (.cells Try.zeroCells30 30)) w.heap.size q0) := good_new w
  have B0 : Hid (Below w.heap.size w (w.alloc (.cells Try.zeroCells30 30))) := (Below.refl _ w).alloc (Nat.le_refl _) _
  have k0 : decide ((100 : Int) < (n0 : Int)) = false := by simp; omega
  have k1 : decide ((100 : Int) < (n1 : Int)) = false := by simp; omega
  have HH : Hid (n0 = 0 ∨ n1 = 0) := h
  clear h
  go_enter Try.func5, Try.ntmps5
  go_wp2_with fail
  refine (put_new w.heap.size 1 5 q0 _ HG.out (by omega) rfl).mono ?_
  rintro e W1 ⟨rfl, o1, q1, g1, m1', _, _⟩
  have B1 : Hid (Below w.heap.size w W1) := Only.below B0.out o1 (Nat.le_refl _)
  have G1 : Hid (Good W1 w.heap.size q1) := g1
  have M1 : Hid (q1.many = 1) := m1'
  clear o1 g1 m1'
  go_wp2_with fail
  refine (len_any w.heap.size q1 _ G1.out.at_).mono ?_
  rintro e W2 ⟨rfl, rfl⟩
  rw [M1.out]
  go_wp2_with fail
  refine wp_gen (fun W => St w W W2.heap.size q0 (fun _ => 0) (fun _ => false)) (st_start w W2 B1.out) ?_
  intro W hS
  have S : Hid (St w W W2.heap.size q0 (fun _ => 0) (fun _ => false)) := hS
  clear HG B0 B1 G1 M1 k0 k1 hS
  generalize W2.heap.size = b at *
  have hnn : (n0 : Int) ≤ 0 ∨ 0 < (n0 : Int) ∧ (n1 : Int) ≤ 0 := by have := HH.out; omega
  rcases hnn with hn | ⟨hn, hn'⟩
  all_goals
    refine wp_loop_rounds 1 ?_
    rw [rounds_succ]
    go_wp2_with fail
    refine wp_loop_rounds 1 ?_
    rw [rounds_succ]
    go_wp2_with fail
    refine (first_none b q0 _ S.out.good.at_ rfl).mono ?_
    rintro e w3 ⟨rfl, rfl⟩
    go_wp2_with fail
    refine (len_any b q0 _ S.out.good.at_).mono ?_
    rintro e w3 ⟨rfl, rfl⟩
    rw [show q0.many = 0 from rfl]
    go_wp2_with fail
    go_ret
    exact ⟨rfl, S.out.bel⟩
end Go.Proofs.Ytgabceeekkcekaa

/- The walk of the closed fact 'lines'. -/
import Derived.Test.YtgabceeekkcekaaSort
namespace Go.Proofs.Ytgabceeekkcekaa
open Go.RowKit
open Hp (Q)

set_option maxRecDepth 100000 in
set_option maxHeartbeats 400000 in
theorem lines_any (w : World) : Calls Try.prog 7 #[] w fun e w' => e = .returned (.bool true) ∧ Below w.heap.size w w' := by
  have HG : Hid (Good (w.alloc (.cells Try.zeroCells30 30)) w.heap.size q0) := good_new w
  have B0 : Hid (Below w.heap.size w (w.alloc (.cells Try.zeroCells30 30))) := (Below.refl _ w).alloc (Nat.le_refl _) _
  go_enter Try.func7, Try.ntmps7
  go_wp2_with fail
  refine (put_new w.heap.size 3 9 q0 _ HG.out (by omega) rfl).mono ?_
  rintro e W1 ⟨rfl, o1, q1, g1, m1, k1, p1⟩
  have B1 : Hid (Below w.heap.size w W1) := Only.below B0.out o1 (Nat.le_refl _)
  have G1 : Hid (Good W1 w.heap.size q1 ∧ q1.many = 1 ∧ q1.keys = Hp.upd q0.keys 3 9 ∧ ∀ i, 0 < q1.place i ↔ (0 < q0.place i ∨ i = 3)) := ⟨g1, m1, k1, p1⟩
  clear o1 g1 m1 k1 p1
  go_wp2_with fail
  refine (put_new w.heap.size 5 7 q1 _ G1.out.1 (by omega) (by
    have := (G1.out.2.2.2 5).1
    have h0 : ¬ (0 < q0.place 5 ∨ 5 = 3) := by show ¬ ((0 : Nat) < 0 ∨ 5 = 3); omega
    have h1 : ¬ 0 < q1.place 5 := fun h => h0 (this h)
    omega)).mono ?_
  rintro e W2 ⟨rfl, o2, q2, g2, m2, k2, p2⟩
  have B2 : Hid (Below w.heap.size w W2) := Only.below B1.out o2 (Nat.le_refl _)
  have K3 : q2.keys 3 = 9 := by rw [k2, Hp.upd_ne _ _ _ _ (by omega), G1.out.2.2.1, Hp.upd_same]
  have K5 : q2.keys 5 = 7 := by rw [k2, Hp.upd_same]
  have M2 : Hid (q2.many = 2) := by show q2.many = 2; rw [m2, G1.out.2.1]
  have who : Hid (∀ i, 0 < q2.place i → i = 3 ∨ i = 5) := fun i hi => by
    rcases (p2 i).1 hi with h | h
    · rcases (G1.out.2.2.2 i).1 h with h' | h'
      · exact absurd h' (by show ¬ (0 : Nat) < 0; omega)
      · exact .inl h'
    · exact .inr h
  have H5 : Hid (0 < q2.place 5) := (p2 5).2 (.inr rfl)
  have HK : Hid (q2.keys 3 = 9 ∧ q2.keys 5 = 7) := ⟨K3, K5⟩
  have G2 : Hid (Good W2 w.heap.size q2) := g2
  clear o2 g2 m2 k2 p2 G1 B1 K3 K5
  go_wp2_with fail
  refine (first_some w.heap.size q2 _ G2.out (by rw [M2.out]; omega)).mono ?_
  rintro e W3 ⟨j, rfl, ⟨n, rfl⟩, hj, hp, hl⟩
  have ej : j = 5 := by
    rcases who.out j hp with h | h
    · have := hl 5 (by omega) H5.out
      rw [h] at this
      exact absurd (show Hp.ah q2.keys 5 3 by unfold Hp.ah; rw [HK.out.1, HK.out.2]; omega) this
    · exact h
  rw [ej, HK.out.2]
  clear hj hp hl ej
  go_wp2_with (first | (go_at_call 9; refine (same_nil _).mono ?_; rintro e w' ⟨rfl, rfl⟩) | (go_at_call 19; refine (len_any w.heap.size q2 _ (G2.out.at_.drewN _)).mono ?_; rintro e w' ⟨rfl, rfl⟩; rw [M2.out]))
  go_ret
  exact ⟨rfl, below_drewN B2.out _⟩
end Go.Proofs.Ytgabceeekkcekaa

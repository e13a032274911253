/- The walk of the law TopGroups where no act comes in; the law, whatever acts come in. -/
import Derived.Test.YtgabceeekkcekaaGx
import Derived.Handy
namespace Go.Proofs.Ytgabceeekkcekaa
open Go.RowKit Go.Shelf
set_option maxRecDepth 100000 in
set_option maxHeartbeats 1000000 in
theorem tg_none (a0 : Option Addr) (c0 : Nat) (w : World) : Calls Try.prog 6 #[.slice a0 0 c0] w fun e w' => e = .returned (.bool true) ∧ Below w.heap.size w w' := by
  have d : decide (((0 : Nat) : Int) ≤ 100) = true := by decide
  go_enter Try.func6, Try.ntmps6
  go_wp2_with fail
  refine (new_any _).mono ?_
  rintro e W1 ⟨rfl, hT1, hb1⟩
  have S1 := sg_start hT1 hb1
  rw [zero74] at S1
  clear hT1 hb1
  go_wp2_with fail
  refine (light_any _ _ _ _ _).mono ?_
  rintro e W2 ⟨rfl, rfl⟩
  rw [d]
  go_wp2_with fail
  refine wp_gen (fun W => Sg w W w.heap.size W2.heap.size t0 W0 0 (fun _ => 0) (fun _ => 0)) S1 ?_
  intro W hS
  have S := Hid.intro hS
  clear S1 d hS
  refine wp_loop_rounds 1 ?_
  rw [rounds_succ]
  go_wp2_with fail
  go_ret
  exact ⟨rfl, S.out.bel⟩

/-- The law, whatever acts come in. -/
theorem tg_any (a : Option Addr) (len cap : Nat) (w : World) (h : IsActs0 w a len) :
    Calls Try.prog 6 #[.slice a len cap] w fun e w' => e = .returned (.bool true) ∧ Below w.heap.size w w' := by
  by_cases hf : 100 < len
  · exact tg_far a len cap w hf
  · by_cases h0 : len = 0
    · subst h0
      exact tg_none a cap w
    · obtain ⟨b, o, ax, rfl, hc⟩ := h.2 (by omega)
      exact tg_near b o len cap ax w hc (by omega)
end Go.Proofs.Ytgabceeekkcekaa

/- The walk of the law GroupsSays where no act comes in; the law, whatever acts come in. -/
import Derived.Test.YtgabceeekkcekaaHq
import Derived.Handy
namespace Go.Proofs.Ytgabceeekkcekaa
open Go.RowKit Go.Shelf
set_option maxRecDepth 100000 in
set_option maxHeartbeats 1000000 in
theorem gs_none (a0 : Option Addr) (c0 : Nat) (w : World) : Calls Try.prog 4 #[.slice a0 0 c0] w fun e w' => e = .returned (.bool true) ∧ Below w.heap.size w w' := by
  have d : decide (((0 : Nat) : Int) ≤ 100) = true := by decide
  go_enter Try.func4, Try.ntmps4
  go_wp2_with fail
  refine (trees_any _).mono ?_
  rintro e W1 ⟨rfl, hb1⟩
  have HB := Hid.intro hb1
  clear hb1
  go_wp2_with fail
  refine (light_any _ _ _ _ _).mono ?_
  rintro e W2 ⟨rfl, hW2⟩
  subst W2
  rw [d]
  go_wp2_with fail
  refine (new_any _).mono ?_
  rintro e W2 ⟨rfl, hT2, hb2⟩
  have H2 := Hid.intro (And.intro hT2 hb2)
  clear hT2 hb2
  go_wp2_with fail
  refine (newTree_any _).mono ?_
  rintro e W3 ⟨rfl, hU3, hb3⟩
  have S := Hid.intro (sx_start H2.out.1 HB.out H2.out.2 hU3 hb3)
  clear hU3 hb3 H2 HB d
  generalize W1.heap.size = b at *
  generalize W2.heap.size = m at *
  go_wp2_with fail
  refine wp_loop_rounds 1 ?_
  rw [rounds_succ]
  go_wp2_with fail
  refine (asTree_any b m t0 W0 0 _ _ _ S.out.tat S.out.uat S.out.tree (by omega) S.out.rel).mono ?_
  rintro e W5 ⟨rfl, hb5⟩
  have HB5 := Hid.intro (S.out.bel.trans (hb5.mono S.out.bel.size))
  clear hb5
  go_wp2_with fail
  go_ret
  exact ⟨rfl, HB5.out⟩

/-- The law, whatever acts come in. -/
theorem gs_any (a : Option Addr) (len cap : Nat) (w : World) (h : IsActs0 w a len) :
    Calls Try.prog 4 #[.slice a len cap] w fun e w' => e = .returned (.bool true) ∧ Below w.heap.size w w' := by
  by_cases hf : 100 < len
  · exact gs_far a len cap w hf
  · by_cases h0 : len = 0
    · subst h0
      exact gs_none a cap w
    · obtain ⟨b, o, ax, rfl, hc⟩ := h.2 (by omega)
      exact gs_near b o len cap ax w hc (by omega)
end Go.Proofs.Ytgabceeekkcekaa

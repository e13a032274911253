/- Two owned lists of numbers that are the same. -/
import Derived.Test.YtpfljkgkdkchmaaBn
import Derived.Test.YtpfljkgkdkchmaaBc
namespace Go.Proofs.Ytpfljkgkdkchmaa
open Go.RowKit

theorem sameN_any {u w1 w2 : World} {L : List Nat} {v1 v2 : Value} (h1 : LO u L v1 w1) (h2 : LO w1 L v2 w2) (hL : L.length < 1000000) :
    Calls Try.prog 22 #[v1, v2] w2 fun e w' => e = .returned (.bool true) ∧ ∃ k, w' = w2.drewN k := by
  by_cases hl : L.length = 0
  · obtain ⟨a1, c1, e1⟩ := own_form h1.own
    obtain ⟨a2, c2, e2⟩ := own_form h2.own
    rw [e1, e2, hl]
    exact sameNumbers_none a1 a2 c1 c2 w2
  · obtain ⟨g1, c1, e1, l1, k1⟩ := h1.cells (by omega)
    obtain ⟨g2, c2, e2, l2, k2⟩ := h2.cells (by omega)
    rw [e1, e2]
    exact sameNumbers_some g1 g2 0 0 L.length c1 c2 (fun i => ((L.getD i 0 : Nat) : Int)) hL w2 (fun i hi => (h2.bel.cell (p := ⟨g1, 0 + i, none⟩) l1).trans (k1 i hi)) k2

end Go.Proofs.Ytpfljkgkdkchmaa

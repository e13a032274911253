/- FilesSays: for every list of acts. -/
import Derived.Test.YtmneolabgajhmaaGreatGg
namespace Go.Proofs.YtmneolabgajhmaaGreat
open Go.RowKit
theorem fs_any (a0 : Option Addr) (n0 c0 : Nat) (w : World) (h : IsActs0 w a0 n0) :
    Calls Tryz.prog 3 #[.slice a0 n0 c0] w fun e w' => e = .returned (.bool true) ∧ Below w.heap.size w w' := by
  by_cases hn : n0 ≤ 110
  · by_cases h0 : 0 < n0
    · obtain ⟨b0, o0, ax, ha, hc⟩ := h.2 h0
      exact fs_near a0 b0 o0 n0 c0 ax w hn (fun _ => ha) hc
    · exact fs_near a0 0 0 n0 c0 (fun _ => ⟨⟨#[]⟩, 0, 0, 0, 0, false, ⟨#[]⟩, ⟨#[]⟩⟩) w hn (fun k => absurd k h0) (fun i hi => absurd hi (by omega))
  · exact fs_far a0 n0 c0 w (by omega)
end Go.Proofs.YtmneolabgajhmaaGreat

/- A slice of integers that came in: what a walk is told of it. -/
import Derived.Test.YtkbfmjdfhacikaaAr
import Derived.ProofKit
import Derived.OpenShut
import Derived.ChangeOld
namespace Go.Proofs.Ytkbfmjdfhacikaa
open Go.ChangeShapes Go.WideShapes Go.ChangeAt Go.RowKit
theorem ints_of {H : Type} {enc : TypeId × Value → H} {w : World} {base : Nat} {spare : Nat → Bool} {held : Bool} {fuel : Nat} {a : Option Addr} {len cap : Nat} {x : DataW H × List MemPlace} {T : TypeId} (hT : Try.prog.underlying T = some (.slice 3)) (h : DataW.trod enc Try.prog w base spare held fuel T [.slice a len cap] = some x) : IsInts w a len := by
  rcases open_ints hT Try.underlying3 (by kernel_rfl) h with ⟨hcs, _⟩ | ⟨y, l, c, zs, hcs, _, hl, hm, hz, _, hcell, hwz⟩
  · simp at hcs
    obtain ⟨rfl, rfl, rfl⟩ := hcs
    exact ⟨Nat.zero_le _, fun h0 => absurd h0 (by omega)⟩
  · simp at hcs
    obtain ⟨rfl, rfl, rfl⟩ := hcs
    refine ⟨by omega, fun h0 => ?_⟩
    obtain ⟨b, off, spot⟩ := y
    have hz' : len ≤ zs.length := by rw [hz]; split <;> omega
    have hspot : spot = none := by simpa [Addr.add] using World.cell?_spot (hcell 0 (by omega))
    subst hspot
    refine ⟨b, off, fun i => zs.getD i 0, rfl, fun i hi => ?_⟩
    have := hcell i (by omega)
    rw [addNoneO] at this
    exact this
end Go.Proofs.Ytkbfmjdfhacikaa

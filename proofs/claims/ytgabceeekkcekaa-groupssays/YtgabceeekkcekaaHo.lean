/- Move, of the document's own tree: what it makes. -/
import Derived.Test.YtgabceeekkcekaaHr
namespace Go.Proofs.Ytgabceeekkcekaa
open Go.RowKit Go.Shelf

theorem rmove_fix (b : Nat) (f g p q : Int) (t : Nat → Gp) (Wy : Nat → List (Fin 10)) (c : Nat) (h : Nat → Bool) (G : Nat → Nat → Int) (w : World) (H0 : UAt w b h G) (hT : Tree t Wy c) (hc : c ≤ 1000) (hR : Rel t Wy h G) (hl : Lims t) :
    Calls Try.prog 38 #[.pointer (some ⟨b, 0, none⟩), .int .i64 f, .int .i64 g, .int .i64 p, .int .i64 q] w fun e w' => e = .returned (.int .i64 (movE t Wy f g p q)) ∧ (∃ G', UAt w' b h G' ∧ Rel (movT t Wy f g p q) Wy h G') ∧ Frm b w w' := by
  refine (rmove_any b f g p q t Wy c h G w H0 hT hc hR hl).mono ?_
  rintro e w' ⟨rfl, G', hu, hf, hr⟩
  exact ⟨rfl, ⟨G', hu, hr⟩, hf⟩
end Go.Proofs.Ytgabceeekkcekaa

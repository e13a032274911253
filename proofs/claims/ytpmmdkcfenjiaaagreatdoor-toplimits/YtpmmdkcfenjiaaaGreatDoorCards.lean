/-
  DERIVED. GIVEN WITH THE SEED: THE CARDS: each row of YtpmmdkcfenjiaaaGreatDoorRows.lean that lists a variable, with what it lists TIED to the program's text (the seventh form; the later family's looks); each row that meets fmt, with fmt's text TOLD by the authors' own Lean function (tested against real Go, not proved from fmt's source: count such statements apart). THE CARD IS WHAT COUNTS. Prove the row's statement (the work); the ties are given (YtpmmdkcfenjiaaaGreatDoorTie.lean); close each card by the builder's one call (the guide's Derived/Test/ToyasCard.lean, 'card_holds'). Laid BY PROGRAM, IN A SANDBOX (cutbox-door.mjs). By AI agents, Wed Nov 11 2026. No macro, syntax, notation, axiom, sorry.
-/
import Derived.Test.YtpmmdkcfenjiaaaGreatDoorRows
import GoSem.ClaimSeven
namespace Go.Proofs.YtpmmdkcfenjiaaaGreatDoor
namespace Rows

/-- THE TIED CARD OF 'wardroomtop.TopLimits'. -/
def topLimitsCard : Claim7 := { stood := { row := topLimitsRow, standIns := [], harness := (true, "9b5604e08efb2ed6900eed416d30651062d54a03c176cdda9b5a630ede829d25"), looks := true }, kinds := [], alts := [], laidByText := true, laidKinds := [.data, .pinned], laidTests := true, laidLooks := .later }
def TopLimitsCardSaid : Prop := Claim7.holds Tryz.pinned (.plain (OpenSpec.ofChange topLimitsSpec)) topLimitsCard

/-- THE TIED CARD OF 'wardroomtop.TopOwn'. -/
def topOwnCard : Claim7 := { stood := { row := topOwnRow, standIns := [], harness := (true, "9b5604e08efb2ed6900eed416d30651062d54a03c176cdda9b5a630ede829d25"), looks := true }, kinds := [], alts := [], laidByText := true, laidKinds := [.data, .pinned], laidTests := true, laidLooks := .later }
def TopOwnCardSaid : Prop := Claim7.holds Tryz.pinned (.plain (OpenSpec.ofChange topOwnSpec)) topOwnCard

/-- THE TIED CARD OF 'wardroomtop.TopHead'. -/
def topHeadCard : Claim7 := { stood := { row := topHeadRow, standIns := [], harness := (true, "9b5604e08efb2ed6900eed416d30651062d54a03c176cdda9b5a630ede829d25"), looks := true }, kinds := [], alts := [], laidByText := true, laidKinds := [.data, .pinned], laidTests := true, laidLooks := .later }
def TopHeadCardSaid : Prop := Claim7.holds Tryz.pinned (.plain (OpenSpec.ofChange topHeadSpec)) topHeadCard

/-- THE TIED CARD OF 'wardroomtop.TopSee'. -/
def topSeeCard : Claim7 := { stood := { row := topSeeRow, standIns := [], harness := (true, "9b5604e08efb2ed6900eed416d30651062d54a03c176cdda9b5a630ede829d25"), looks := true }, kinds := [], alts := [], laidByText := true, laidKinds := [.data, .pinned], laidTests := true, laidLooks := .later }
def TopSeeCardSaid : Prop := Claim7.holds Tryz.pinned (.plain (OpenSpec.ofChange topSeeSpec)) topSeeCard

/-- THE TIED CARD OF 'wardroomtop.TopGone'. -/
def topGoneCard : Claim7 := { stood := { row := topGoneRow, standIns := [], harness := (true, "9b5604e08efb2ed6900eed416d30651062d54a03c176cdda9b5a630ede829d25"), looks := true }, kinds := [], alts := [], laidByText := true, laidKinds := [.data, .pinned], laidTests := true, laidLooks := .later }
def TopGoneCardSaid : Prop := Claim7.holds Tryz.pinned (.plain (OpenSpec.ofChange topGoneSpec)) topGoneCard

/-- THE TIED CARD OF 'wardroomtop.TopAlone'. -/
def topAloneCard : Claim7 := { stood := { row := topAloneRow, standIns := [], harness := (true, "9b5604e08efb2ed6900eed416d30651062d54a03c176cdda9b5a630ede829d25"), looks := true }, kinds := [], alts := [], laidByText := true, laidKinds := [.data, .pinned], laidTests := true, laidLooks := .later }
def TopAloneCardSaid : Prop := Claim7.holds Tryz.pinned (.plain (OpenSpec.ofChange topAloneSpec)) topAloneCard

/-- THE SECOND FORM's CARD OF 'wardroomtop.TopLimits'. -/
def topLimitsUptoCard : Claim7 := { stood := { row := topLimitsUptoRow, standIns := [], harness := (true, "9b5604e08efb2ed6900eed416d30651062d54a03c176cdda9b5a630ede829d25"), looks := true }, kinds := [], alts := [], laidByText := true, laidKinds := [.data, .pinned], laidTests := true, laidLooks := .later }
def TopLimitsUptoCardSaid : Prop := Claim7.holds Tryz.pinned (.plain (OpenSpec.upto topLimitsSpec)) topLimitsUptoCard

/-- THE SECOND FORM's CARD OF 'wardroomtop.TopOwn'. -/
def topOwnUptoCard : Claim7 := { stood := { row := topOwnUptoRow, standIns := [], harness := (true, "9b5604e08efb2ed6900eed416d30651062d54a03c176cdda9b5a630ede829d25"), looks := true }, kinds := [], alts := [], laidByText := true, laidKinds := [.data, .pinned], laidTests := true, laidLooks := .later }
def TopOwnUptoCardSaid : Prop := Claim7.holds Tryz.pinned (.plain (OpenSpec.upto topOwnSpec)) topOwnUptoCard

/-- THE SECOND FORM's CARD OF 'wardroomtop.TopHead'. -/
def topHeadUptoCard : Claim7 := { stood := { row := topHeadUptoRow, standIns := [], harness := (true, "9b5604e08efb2ed6900eed416d30651062d54a03c176cdda9b5a630ede829d25"), looks := true }, kinds := [], alts := [], laidByText := true, laidKinds := [.data, .pinned], laidTests := true, laidLooks := .later }
def TopHeadUptoCardSaid : Prop := Claim7.holds Tryz.pinned (.plain (OpenSpec.upto topHeadSpec)) topHeadUptoCard

/-- THE SECOND FORM's CARD OF 'wardroomtop.TopSee'. -/
def topSeeUptoCard : Claim7 := { stood := { row := topSeeUptoRow, standIns := [], harness := (true, "9b5604e08efb2ed6900eed416d30651062d54a03c176cdda9b5a630ede829d25"), looks := true }, kinds := [], alts := [], laidByText := true, laidKinds := [.data, .pinned], laidTests := true, laidLooks := .later }
def TopSeeUptoCardSaid : Prop := Claim7.holds Tryz.pinned (.plain (OpenSpec.upto topSeeSpec)) topSeeUptoCard

/-- THE SECOND FORM's CARD OF 'wardroomtop.TopGone'. -/
def topGoneUptoCard : Claim7 := { stood := { row := topGoneUptoRow, standIns := [], harness := (true, "9b5604e08efb2ed6900eed416d30651062d54a03c176cdda9b5a630ede829d25"), looks := true }, kinds := [], alts := [], laidByText := true, laidKinds := [.data, .pinned], laidTests := true, laidLooks := .later }
def TopGoneUptoCardSaid : Prop := Claim7.holds Tryz.pinned (.plain (OpenSpec.upto topGoneSpec)) topGoneUptoCard

/-- THE SECOND FORM's CARD OF 'wardroomtop.TopAlone'. -/
def topAloneUptoCard : Claim7 := { stood := { row := topAloneUptoRow, standIns := [], harness := (true, "9b5604e08efb2ed6900eed416d30651062d54a03c176cdda9b5a630ede829d25"), looks := true }, kinds := [], alts := [], laidByText := true, laidKinds := [.data, .pinned], laidTests := true, laidLooks := .later }
def TopAloneUptoCardSaid : Prop := Claim7.holds Tryz.pinned (.plain (OpenSpec.upto topAloneSpec)) topAloneUptoCard
end Rows
end Go.Proofs.YtpmmdkcfenjiaaaGreatDoor

/-
  No cell of these rows narrows 'for every input' (looked for: loops, veiled, ifaces, maps, wideKeys, modest, calm, conditions, laid).
  DERIVED. THE GIVEN ROWS OF THIS SEAT. 3 by the template 'for every input the law returns true; each argument reads behind the call as it read before'; 0 by the template 'total and deterministic' (their statements: YtghogbngmcolmaaGreatTotals.lean).
  GIVEN WITH THE SEED: the statements are not yours to turn. If you find one false, say at which input.
  Laid BY PROGRAM, IN A SANDBOX (cutbox-rows.mjs): the forced cells as the released guide's own fill.sh prints them over the translation 02b9ad1afa09ec53… (all of the seat's roots in one cut). By AI agents, Wed Nov 11 2026. No macro, syntax, notation, axiom, sorry.
-/
import Derived.Test.YtghogbngmcolmaaGreatChecked
import GoSem.Claim
import GoSem.ClaimJoined
import GoSem.ClaimMapViews
import Derived.JoinedTies
import Derived.KernelRfl
namespace Go.Proofs.YtghogbngmcolmaaGreat
/- THE CELL 'sum', in the pinned program and in every row, IS THE sha256 OF THE DUMP (.gsa) THAT YtghogbngmcolmaaGreatProg.lean LOADS. Nothing in Lean hashes anything: it is a label: what it is worth is what the hold of that sum in a sandbox is worth. -/
noncomputable def Tryz.pinned : Pinned := { name := "ytghogbngmcolmaagreat", sum := "02b9ad1afa09ec53d7d45e0161bca416b8edc12f445f79e94204745deeec637e", checked := Tryz.checked }
namespace Rows
def none {H : Type} : Left H := { results := [], args := [] }

/-- 'wardroomtop.TopTalk': WHATEVER THE INPUT: true; the input reads as it did. -/
def topTalkSpec : ChangeSpec := { name := "topTalk", fn := fun _ => fun
  | [d] => { results := [.lit (.bool true)], args := [d] }
  | _ => none }
def topTalkRow : OpenClaim := { program := "ytghogbngmcolmaagreat", sum := "02b9ad1afa09ec53d7d45e0161bca416b8edc12f445f79e94204745deeec637e", func := "wardroom/wardroomtop.TopTalk", spec := "topTalk", unfollowed := true, recurses := true, apart := false }
def TopTalkSaid : Prop := topTalkRow.holds Tryz.pinned (OpenSpec.ofChange topTalkSpec)

/-- ITS FALSE NEIGHBOUR: 'it returns false'. Refute it at one input. -/
def topTalkWrong : ChangeSpec := { name := "topTalk", fn := fun _ => fun
  | [d] => { results := [.lit (.bool false)], args := [d] }
  | _ => none }
def TopTalkWrongFalsely : Prop := topTalkRow.holds Tryz.pinned (OpenSpec.ofChange topTalkWrong)

/-- 'wardroomtop.TopKids': WHATEVER THE INPUT: true; the input reads as it did. -/
def topKidsSpec : ChangeSpec := { name := "topKids", fn := fun _ => fun
  | [d] => { results := [.lit (.bool true)], args := [d] }
  | _ => none }
def topKidsRow : OpenClaim := { program := "ytghogbngmcolmaagreat", sum := "02b9ad1afa09ec53d7d45e0161bca416b8edc12f445f79e94204745deeec637e", func := "wardroom/wardroomtop.TopKids", spec := "topKids", unfollowed := true, recurses := true, apart := false }
def TopKidsSaid : Prop := topKidsRow.holds Tryz.pinned (OpenSpec.ofChange topKidsSpec)

/-- ITS FALSE NEIGHBOUR: 'it returns false'. Refute it at one input. -/
def topKidsWrong : ChangeSpec := { name := "topKids", fn := fun _ => fun
  | [d] => { results := [.lit (.bool false)], args := [d] }
  | _ => none }
def TopKidsWrongFalsely : Prop := topKidsRow.holds Tryz.pinned (OpenSpec.ofChange topKidsWrong)

/-- 'wardroomtop.TopBroken': WHATEVER THE INPUT: true; the input reads as it did. -/
def topBrokenSpec : ChangeSpec := { name := "topBroken", fn := fun _ => fun
  | [d1, d2, d3] => { results := [.lit (.bool true)], args := [d1, d2, d3] }
  | _ => none }
def topBrokenRow : OpenClaim := { program := "ytghogbngmcolmaagreat", sum := "02b9ad1afa09ec53d7d45e0161bca416b8edc12f445f79e94204745deeec637e", func := "wardroom/wardroomtop.TopBroken", spec := "topBroken", unfollowed := true, recurses := true, apart := false }
def TopBrokenSaid : Prop := topBrokenRow.holds Tryz.pinned (OpenSpec.ofChange topBrokenSpec)

/-- ITS FALSE NEIGHBOUR: 'it returns false'. Refute it at one input. -/
def topBrokenWrong : ChangeSpec := { name := "topBroken", fn := fun _ => fun
  | [d1, d2, d3] => { results := [.lit (.bool false)], args := [d1, d2, d3] }
  | _ => none }
def TopBrokenWrongFalsely : Prop := topBrokenRow.holds Tryz.pinned (OpenSpec.ofChange topBrokenWrong)

/- THE SECOND FORM. 'bulk': how many values and letters a reading holds, each counted each time it is reached (what is shared counts as often as it is met; a slice's spare places count too). A statement '..UptoSaid' is the law's where the arguments, and the package variables that the reading takes, are together of bulk at most 1048576: NARROWER than '..Said'. Prove '..Said' where nothing that the law and all that it calls make is longer than what came in: it says more and counts as full. Else prove '..UptoSaid'. A law counts once. -/
mutual
def uptoBulk {H : Type} : DataW H → Nat
  | .lit (.string bytes) => bytes.length + 1
  | .lit _ => 1
  | .nil => 1
  | .ptr d => uptoBulk d + 1
  | .slice elems spare => uptoBulkAll elems + uptoBulkAll spare + 1
  | .agg parts => uptoBulkAll parts + 1
  | .iface _ d => uptoBulk d + 1
  | .map entries => uptoBulkEntries entries + 1
  | .held _ => 1
def uptoBulkAll {H : Type} : List (DataW H) → Nat
  | [] => 0
  | d :: r => uptoBulk d + uptoBulkAll r
def uptoBulkEntries {H : Type} : List (Lit × DataW H) → Nat
  | [] => 0
  | x :: r => uptoBulkEntry x + uptoBulkEntries r
def uptoBulkEntry {H : Type} : Lit × DataW H → Nat
  | (.string bytes, d) => bytes.length + uptoBulk d + 1
  | (_, d) => uptoBulk d + 1
 end
def uptoSmall : (H : Type) → List (DataW H) → Bool := fun _ ds => decide (uptoBulkAll ds ≤ 1048576)
def OpenSpec.upto (s : _root_.Go.ChangeSpec) : _root_.Go.OpenSpec := { _root_.Go.OpenSpec.ofChange s with cond := some uptoSmall }

/-- 'wardroomtop.TopTalk', WHERE WHAT IT READS IS OF BULK AT MOST 1048576: true; the input reads as it did. -/
def topTalkUptoRow : OpenClaim := { program := "ytghogbngmcolmaagreat", sum := "02b9ad1afa09ec53d7d45e0161bca416b8edc12f445f79e94204745deeec637e", func := "wardroom/wardroomtop.TopTalk", spec := "topTalk", unfollowed := true, recurses := true, apart := false, narrowed := true }
def TopTalkUptoSaid : Prop := topTalkUptoRow.holds Tryz.pinned (OpenSpec.upto topTalkSpec)

/-- 'wardroomtop.TopKids', WHERE WHAT IT READS IS OF BULK AT MOST 1048576: true; the input reads as it did. -/
def topKidsUptoRow : OpenClaim := { program := "ytghogbngmcolmaagreat", sum := "02b9ad1afa09ec53d7d45e0161bca416b8edc12f445f79e94204745deeec637e", func := "wardroom/wardroomtop.TopKids", spec := "topKids", unfollowed := true, recurses := true, apart := false, narrowed := true }
def TopKidsUptoSaid : Prop := topKidsUptoRow.holds Tryz.pinned (OpenSpec.upto topKidsSpec)

/-- 'wardroomtop.TopBroken', WHERE WHAT IT READS IS OF BULK AT MOST 1048576: true; the input reads as it did. -/
def topBrokenUptoRow : OpenClaim := { program := "ytghogbngmcolmaagreat", sum := "02b9ad1afa09ec53d7d45e0161bca416b8edc12f445f79e94204745deeec637e", func := "wardroom/wardroomtop.TopBroken", spec := "topBroken", unfollowed := true, recurses := true, apart := false, narrowed := true }
def TopBrokenUptoSaid : Prop := topBrokenUptoRow.holds Tryz.pinned (OpenSpec.upto topBrokenSpec)

end Rows
end Go.Proofs.YtghogbngmcolmaaGreat

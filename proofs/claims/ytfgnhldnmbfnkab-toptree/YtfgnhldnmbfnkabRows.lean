/-
  No cell of these rows narrows 'for every input' (looked for: loops, veiled, ifaces, maps, wideKeys, modest, calm, conditions, laid).
  DERIVED. THE GIVEN ROWS OF THIS SEAT. 6 by the template 'for every input the law returns true; each argument reads behind the call as it read before'; 0 by the template 'total and deterministic' (their statements: YtfgnhldnmbfnkabTotals.lean).
  GIVEN WITH THE SEED: the statements are not yours to turn. If you find one false, say at which input.
  Laid BY PROGRAM, IN A SANDBOX (cutbox-rows.mjs): the forced cells as the released guide's own fill.sh prints them over the translation 5a61b50eca31615f… (all of the seat's roots in one cut). By AI agents, Wed Nov 11 2026. No macro, syntax, notation, axiom, sorry.
-/
import Derived.Test.YtfgnhldnmbfnkabChecked
import GoSem.Claim
import GoSem.ClaimJoined
import GoSem.ClaimMapViews
import Derived.JoinedTies
import Derived.KernelRfl
namespace Go.Proofs.Ytfgnhldnmbfnkab
/- THE CELL 'sum', in the pinned program and in every row, IS THE sha256 OF THE DUMP (.gsa) THAT YtfgnhldnmbfnkabProg.lean LOADS. Nothing in Lean hashes anything: it is a label: what it is worth is what the hold of that sum in a sandbox is worth. -/
noncomputable def Try.pinned : Pinned := { name := "ytfgnhldnmbfnkab", sum := "5a61b50eca31615f162808725420ab0a9bdd72dd1937b6744a3e900c54faf9d0", checked := Try.checked }
namespace Rows
def none {H : Type} : Left H := { results := [], args := [] }

/-- 'wardroomlaw.VmSays': WHATEVER THE INPUT: true; the input reads as it did. -/
def vmSaysSpec : ChangeSpec := { name := "vmSays", fn := fun _ => fun
  | [d] => { results := [.lit (.bool true)], args := [d] }
  | _ => none }
def vmSaysRow : OpenClaim := { program := "ytfgnhldnmbfnkab", sum := "5a61b50eca31615f162808725420ab0a9bdd72dd1937b6744a3e900c54faf9d0", func := "wardroom/wardroomlaw.VmSays", spec := "vmSays", unfollowed := true, recurses := true, apart := false }
def VmSaysSaid : Prop := vmSaysRow.holds Try.pinned (OpenSpec.ofChange vmSaysSpec)

/-- ITS FALSE NEIGHBOUR: 'it returns false'. Refute it at one input. -/
def vmSaysWrong : ChangeSpec := { name := "vmSays", fn := fun _ => fun
  | [d] => { results := [.lit (.bool false)], args := [d] }
  | _ => none }
def VmSaysWrongFalsely : Prop := vmSaysRow.holds Try.pinned (OpenSpec.ofChange vmSaysWrong)

/-- 'wardroomtop.TopBuddy': WHATEVER THE INPUT: true; the input reads as it did. -/
def topBuddySpec : ChangeSpec := { name := "topBuddy", fn := fun _ => fun
  | [d] => { results := [.lit (.bool true)], args := [d] }
  | _ => none }
def topBuddyRow : OpenClaim := { program := "ytfgnhldnmbfnkab", sum := "5a61b50eca31615f162808725420ab0a9bdd72dd1937b6744a3e900c54faf9d0", func := "wardroom/wardroomtop.TopBuddy", spec := "topBuddy", apart := false }
def TopBuddySaid : Prop := topBuddyRow.holds Try.pinned (OpenSpec.ofChange topBuddySpec)

/-- ITS FALSE NEIGHBOUR: 'it returns false'. Refute it at one input. -/
def topBuddyWrong : ChangeSpec := { name := "topBuddy", fn := fun _ => fun
  | [d] => { results := [.lit (.bool false)], args := [d] }
  | _ => none }
def TopBuddyWrongFalsely : Prop := topBuddyRow.holds Try.pinned (OpenSpec.ofChange topBuddyWrong)

/-- 'wardroomtop.TopVm': WHATEVER THE INPUT: true; the input reads as it did. -/
def topVmSpec : ChangeSpec := { name := "topVm", fn := fun _ => fun
  | [d] => { results := [.lit (.bool true)], args := [d] }
  | _ => none }
def topVmRow : OpenClaim := { program := "ytfgnhldnmbfnkab", sum := "5a61b50eca31615f162808725420ab0a9bdd72dd1937b6744a3e900c54faf9d0", func := "wardroom/wardroomtop.TopVm", spec := "topVm", unfollowed := true, recurses := true, apart := false }
def TopVmSaid : Prop := topVmRow.holds Try.pinned (OpenSpec.ofChange topVmSpec)

/-- ITS FALSE NEIGHBOUR: 'it returns false'. Refute it at one input. -/
def topVmWrong : ChangeSpec := { name := "topVm", fn := fun _ => fun
  | [d] => { results := [.lit (.bool false)], args := [d] }
  | _ => none }
def TopVmWrongFalsely : Prop := topVmRow.holds Try.pinned (OpenSpec.ofChange topVmWrong)

/-- 'wardroomlaw.TreeSays': WHATEVER THE INPUT: true; the input reads as it did. -/
def treeSaysSpec : ChangeSpec := { name := "treeSays", fn := fun _ => fun
  | [d] => { results := [.lit (.bool true)], args := [d] }
  | _ => none }
def treeSaysRow : OpenClaim := { program := "ytfgnhldnmbfnkab", sum := "5a61b50eca31615f162808725420ab0a9bdd72dd1937b6744a3e900c54faf9d0", func := "wardroom/wardroomlaw.TreeSays", spec := "treeSays", unfollowed := true, recurses := true, apart := false }
def TreeSaysSaid : Prop := treeSaysRow.holds Try.pinned (OpenSpec.ofChange treeSaysSpec)

/-- ITS FALSE NEIGHBOUR: 'it returns false'. Refute it at one input. -/
def treeSaysWrong : ChangeSpec := { name := "treeSays", fn := fun _ => fun
  | [d] => { results := [.lit (.bool false)], args := [d] }
  | _ => none }
def TreeSaysWrongFalsely : Prop := treeSaysRow.holds Try.pinned (OpenSpec.ofChange treeSaysWrong)

/-- 'wardroomtop.TopTree': WHATEVER THE INPUT: true; the input reads as it did. -/
def topTreeSpec : ChangeSpec := { name := "topTree", fn := fun _ => fun
  | [d] => { results := [.lit (.bool true)], args := [d] }
  | _ => none }
def topTreeRow : OpenClaim := { program := "ytfgnhldnmbfnkab", sum := "5a61b50eca31615f162808725420ab0a9bdd72dd1937b6744a3e900c54faf9d0", func := "wardroom/wardroomtop.TopTree", spec := "topTree", unfollowed := true, recurses := true, apart := false }
def TopTreeSaid : Prop := topTreeRow.holds Try.pinned (OpenSpec.ofChange topTreeSpec)

/-- ITS FALSE NEIGHBOUR: 'it returns false'. Refute it at one input. -/
def topTreeWrong : ChangeSpec := { name := "topTree", fn := fun _ => fun
  | [d] => { results := [.lit (.bool false)], args := [d] }
  | _ => none }
def TopTreeWrongFalsely : Prop := topTreeRow.holds Try.pinned (OpenSpec.ofChange topTreeWrong)

/-- 'wardroomtop.TopMove': WHATEVER THE INPUT: true; the input reads as it did. -/
def topMoveSpec : ChangeSpec := { name := "topMove", fn := fun _ => fun
  | [d1, d2, d3, d4, d5] => { results := [.lit (.bool true)], args := [d1, d2, d3, d4, d5] }
  | _ => none }
def topMoveRow : OpenClaim := { program := "ytfgnhldnmbfnkab", sum := "5a61b50eca31615f162808725420ab0a9bdd72dd1937b6744a3e900c54faf9d0", func := "wardroom/wardroomtop.TopMove", spec := "topMove", unfollowed := true, recurses := true, apart := false }
def TopMoveSaid : Prop := topMoveRow.holds Try.pinned (OpenSpec.ofChange topMoveSpec)

/-- ITS FALSE NEIGHBOUR: 'it returns false'. Refute it at one input. -/
def topMoveWrong : ChangeSpec := { name := "topMove", fn := fun _ => fun
  | [d1, d2, d3, d4, d5] => { results := [.lit (.bool false)], args := [d1, d2, d3, d4, d5] }
  | _ => none }
def TopMoveWrongFalsely : Prop := topMoveRow.holds Try.pinned (OpenSpec.ofChange topMoveWrong)

/- THE SECOND FORM. 'bulk': how many values and letters a reading holds, each counted each time it is reached (what is shared counts as often as it is met; a slice's spare places count too). A statement '..UptoSaid' is the law's where the arguments, and the package variables that the reading takes, are together of bulk at most 1048576: NARROWER than '..Said'. Prove '..Said' where nothing that the law and all that it calls make is longer than what came in: it says more and counts as full. Else prove '..UptoSaid'. A law counts once. -/
mutual
def uptoBulk {H : Type} : DataW H → Nat
  | .lit (.string bytes) => bytes.length + 1
  | .lit _ => 1
  | .nil => 1
  | .ptr d => uptoBulk d + 1
  | .slice elems spare => uptoBulkAll elems + uptoBulkAll spare + 1
  | .agg parts => uptoBulkAll parts + 1
  | .iface _ d => uptoBulk d + 1
  | .map entries => uptoBulkEntries entries + 1
  | .held _ => 1
def uptoBulkAll {H : Type} : List (DataW H) → Nat
  | [] => 0
  | d :: r => uptoBulk d + uptoBulkAll r
def uptoBulkEntries {H : Type} : List (Lit × DataW H) → Nat
  | [] => 0
  | x :: r => uptoBulkEntry x + uptoBulkEntries r
def uptoBulkEntry {H : Type} : Lit × DataW H → Nat
  | (.string bytes, d) => bytes.length + uptoBulk d + 1
  | (_, d) => uptoBulk d + 1
 end
def uptoSmall : (H : Type) → List (DataW H) → Bool := fun _ ds => decide (uptoBulkAll ds ≤ 1048576)
def OpenSpec.upto (s : _root_.Go.ChangeSpec) : _root_.Go.OpenSpec := { _root_.Go.OpenSpec.ofChange s with cond := some uptoSmall }

/-- 'wardroomlaw.VmSays', WHERE WHAT IT READS IS OF BULK AT MOST 1048576: true; the input reads as it did. -/
def vmSaysUptoRow : OpenClaim := { program := "ytfgnhldnmbfnkab", sum := "5a61b50eca31615f162808725420ab0a9bdd72dd1937b6744a3e900c54faf9d0", func := "wardroom/wardroomlaw.VmSays", spec := "vmSays", unfollowed := true, recurses := true, apart := false, narrowed := true }
def VmSaysUptoSaid : Prop := vmSaysUptoRow.holds Try.pinned (OpenSpec.upto vmSaysSpec)

/-- 'wardroomtop.TopBuddy', WHERE WHAT IT READS IS OF BULK AT MOST 1048576: true; the input reads as it did. -/
def topBuddyUptoRow : OpenClaim := { program := "ytfgnhldnmbfnkab", sum := "5a61b50eca31615f162808725420ab0a9bdd72dd1937b6744a3e900c54faf9d0", func := "wardroom/wardroomtop.TopBuddy", spec := "topBuddy", apart := false, narrowed := true }
def TopBuddyUptoSaid : Prop := topBuddyUptoRow.holds Try.pinned (OpenSpec.upto topBuddySpec)

/-- 'wardroomtop.TopVm', WHERE WHAT IT READS IS OF BULK AT MOST 1048576: true; the input reads as it did. -/
def topVmUptoRow : OpenClaim := { program := "ytfgnhldnmbfnkab", sum := "5a61b50eca31615f162808725420ab0a9bdd72dd1937b6744a3e900c54faf9d0", func := "wardroom/wardroomtop.TopVm", spec := "topVm", unfollowed := true, recurses := true, apart := false, narrowed := true }
def TopVmUptoSaid : Prop := topVmUptoRow.holds Try.pinned (OpenSpec.upto topVmSpec)

/-- 'wardroomlaw.TreeSays', WHERE WHAT IT READS IS OF BULK AT MOST 1048576: true; the input reads as it did. -/
def treeSaysUptoRow : OpenClaim := { program := "ytfgnhldnmbfnkab", sum := "5a61b50eca31615f162808725420ab0a9bdd72dd1937b6744a3e900c54faf9d0", func := "wardroom/wardroomlaw.TreeSays", spec := "treeSays", unfollowed := true, recurses := true, apart := false, narrowed := true }
def TreeSaysUptoSaid : Prop := treeSaysUptoRow.holds Try.pinned (OpenSpec.upto treeSaysSpec)

/-- 'wardroomtop.TopTree', WHERE WHAT IT READS IS OF BULK AT MOST 1048576: true; the input reads as it did. -/
def topTreeUptoRow : OpenClaim := { program := "ytfgnhldnmbfnkab", sum := "5a61b50eca31615f162808725420ab0a9bdd72dd1937b6744a3e900c54faf9d0", func := "wardroom/wardroomtop.TopTree", spec := "topTree", unfollowed := true, recurses := true, apart := false, narrowed := true }
def TopTreeUptoSaid : Prop := topTreeUptoRow.holds Try.pinned (OpenSpec.upto topTreeSpec)

/-- 'wardroomtop.TopMove', WHERE WHAT IT READS IS OF BULK AT MOST 1048576: true; the input reads as it did. -/
def topMoveUptoRow : OpenClaim := { program := "ytfgnhldnmbfnkab", sum := "5a61b50eca31615f162808725420ab0a9bdd72dd1937b6744a3e900c54faf9d0", func := "wardroom/wardroomtop.TopMove", spec := "topMove", unfollowed := true, recurses := true, apart := false, narrowed := true }
def TopMoveUptoSaid : Prop := topMoveUptoRow.holds Try.pinned (OpenSpec.upto topMoveSpec)

end Rows
end Go.Proofs.Ytfgnhldnmbfnkab

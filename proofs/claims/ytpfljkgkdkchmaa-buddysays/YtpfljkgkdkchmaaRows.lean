/-
  No cell of these rows narrows 'for every input' (looked for: loops, veiled, ifaces, maps, wideKeys, modest, calm, conditions, laid).
  DERIVED. THE GIVEN ROWS OF THIS SEAT. 11 by the template 'for every input the law returns true; each argument reads behind the call as it read before'; 0 by the template 'total and deterministic' (their statements: YtpfljkgkdkchmaaTotals.lean).
  GIVEN WITH THE SEED: the statements are not yours to turn. If you find one false, say at which input.
  Laid BY PROGRAM, IN A SANDBOX (cutbox-rows.mjs): the forced cells as the released guide's own fill.sh prints them over the translation c539f2a78b002cf3… (all of the seat's roots in one cut). By AI agents, Wed Nov 11 2026. No macro, syntax, notation, axiom, sorry.
-/
import Derived.Test.YtpfljkgkdkchmaaChecked
import GoSem.Claim
import GoSem.ClaimJoined
import GoSem.ClaimMapViews
import Derived.JoinedTies
import Derived.KernelRfl
namespace Go.Proofs.Ytpfljkgkdkchmaa
/- THE CELL 'sum', in the pinned program and in every row, IS THE sha256 OF THE DUMP (.gsa) THAT YtpfljkgkdkchmaaProg.lean LOADS. Nothing in Lean hashes anything: it is a label: what it is worth is what the hold of that sum in a sandbox is worth. -/
noncomputable def Try.pinned : Pinned := { name := "ytpfljkgkdkchmaa", sum := "c539f2a78b002cf3b9a27707aa4a3b5a18b6e9c63dcf6b13be6d62fd91e4b239", checked := Try.checked }
namespace Rows
def none {H : Type} : Left H := { results := [], args := [] }

/-- 'wardroomlaw.QueueSays': WHATEVER THE INPUT: true; the input reads as it did. -/
def queueSaysSpec : ChangeSpec := { name := "queueSays", fn := fun _ => fun
  | [d] => { results := [.lit (.bool true)], args := [d] }
  | _ => none }
def queueSaysRow : OpenClaim := { program := "ytpfljkgkdkchmaa", sum := "c539f2a78b002cf3b9a27707aa4a3b5a18b6e9c63dcf6b13be6d62fd91e4b239", func := "wardroom/wardroomlaw.QueueSays", spec := "queueSays", unfollowed := true, recurses := true, apart := false }
def QueueSaysSaid : Prop := queueSaysRow.holds Try.pinned (OpenSpec.ofChange queueSaysSpec)

/-- ITS FALSE NEIGHBOUR: 'it returns false'. Refute it at one input. -/
def queueSaysWrong : ChangeSpec := { name := "queueSays", fn := fun _ => fun
  | [d] => { results := [.lit (.bool false)], args := [d] }
  | _ => none }
def QueueSaysWrongFalsely : Prop := queueSaysRow.holds Try.pinned (OpenSpec.ofChange queueSaysWrong)

/-- 'wardroomlaw.GroupsSays': WHATEVER THE INPUT: true; the input reads as it did. -/
def groupsSaysSpec : ChangeSpec := { name := "groupsSays", fn := fun _ => fun
  | [d] => { results := [.lit (.bool true)], args := [d] }
  | _ => none }
def groupsSaysRow : OpenClaim := { program := "ytpfljkgkdkchmaa", sum := "c539f2a78b002cf3b9a27707aa4a3b5a18b6e9c63dcf6b13be6d62fd91e4b239", func := "wardroom/wardroomlaw.GroupsSays", spec := "groupsSays", unfollowed := true, recurses := true, apart := false }
def GroupsSaysSaid : Prop := groupsSaysRow.holds Try.pinned (OpenSpec.ofChange groupsSaysSpec)

/-- ITS FALSE NEIGHBOUR: 'it returns false'. Refute it at one input. -/
def groupsSaysWrong : ChangeSpec := { name := "groupsSays", fn := fun _ => fun
  | [d] => { results := [.lit (.bool false)], args := [d] }
  | _ => none }
def GroupsSaysWrongFalsely : Prop := groupsSaysRow.holds Try.pinned (OpenSpec.ofChange groupsSaysWrong)

/-- 'wardroomtop.TopQueue': WHATEVER THE INPUT: true; the input reads as it did. -/
def topQueueSpec : ChangeSpec := { name := "topQueue", fn := fun _ => fun
  | [d1, d2] => { results := [.lit (.bool true)], args := [d1, d2] }
  | _ => none }
def topQueueRow : OpenClaim := { program := "ytpfljkgkdkchmaa", sum := "c539f2a78b002cf3b9a27707aa4a3b5a18b6e9c63dcf6b13be6d62fd91e4b239", func := "wardroom/wardroomtop.TopQueue", spec := "topQueue", apart := false }
def TopQueueSaid : Prop := topQueueRow.holds Try.pinned (OpenSpec.ofChange topQueueSpec)

/-- ITS FALSE NEIGHBOUR: 'it returns false'. Refute it at one input. -/
def topQueueWrong : ChangeSpec := { name := "topQueue", fn := fun _ => fun
  | [d1, d2] => { results := [.lit (.bool false)], args := [d1, d2] }
  | _ => none }
def TopQueueWrongFalsely : Prop := topQueueRow.holds Try.pinned (OpenSpec.ofChange topQueueWrong)

/-- 'wardroomtop.TopGroups': WHATEVER THE INPUT: true; the input reads as it did. -/
def topGroupsSpec : ChangeSpec := { name := "topGroups", fn := fun _ => fun
  | [d] => { results := [.lit (.bool true)], args := [d] }
  | _ => none }
def topGroupsRow : OpenClaim := { program := "ytpfljkgkdkchmaa", sum := "c539f2a78b002cf3b9a27707aa4a3b5a18b6e9c63dcf6b13be6d62fd91e4b239", func := "wardroom/wardroomtop.TopGroups", spec := "topGroups", unfollowed := true, recurses := true, apart := false }
def TopGroupsSaid : Prop := topGroupsRow.holds Try.pinned (OpenSpec.ofChange topGroupsSpec)

/-- ITS FALSE NEIGHBOUR: 'it returns false'. Refute it at one input. -/
def topGroupsWrong : ChangeSpec := { name := "topGroups", fn := fun _ => fun
  | [d] => { results := [.lit (.bool false)], args := [d] }
  | _ => none }
def TopGroupsWrongFalsely : Prop := topGroupsRow.holds Try.pinned (OpenSpec.ofChange topGroupsWrong)

/-- 'wardroomlaw.FairSays': WHATEVER THE INPUT: true; the input reads as it did. -/
def fairSaysSpec : ChangeSpec := { name := "fairSays", fn := fun _ => fun
  | [d] => { results := [.lit (.bool true)], args := [d] }
  | _ => none }
def fairSaysRow : OpenClaim := { program := "ytpfljkgkdkchmaa", sum := "c539f2a78b002cf3b9a27707aa4a3b5a18b6e9c63dcf6b13be6d62fd91e4b239", func := "wardroom/wardroomlaw.FairSays", spec := "fairSays", apart := false }
def FairSaysSaid : Prop := fairSaysRow.holds Try.pinned (OpenSpec.ofChange fairSaysSpec)

/-- ITS FALSE NEIGHBOUR: 'it returns false'. Refute it at one input. -/
def fairSaysWrong : ChangeSpec := { name := "fairSays", fn := fun _ => fun
  | [d] => { results := [.lit (.bool false)], args := [d] }
  | _ => none }
def FairSaysWrongFalsely : Prop := fairSaysRow.holds Try.pinned (OpenSpec.ofChange fairSaysWrong)

/-- 'wardroomtop.TopFair': WHATEVER THE INPUT: true; the input reads as it did. -/
def topFairSpec : ChangeSpec := { name := "topFair", fn := fun _ => fun
  | [d1, d2, d3] => { results := [.lit (.bool true)], args := [d1, d2, d3] }
  | _ => none }
def topFairRow : OpenClaim := { program := "ytpfljkgkdkchmaa", sum := "c539f2a78b002cf3b9a27707aa4a3b5a18b6e9c63dcf6b13be6d62fd91e4b239", func := "wardroom/wardroomtop.TopFair", spec := "topFair", apart := false }
def TopFairSaid : Prop := topFairRow.holds Try.pinned (OpenSpec.ofChange topFairSpec)

/-- ITS FALSE NEIGHBOUR: 'it returns false'. Refute it at one input. -/
def topFairWrong : ChangeSpec := { name := "topFair", fn := fun _ => fun
  | [d1, d2, d3] => { results := [.lit (.bool false)], args := [d1, d2, d3] }
  | _ => none }
def TopFairWrongFalsely : Prop := topFairRow.holds Try.pinned (OpenSpec.ofChange topFairWrong)

/-- 'wardroomtop.TopQuota': WHATEVER THE INPUT: true; the input reads as it did. -/
def topQuotaSpec : ChangeSpec := { name := "topQuota", fn := fun _ => fun
  | [d1, d2, d3] => { results := [.lit (.bool true)], args := [d1, d2, d3] }
  | _ => none }
def topQuotaRow : OpenClaim := { program := "ytpfljkgkdkchmaa", sum := "c539f2a78b002cf3b9a27707aa4a3b5a18b6e9c63dcf6b13be6d62fd91e4b239", func := "wardroom/wardroomtop.TopQuota", spec := "topQuota", apart := false }
def TopQuotaSaid : Prop := topQuotaRow.holds Try.pinned (OpenSpec.ofChange topQuotaSpec)

/-- ITS FALSE NEIGHBOUR: 'it returns false'. Refute it at one input. -/
def topQuotaWrong : ChangeSpec := { name := "topQuota", fn := fun _ => fun
  | [d1, d2, d3] => { results := [.lit (.bool false)], args := [d1, d2, d3] }
  | _ => none }
def TopQuotaWrongFalsely : Prop := topQuotaRow.holds Try.pinned (OpenSpec.ofChange topQuotaWrong)

/-- 'wardroomtop.TopWake': WHATEVER THE INPUT: true; the input reads as it did. -/
def topWakeSpec : ChangeSpec := { name := "topWake", fn := fun _ => fun
  | [d1, d2] => { results := [.lit (.bool true)], args := [d1, d2] }
  | _ => none }
def topWakeRow : OpenClaim := { program := "ytpfljkgkdkchmaa", sum := "c539f2a78b002cf3b9a27707aa4a3b5a18b6e9c63dcf6b13be6d62fd91e4b239", func := "wardroom/wardroomtop.TopWake", spec := "topWake", apart := false }
def TopWakeSaid : Prop := topWakeRow.holds Try.pinned (OpenSpec.ofChange topWakeSpec)

/-- ITS FALSE NEIGHBOUR: 'it returns false'. Refute it at one input. -/
def topWakeWrong : ChangeSpec := { name := "topWake", fn := fun _ => fun
  | [d1, d2] => { results := [.lit (.bool false)], args := [d1, d2] }
  | _ => none }
def TopWakeWrongFalsely : Prop := topWakeRow.holds Try.pinned (OpenSpec.ofChange topWakeWrong)

/-- 'wardroomlaw.SpacesSays': WHATEVER THE INPUT: true; the input reads as it did. -/
def spacesSaysSpec : ChangeSpec := { name := "spacesSays", fn := fun _ => fun
  | [d] => { results := [.lit (.bool true)], args := [d] }
  | _ => none }
def spacesSaysRow : OpenClaim := { program := "ytpfljkgkdkchmaa", sum := "c539f2a78b002cf3b9a27707aa4a3b5a18b6e9c63dcf6b13be6d62fd91e4b239", func := "wardroom/wardroomlaw.SpacesSays", spec := "spacesSays", apart := false }
def SpacesSaysSaid : Prop := spacesSaysRow.holds Try.pinned (OpenSpec.ofChange spacesSaysSpec)

/-- ITS FALSE NEIGHBOUR: 'it returns false'. Refute it at one input. -/
def spacesSaysWrong : ChangeSpec := { name := "spacesSays", fn := fun _ => fun
  | [d] => { results := [.lit (.bool false)], args := [d] }
  | _ => none }
def SpacesSaysWrongFalsely : Prop := spacesSaysRow.holds Try.pinned (OpenSpec.ofChange spacesSaysWrong)

/-- 'wardroomtop.TopSpaces': WHATEVER THE INPUT: true; the input reads as it did. -/
def topSpacesSpec : ChangeSpec := { name := "topSpaces", fn := fun _ => fun
  | [d] => { results := [.lit (.bool true)], args := [d] }
  | _ => none }
def topSpacesRow : OpenClaim := { program := "ytpfljkgkdkchmaa", sum := "c539f2a78b002cf3b9a27707aa4a3b5a18b6e9c63dcf6b13be6d62fd91e4b239", func := "wardroom/wardroomtop.TopSpaces", spec := "topSpaces", apart := false }
def TopSpacesSaid : Prop := topSpacesRow.holds Try.pinned (OpenSpec.ofChange topSpacesSpec)

/-- ITS FALSE NEIGHBOUR: 'it returns false'. Refute it at one input. -/
def topSpacesWrong : ChangeSpec := { name := "topSpaces", fn := fun _ => fun
  | [d] => { results := [.lit (.bool false)], args := [d] }
  | _ => none }
def TopSpacesWrongFalsely : Prop := topSpacesRow.holds Try.pinned (OpenSpec.ofChange topSpacesWrong)

/-- 'wardroomlaw.BuddySays': WHATEVER THE INPUT: true; the input reads as it did. -/
def buddySaysSpec : ChangeSpec := { name := "buddySays", fn := fun _ => fun
  | [d] => { results := [.lit (.bool true)], args := [d] }
  | _ => none }
def buddySaysRow : OpenClaim := { program := "ytpfljkgkdkchmaa", sum := "c539f2a78b002cf3b9a27707aa4a3b5a18b6e9c63dcf6b13be6d62fd91e4b239", func := "wardroom/wardroomlaw.BuddySays", spec := "buddySays", apart := false }
def BuddySaysSaid : Prop := buddySaysRow.holds Try.pinned (OpenSpec.ofChange buddySaysSpec)

/-- ITS FALSE NEIGHBOUR: 'it returns false'. Refute it at one input. -/
def buddySaysWrong : ChangeSpec := { name := "buddySays", fn := fun _ => fun
  | [d] => { results := [.lit (.bool false)], args := [d] }
  | _ => none }
def BuddySaysWrongFalsely : Prop := buddySaysRow.holds Try.pinned (OpenSpec.ofChange buddySaysWrong)

/- THE SECOND FORM. 'bulk': how many values and letters a reading holds, each counted each time it is reached (what is shared counts as often as it is met; a slice's spare places count too). A statement '..UptoSaid' is the law's where the arguments, and the package variables that the reading takes, are together of bulk at most 1048576: NARROWER than '..Said'. Prove '..Said' where nothing that the law and all that it calls make is longer than what came in: it says more and counts as full. Else prove '..UptoSaid'. A law counts once. -/
mutual
def uptoBulk {H : Type} : DataW H → Nat
  | .lit (.string bytes) => bytes.length + 1
  | .lit _ => 1
  | .nil => 1
  | .ptr d => uptoBulk d + 1
  | .slice elems spare => uptoBulkAll elems + uptoBulkAll spare + 1
  | .agg parts => uptoBulkAll parts + 1
  | .iface _ d => uptoBulk d + 1
  | .map entries => uptoBulkEntries entries + 1
  | .held _ => 1
def uptoBulkAll {H : Type} : List (DataW H) → Nat
  | [] => 0
  | d :: r => uptoBulk d + uptoBulkAll r
def uptoBulkEntries {H : Type} : List (Lit × DataW H) → Nat
  | [] => 0
  | x :: r => uptoBulkEntry x + uptoBulkEntries r
def uptoBulkEntry {H : Type} : Lit × DataW H → Nat
  | (.string bytes, d) => bytes.length + uptoBulk d + 1
  | (_, d) => uptoBulk d + 1
 end
def uptoSmall : (H : Type) → List (DataW H) → Bool := fun _ ds => decide (uptoBulkAll ds ≤ 1048576)
def OpenSpec.upto (s : _root_.Go.ChangeSpec) : _root_.Go.OpenSpec := { _root_.Go.OpenSpec.ofChange s with cond := some uptoSmall }

/-- 'wardroomlaw.QueueSays', WHERE WHAT IT READS IS OF BULK AT MOST 1048576: true; the input reads as it did. -/
def queueSaysUptoRow : OpenClaim := { program := "ytpfljkgkdkchmaa", sum := "c539f2a78b002cf3b9a27707aa4a3b5a18b6e9c63dcf6b13be6d62fd91e4b239", func := "wardroom/wardroomlaw.QueueSays", spec := "queueSays", unfollowed := true, recurses := true, apart := false, narrowed := true }
def QueueSaysUptoSaid : Prop := queueSaysUptoRow.holds Try.pinned (OpenSpec.upto queueSaysSpec)

/-- 'wardroomlaw.GroupsSays', WHERE WHAT IT READS IS OF BULK AT MOST 1048576: true; the input reads as it did. -/
def groupsSaysUptoRow : OpenClaim := { program := "ytpfljkgkdkchmaa", sum := "c539f2a78b002cf3b9a27707aa4a3b5a18b6e9c63dcf6b13be6d62fd91e4b239", func := "wardroom/wardroomlaw.GroupsSays", spec := "groupsSays", unfollowed := true, recurses := true, apart := false, narrowed := true }
def GroupsSaysUptoSaid : Prop := groupsSaysUptoRow.holds Try.pinned (OpenSpec.upto groupsSaysSpec)

/-- 'wardroomtop.TopQueue', WHERE WHAT IT READS IS OF BULK AT MOST 1048576: true; the input reads as it did. -/
def topQueueUptoRow : OpenClaim := { program := "ytpfljkgkdkchmaa", sum := "c539f2a78b002cf3b9a27707aa4a3b5a18b6e9c63dcf6b13be6d62fd91e4b239", func := "wardroom/wardroomtop.TopQueue", spec := "topQueue", apart := false, narrowed := true }
def TopQueueUptoSaid : Prop := topQueueUptoRow.holds Try.pinned (OpenSpec.upto topQueueSpec)

/-- 'wardroomtop.TopGroups', WHERE WHAT IT READS IS OF BULK AT MOST 1048576: true; the input reads as it did. -/
def topGroupsUptoRow : OpenClaim := { program := "ytpfljkgkdkchmaa", sum := "c539f2a78b002cf3b9a27707aa4a3b5a18b6e9c63dcf6b13be6d62fd91e4b239", func := "wardroom/wardroomtop.TopGroups", spec := "topGroups", unfollowed := true, recurses := true, apart := false, narrowed := true }
def TopGroupsUptoSaid : Prop := topGroupsUptoRow.holds Try.pinned (OpenSpec.upto topGroupsSpec)

/-- 'wardroomlaw.FairSays', WHERE WHAT IT READS IS OF BULK AT MOST 1048576: true; the input reads as it did. -/
def fairSaysUptoRow : OpenClaim := { program := "ytpfljkgkdkchmaa", sum := "c539f2a78b002cf3b9a27707aa4a3b5a18b6e9c63dcf6b13be6d62fd91e4b239", func := "wardroom/wardroomlaw.FairSays", spec := "fairSays", apart := false, narrowed := true }
def FairSaysUptoSaid : Prop := fairSaysUptoRow.holds Try.pinned (OpenSpec.upto fairSaysSpec)

/-- 'wardroomtop.TopFair', WHERE WHAT IT READS IS OF BULK AT MOST 1048576: true; the input reads as it did. -/
def topFairUptoRow : OpenClaim := { program := "ytpfljkgkdkchmaa", sum := "c539f2a78b002cf3b9a27707aa4a3b5a18b6e9c63dcf6b13be6d62fd91e4b239", func := "wardroom/wardroomtop.TopFair", spec := "topFair", apart := false, narrowed := true }
def TopFairUptoSaid : Prop := topFairUptoRow.holds Try.pinned (OpenSpec.upto topFairSpec)

/-- 'wardroomtop.TopQuota', WHERE WHAT IT READS IS OF BULK AT MOST 1048576: true; the input reads as it did. -/
def topQuotaUptoRow : OpenClaim := { program := "ytpfljkgkdkchmaa", sum := "c539f2a78b002cf3b9a27707aa4a3b5a18b6e9c63dcf6b13be6d62fd91e4b239", func := "wardroom/wardroomtop.TopQuota", spec := "topQuota", apart := false, narrowed := true }
def TopQuotaUptoSaid : Prop := topQuotaUptoRow.holds Try.pinned (OpenSpec.upto topQuotaSpec)

/-- 'wardroomtop.TopWake', WHERE WHAT IT READS IS OF BULK AT MOST 1048576: true; the input reads as it did. -/
def topWakeUptoRow : OpenClaim := { program := "ytpfljkgkdkchmaa", sum := "c539f2a78b002cf3b9a27707aa4a3b5a18b6e9c63dcf6b13be6d62fd91e4b239", func := "wardroom/wardroomtop.TopWake", spec := "topWake", apart := false, narrowed := true }
def TopWakeUptoSaid : Prop := topWakeUptoRow.holds Try.pinned (OpenSpec.upto topWakeSpec)

/-- 'wardroomlaw.SpacesSays', WHERE WHAT IT READS IS OF BULK AT MOST 1048576: true; the input reads as it did. -/
def spacesSaysUptoRow : OpenClaim := { program := "ytpfljkgkdkchmaa", sum := "c539f2a78b002cf3b9a27707aa4a3b5a18b6e9c63dcf6b13be6d62fd91e4b239", func := "wardroom/wardroomlaw.SpacesSays", spec := "spacesSays", apart := false, narrowed := true }
def SpacesSaysUptoSaid : Prop := spacesSaysUptoRow.holds Try.pinned (OpenSpec.upto spacesSaysSpec)

/-- 'wardroomtop.TopSpaces', WHERE WHAT IT READS IS OF BULK AT MOST 1048576: true; the input reads as it did. -/
def topSpacesUptoRow : OpenClaim := { program := "ytpfljkgkdkchmaa", sum := "c539f2a78b002cf3b9a27707aa4a3b5a18b6e9c63dcf6b13be6d62fd91e4b239", func := "wardroom/wardroomtop.TopSpaces", spec := "topSpaces", apart := false, narrowed := true }
def TopSpacesUptoSaid : Prop := topSpacesUptoRow.holds Try.pinned (OpenSpec.upto topSpacesSpec)

/-- 'wardroomlaw.BuddySays', WHERE WHAT IT READS IS OF BULK AT MOST 1048576: true; the input reads as it did. -/
def buddySaysUptoRow : OpenClaim := { program := "ytpfljkgkdkchmaa", sum := "c539f2a78b002cf3b9a27707aa4a3b5a18b6e9c63dcf6b13be6d62fd91e4b239", func := "wardroom/wardroomlaw.BuddySays", spec := "buddySays", apart := false, narrowed := true }
def BuddySaysUptoSaid : Prop := buddySaysUptoRow.holds Try.pinned (OpenSpec.upto buddySaysSpec)

end Rows
end Go.Proofs.Ytpfljkgkdkchmaa

/-
  PROVED: no group comes to have more than its limits by what processes do; each has what is charged to it and below it; who runs is live (M1 to M7): the call of TopLimits returns true for every list of acts. No condition of its own; the card ties two tables of the library (unicode/utf8), which this road never reads.
-/
import Derived.Test.YtpmmdkcfenjiaaaGreatDoorRows
import Derived.Test.YtpmmdkcfenjiaaaGreatDoorCards
import Derived.Test.YtpmmdkcfenjiaaaGreatDoorTie
import Derived.Test.YtpmmdkcfenjiaaaGreatDoorYaa
import Derived.Test.YtpmmdkcfenjiaaaGreatDoorYas
import Derived.WalkKit
import Derived.ProofKit
import Derived.OpenShut
import Derived.LaidMore
import Derived.Lay
import Derived.SevenTiedAt
import Derived.Stop.Joined
import Derived.ChangeOld
import Derived.Below
namespace Go.Proofs.YtpmmdkcfenjiaaaGreatDoor.LiP
open Go.ChangeShapes Go.WideShapes Go.ChangeAt Go.RowKit
set_option linter.unusedVariables false
theorem over:Rows.TopLimitsSaid:=
 OpenClaim.holds_of_wide 3 Tryz.f3 rfl rfl rfl rfl rfl rfl rfl ⟨rfl,rfl,rfl,rfl,rfl⟩ rfl rfl rfl rfl rfl (by as_aux_lemma=>kernel_rfl) Tryz.func3 closed
  (of_decide_eq_true (by as_aux_lemma=>kernel_rfl)) (by unfold Func.isWrapper;first|(rw[aJ (by decide+kernel)];kernel_rfl)|(rw[aI (by decide+kernel)];exact⟨rfl,rfl⟩))
  (fun os started H enc _=>lifted os started H enc)
end Go.Proofs.YtpmmdkcfenjiaaaGreatDoor.LiP
namespace Go.Proofs.YtpmmdkcfenjiaaaGreatDoor
theorem topLimits_card:Rows.TopLimitsCardSaid:=
 Claim7.holds_tied_plain_at .later [] [.data, .pinned] true (true, "9b5604e08efb2ed6900eed416d30651062d54a03c176cdda9b5a630ede829d25") true LiP.over (fun _ h=>by cases h) (by as_aux_lemma=>kernel_rfl) (fun _ h=>by cases h) topLimits_row_tie rfl ⟨rfl,rfl⟩ (by as_aux_lemma=>kernel_rfl) rfl
  (fun f fn hf hfn=>by
   obtain rfl:f=3:=Option.some.inj ((show Tryz.prog.funcNamed "wardroom/wardroomtop.TopLimits" =some 3 by as_aux_lemma=>kernel_rfl).symm.trans hf)|>.symm;obtain rfl:fn=Tryz.f3:=(Option.some.inj (Tryz.func3.symm.trans hfn)).symm;exact⟨by as_aux_lemma=>kernel_rfl,fun j t ht=>by
    rw[Tryz.params3]at ht;have hm:t∈[22]:=by simpa using Array.mem_of_getElem? ht
    have hall:([22].all fun u=> !Tryz.prog.wantsStandIn u)=true:=by as_aux_lemma=>kernel_rfl
    exact(show Tryz.prog.wantsStandIn t=false by simpa using List.all_eq_true.1 hall t hm)⟩)
  (by as_aux_lemma=>kernel_rfl)
#print axioms topLimits_card
end Go.Proofs.YtpmmdkcfenjiaaaGreatDoor

/-
  PROVED: when the head of a space ends, nobody in it, or below it, is any more; others are as they were (M3): the call of TopHead returns true for every list of acts and every code. No condition of its own; the card ties two tables of the library (unicode/utf8), which this road never reads.
-/
import Derived.Test.YtpmmdkcfenjiaaaGreatDoorRows
import Derived.Test.YtpmmdkcfenjiaaaGreatDoorCards
import Derived.Test.YtpmmdkcfenjiaaaGreatDoorTie
import Derived.Test.YtpmmdkcfenjiaaaGreatDoorVaa
import Derived.Test.YtpmmdkcfenjiaaaGreatDoorVbp
import Derived.WalkKit
import Derived.ProofKit
import Derived.OpenShut
import Derived.LaidMore
import Derived.Lay
import Derived.SevenTiedAt
import Derived.Stop.Joined
import Derived.ChangeOld
import Derived.Below
namespace Go.Proofs.YtpmmdkcfenjiaaaGreatDoor.HdP
open Go.ChangeShapes Go.WideShapes Go.ChangeAt Go.RowKit
set_option linter.unusedVariables false
theorem over:Rows.TopHeadSaid:=
 OpenClaim.holds_of_wide 5 Tryz.f5 rfl rfl rfl rfl rfl rfl rfl ⟨rfl,rfl,rfl,rfl,rfl⟩ rfl rfl rfl rfl rfl (by as_aux_lemma=>kernel_rfl) Tryz.func5 closed
  (of_decide_eq_true (by as_aux_lemma=>kernel_rfl)) (by unfold Func.isWrapper;first|(rw[if_pos (by decide+kernel)];kernel_rfl)|(rw[if_neg (by decide+kernel)];exact⟨rfl,rfl⟩))
  (fun os started H enc _=>lifted os started H enc)
end Go.Proofs.YtpmmdkcfenjiaaaGreatDoor.HdP
namespace Go.Proofs.YtpmmdkcfenjiaaaGreatDoor
theorem topHead_card:Rows.TopHeadCardSaid:=
 Claim7.holds_tied_plain_at .later [] [.data, .pinned] true (true, "9b5604e08efb2ed6900eed416d30651062d54a03c176cdda9b5a630ede829d25") true HdP.over (fun _ h=>by cases h) (by as_aux_lemma=>kernel_rfl) (fun _ h=>by cases h) topHead_row_tie rfl ⟨rfl,rfl⟩ (by as_aux_lemma=>kernel_rfl) rfl
  (fun f fn hf hfn=>by
   obtain rfl:f=5:=Option.some.inj ((show Tryz.prog.funcNamed "wardroom/wardroomtop.TopHead" =some 5 by as_aux_lemma=>kernel_rfl).symm.trans hf)|>.symm;obtain rfl:fn=Tryz.f5:=(Option.some.inj (Tryz.func5.symm.trans hfn)).symm;exact⟨by as_aux_lemma=>kernel_rfl,fun j t ht=>by
    rw[Tryz.params5]at ht;have hm:t∈[22,3]:=by simpa using Array.mem_of_getElem? ht
    have hall:([22,3].all fun u=> !Tryz.prog.wantsStandIn u)=true:=by as_aux_lemma=>kernel_rfl
    exact(show Tryz.prog.wantsStandIn t=false by simpa using List.all_eq_true.1 hall t hm)⟩)
  (by as_aux_lemma=>kernel_rfl)
#print axioms topHead_card
end Go.Proofs.YtpmmdkcfenjiaaaGreatDoor

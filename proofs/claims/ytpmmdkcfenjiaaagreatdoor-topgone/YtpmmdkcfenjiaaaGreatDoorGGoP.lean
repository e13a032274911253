/-
  PROVED: when all but the process 0 have ended, and were waited for, no page, no open file, no pipe, no space but the root, no charge is left (M2 to M9): the call of TopGone returns true for every list of acts. No condition of its own; the card ties two tables of the library (unicode/utf8), which this road never reads.
-/
import Derived.Test.YtpmmdkcfenjiaaaGreatDoorRows
import Derived.Test.YtpmmdkcfenjiaaaGreatDoorCards
import Derived.Test.YtpmmdkcfenjiaaaGreatDoorTie
import Derived.Test.YtpmmdkcfenjiaaaGreatDoorGaa
import Derived.Test.YtpmmdkcfenjiaaaGreatDoorGau
import Derived.WalkKit
import Derived.ProofKit
import Derived.OpenShut
import Derived.LaidMore
import Derived.Lay
import Derived.SevenTiedAt
import Derived.Stop.Joined
import Derived.ChangeOld
import Derived.Below
namespace Go.Proofs.YtpmmdkcfenjiaaaGreatDoor.GoP
open Go.ChangeShapes Go.WideShapes Go.ChangeAt Go.RowKit
set_option linter.unusedVariables false
theorem over:Rows.TopGoneSaid:=
 OpenClaim.holds_of_wide 7 Tryz.f7 rfl rfl rfl rfl rfl rfl rfl ⟨rfl,rfl,rfl,rfl,rfl⟩ rfl rfl rfl rfl rfl (by as_aux_lemma=>kernel_rfl) Tryz.func7 closed
  (of_decide_eq_true (by as_aux_lemma=>kernel_rfl)) (by unfold Func.isWrapper;first|(rw[aJ (by decide+kernel)];kernel_rfl)|(rw[aI (by decide+kernel)];exact⟨rfl,rfl⟩))
  (fun os started H enc _=>lifted os started H enc)
end Go.Proofs.YtpmmdkcfenjiaaaGreatDoor.GoP
namespace Go.Proofs.YtpmmdkcfenjiaaaGreatDoor
theorem topGone_card:Rows.TopGoneCardSaid:=
 Claim7.holds_tied_plain_at .later [] [.data, .pinned] true (true, "9b5604e08efb2ed6900eed416d30651062d54a03c176cdda9b5a630ede829d25") true GoP.over (fun _ h=>by cases h) (by as_aux_lemma=>kernel_rfl) (fun _ h=>by cases h) topGone_row_tie rfl ⟨rfl,rfl⟩ (by as_aux_lemma=>kernel_rfl) rfl
  (fun f fn hf hfn=>by
   obtain rfl:f=7:=Option.some.inj ((show Tryz.prog.funcNamed "wardroom/wardroomtop.TopGone" =some 7 by as_aux_lemma=>kernel_rfl).symm.trans hf)|>.symm;obtain rfl:fn=Tryz.f7:=(Option.some.inj (Tryz.func7.symm.trans hfn)).symm;exact⟨by as_aux_lemma=>kernel_rfl,fun j t ht=>by
    rw[Tryz.params7]at ht;have hm:t∈[22]:=by simpa using Array.mem_of_getElem? ht
    have hall:([22].all fun u=> !Tryz.prog.wantsStandIn u)=true:=by as_aux_lemma=>kernel_rfl
    exact(show Tryz.prog.wantsStandIn t=false by simpa using List.all_eq_true.1 hall t hm)⟩)
  (by as_aux_lemma=>kernel_rfl)
#print axioms topGone_card
end Go.Proofs.YtpmmdkcfenjiaaaGreatDoor

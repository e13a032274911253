/-
  PROVED: each process sees itself by its own number; two numbers lead to two processes; whose parent is seen is in its space (M4, D2): the call of TopSee returns true for every list of acts. No condition of its own; the card ties two tables of the library (unicode/utf8), which this road never reads.
-/
import Derived.Test.YtpmmdkcfenjiaaaGreatDoorRows
import Derived.Test.YtpmmdkcfenjiaaaGreatDoorCards
import Derived.Test.YtpmmdkcfenjiaaaGreatDoorTie
import Derived.Test.YtpmmdkcfenjiaaaGreatDoorUaa
import Derived.Test.YtpmmdkcfenjiaaaGreatDoorUbh
import Derived.WalkKit
import Derived.ProofKit
import Derived.OpenShut
import Derived.LaidMore
import Derived.Lay
import Derived.SevenTiedAt
import Derived.Stop.Joined
import Derived.ChangeOld
import Derived.Below
namespace Go.Proofs.YtpmmdkcfenjiaaaGreatDoor.SeP
open Go.ChangeShapes Go.WideShapes Go.ChangeAt Go.RowKit
set_option linter.unusedVariables false
theorem over:Rows.TopSeeSaid:=
 OpenClaim.holds_of_wide 6 Tryz.f6 rfl rfl rfl rfl rfl rfl rfl ⟨rfl,rfl,rfl,rfl,rfl⟩ rfl rfl rfl rfl rfl (by as_aux_lemma=>kernel_rfl) Tryz.func6 closed
  (of_decide_eq_true (by as_aux_lemma=>kernel_rfl)) (by unfold Func.isWrapper;first|(rw[aJ (by decide+kernel)];kernel_rfl)|(rw[aI (by decide+kernel)];exact⟨rfl,rfl⟩))
  (fun os started H enc _=>lifted os started H enc)
end Go.Proofs.YtpmmdkcfenjiaaaGreatDoor.SeP
namespace Go.Proofs.YtpmmdkcfenjiaaaGreatDoor
theorem topSee_card:Rows.TopSeeCardSaid:=
 Claim7.holds_tied_plain_at .later [] [.data, .pinned] true (true, "9b5604e08efb2ed6900eed416d30651062d54a03c176cdda9b5a630ede829d25") true SeP.over (fun _ h=>by cases h) (by as_aux_lemma=>kernel_rfl) (fun _ h=>by cases h) topSee_row_tie rfl ⟨rfl,rfl⟩ (by as_aux_lemma=>kernel_rfl) rfl
  (fun f fn hf hfn=>by
   obtain rfl:f=6:=Option.some.inj ((show Tryz.prog.funcNamed "wardroom/wardroomtop.TopSee" =some 6 by as_aux_lemma=>kernel_rfl).symm.trans hf)|>.symm;obtain rfl:fn=Tryz.f6:=(Option.some.inj (Tryz.func6.symm.trans hfn)).symm;exact⟨by as_aux_lemma=>kernel_rfl,fun j t ht=>by
    rw[Tryz.params6]at ht;have hm:t∈[22]:=by simpa using Array.mem_of_getElem? ht
    have hall:([22].all fun u=> !Tryz.prog.wantsStandIn u)=true:=by as_aux_lemma=>kernel_rfl
    exact(show Tryz.prog.wantsStandIn t=false by simpa using List.all_eq_true.1 hall t hm)⟩)
  (by as_aux_lemma=>kernel_rfl)
#print axioms topSee_card
end Go.Proofs.YtpmmdkcfenjiaaaGreatDoor

/-
  PROVED: each process has in its memory what it wrote itself, and what its parent had when it was forked, and nothing else (M2, M6): the call of TopOwn returns true for every list of acts. No condition of its own; the card ties two tables of the library (unicode/utf8), which this road never reads.
-/
import Derived.Test.YtpmmdkcfenjiaaaGreatDoorRows
import Derived.Test.YtpmmdkcfenjiaaaGreatDoorCards
import Derived.Test.YtpmmdkcfenjiaaaGreatDoorTie
import Derived.Test.YtpmmdkcfenjiaaaGreatDoorXaa
import Derived.Test.YtpmmdkcfenjiaaaGreatDoorXas
import Derived.WalkKit
import Derived.ProofKit
import Derived.OpenShut
import Derived.LaidMore
import Derived.Lay
import Derived.SevenTiedAt
import Derived.Stop.Joined
import Derived.ChangeOld
import Derived.Below
namespace Go.Proofs.YtpmmdkcfenjiaaaGreatDoor.OwP
open Go.ChangeShapes Go.WideShapes Go.ChangeAt Go.RowKit
set_option linter.unusedVariables false
theorem over:Rows.TopOwnSaid:=
 OpenClaim.holds_of_wide 4 Tryz.f4 rfl rfl rfl rfl rfl rfl rfl ⟨rfl,rfl,rfl,rfl,rfl⟩ rfl rfl rfl rfl rfl (by as_aux_lemma=>kernel_rfl) Tryz.func4 closed
  (of_decide_eq_true (by as_aux_lemma=>kernel_rfl)) (by unfold Func.isWrapper;first|(rw[aJ (by decide+kernel)];kernel_rfl)|(rw[aI (by decide+kernel)];exact⟨rfl,rfl⟩))
  (fun os started H enc _=>lifted os started H enc)
end Go.Proofs.YtpmmdkcfenjiaaaGreatDoor.OwP
namespace Go.Proofs.YtpmmdkcfenjiaaaGreatDoor
theorem topOwn_card:Rows.TopOwnCardSaid:=
 Claim7.holds_tied_plain_at .later [] [.data, .pinned] true (true, "9b5604e08efb2ed6900eed416d30651062d54a03c176cdda9b5a630ede829d25") true OwP.over (fun _ h=>by cases h) (by as_aux_lemma=>kernel_rfl) (fun _ h=>by cases h) topOwn_row_tie rfl ⟨rfl,rfl⟩ (by as_aux_lemma=>kernel_rfl) rfl
  (fun f fn hf hfn=>by
   obtain rfl:f=4:=Option.some.inj ((show Tryz.prog.funcNamed "wardroom/wardroomtop.TopOwn" =some 4 by as_aux_lemma=>kernel_rfl).symm.trans hf)|>.symm;obtain rfl:fn=Tryz.f4:=(Option.some.inj (Tryz.func4.symm.trans hfn)).symm;exact⟨by as_aux_lemma=>kernel_rfl,fun j t ht=>by
    rw[Tryz.params4]at ht;have hm:t∈[22]:=by simpa using Array.mem_of_getElem? ht
    have hall:([22].all fun u=> !Tryz.prog.wantsStandIn u)=true:=by as_aux_lemma=>kernel_rfl
    exact(show Tryz.prog.wantsStandIn t=false by simpa using List.all_eq_true.1 hall t hm)⟩)
  (by as_aux_lemma=>kernel_rfl)
#print axioms topOwn_card
end Go.Proofs.YtpmmdkcfenjiaaaGreatDoor

import Derived.Test.YtpmmdkcfenjiaaaGreatDoorVzz
import Derived.Test.YtpmmdkcfenjiaaaGreatDoorRows
import Derived.ProofKit
import Derived.OpenShut
set_option maxHeartbeats 4000000
namespace Go.Proofs.YtpmmdkcfenjiaaaGreatDoor.HdP
open Go.ChangeShapes Go.WideShapes Go.ChangeAt Go.RowKit
theorem closed:joinedFacts Tryz.pinned.checked.prog 5 Tryz.f5 Rows.topHeadSpec Rows.topHeadRow=true:=by
 unfold joinedFacts
 repeat' rw[Bool.and_eq_true]
 repeat' apply And.intro
 all_goals as_aux_lemma=>kernel_rfl
end Go.Proofs.YtpmmdkcfenjiaaaGreatDoor.HdP

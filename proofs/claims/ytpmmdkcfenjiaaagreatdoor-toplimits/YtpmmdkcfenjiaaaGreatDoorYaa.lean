import Derived.Test.YtpmmdkcfenjiaaaGreatDoorYzz
import Derived.Test.YtpmmdkcfenjiaaaGreatDoorRows
import Derived.ProofKit
import Derived.OpenShut
set_option maxHeartbeats 4000000
namespace Go.Proofs.YtpmmdkcfenjiaaaGreatDoor.LiP
open Go.ChangeShapes Go.WideShapes Go.ChangeAt Go.RowKit
theorem closed:joinedFacts Tryz.pinned.checked.prog 3 Tryz.f3 Rows.topLimitsSpec Rows.topLimitsRow=true:=by
 unfold joinedFacts
 repeat' rw[Bool.and_eq_true]
 repeat' apply aK
 all_goals as_aux_lemma=>kernel_rfl
end Go.Proofs.YtpmmdkcfenjiaaaGreatDoor.LiP

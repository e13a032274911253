import Derived.Test.YtpmmdkcfenjiaaaGreatDoorXzz
import Derived.Test.YtpmmdkcfenjiaaaGreatDoorRows
import Derived.ProofKit
import Derived.OpenShut
set_option maxHeartbeats 4000000
namespace Go.Proofs.YtpmmdkcfenjiaaaGreatDoor.OwP
open Go.ChangeShapes Go.WideShapes Go.ChangeAt Go.RowKit
theorem closed:joinedFacts Tryz.pinned.checked.prog 4 Tryz.f4 Rows.topOwnSpec Rows.topOwnRow=true:=by
 unfold joinedFacts
 repeat' rw[Bool.and_eq_true]
 repeat' apply aK
 all_goals as_aux_lemma=>kernel_rfl
end Go.Proofs.YtpmmdkcfenjiaaaGreatDoor.OwP

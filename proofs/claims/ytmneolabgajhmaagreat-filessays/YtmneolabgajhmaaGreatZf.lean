/- The law TreeSays: an act on both forests. -/
import Derived.Test.YtmneolabgajhmaaGreatZb
import Derived.Test.YtmneolabgajhmaaGreatZc
import Derived.Test.YtmneolabgajhmaaGreatZd
import Derived.Test.YtmneolabgajhmaaGreatZe
namespace Go.Proofs.YtmneolabgajhmaaGreat
open Go.RowKit
open Tr (Fo Nd RN)

section
variable (w W : World) (b c : Nat) (B : Bs) (k : Nat) (F : Fo) (kd : ByteArray) (A B' C : Int) (K : Nat) (On : Bool) (S1 T1 : ByteArray)
theorem grown_any (h : GS w W b c B F F) (hp : PF k F) (hk : k < 999) (hs : S1.size < 2 ^ 60) :
    Calls Tryz.prog 11 #[.pointer (some ⟨b, 0, none⟩), .pointer (some ⟨c, 0, none⟩), .agg (acA kd A B' C K On S1 T1)] W fun e w' => GP w b c B k e w' := by
  by_cases k0 : (kd.toList == [112, 108, 97, 110, 116]) = true
  · exact grown_plant w W b c B k F kd A B' C K On S1 T1 h hp hk hs  k0
  have n0 : (kd.toList == [112, 108, 97, 110, 116]) = false := by simpa using k0
  by_cases k1 : (kd.toList == [109, 97, 107, 101]) = true
  · exact grown_make w W b c B k F kd A B' C K On S1 T1 h hp hk hs n0 k1
  have n1 : (kd.toList == [109, 97, 107, 101]) = false := by simpa using k1
  by_cases k2 : (kd.toList == [108, 105, 110, 107]) = true
  · exact grown_link w W b c B k F kd A B' C K On S1 T1 h hp hk hs n0 n1 k2
  have n2 : (kd.toList == [108, 105, 110, 107]) = false := by simpa using k2
  by_cases k3 : (kd.toList == [114, 101, 109, 111, 118, 101]) = true
  · exact grown_remove w W b c B k F kd A B' C K On S1 T1 h hp hk hs n0 n1 n2 k3
  have n3 : (kd.toList == [114, 101, 109, 111, 118, 101]) = false := by simpa using k3
  by_cases k4 : (kd.toList == [109, 111, 118, 101]) = true
  · exact grown_move w W b c B k F kd A B' C K On S1 T1 h hp hk hs n0 n1 n2 n3 k4
  have n4 : (kd.toList == [109, 111, 118, 101]) = false := by simpa using k4
  by_cases k5 : (kd.toList == [104, 111, 108, 100]) = true
  · exact grown_hold w W b c B k F kd A B' C K On S1 T1 h hp hk hs n0 n1 n2 n3 n4 k5
  have n5 : (kd.toList == [104, 111, 108, 100]) = false := by simpa using k5
  by_cases k6 : (kd.toList == [108, 101, 116]) = true
  · exact grown_let w W b c B k F kd A B' C K On S1 T1 h hp hk hs n0 n1 n2 n3 n4 n5 k6
  have n6 : (kd.toList == [108, 101, 116]) = false := by simpa using k6
  by_cases k7 : (kd.toList == [102, 105, 110, 100]) = true
  · exact grown_find w W b c B k F kd A B' C K On S1 T1 h hp hk hs n0 n1 n2 n3 n4 n5 n6 k7
  have n7 : (kd.toList == [102, 105, 110, 100]) = false := by simpa using k7
  by_cases k8 : (kd.toList == [114, 101, 97, 100]) = true
  · exact grown_read w W b c B k F kd A B' C K On S1 T1 h hp hk hs n0 n1 n2 n3 n4 n5 n6 n7 k8
  have n8 : (kd.toList == [114, 101, 97, 100]) = false := by simpa using k8
  by_cases k9 : (kd.toList == [119, 114, 105, 116, 101]) = true
  · exact grown_write w W b c B k F kd A B' C K On S1 T1 h hp hk hs n0 n1 n2 n3 n4 n5 n6 n7 n8 k9
  have n9 : (kd.toList == [119, 114, 105, 116, 101]) = false := by simpa using k9
  exact grown_cut w W b c B k F kd A B' C K On S1 T1 h hp hk hs n0 n1 n2 n3 n4 n5 n6 n7 n8 n9
end
end Go.Proofs.YtmneolabgajhmaaGreat

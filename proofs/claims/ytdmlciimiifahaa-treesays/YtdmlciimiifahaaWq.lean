/- Is a text a name? In a region that draws its order. -/
import Derived.Test.YtdmlciimiifahaaWa
namespace Go.Proofs.Ytdmlciimiifahaa
open Go.RowKit
open Tr (Fo Nd)

theorem Calls.quiet_name (s : ByteArray) (v : Bool) (h : Tr.nameB s = v) (w : World) : Calls Try.prog 10 #[.string s] w fun e w' => e = .returned (.bool v) ∧ w' = w := by rw [← h]; exact tName_any s w
end Go.Proofs.Ytdmlciimiifahaa

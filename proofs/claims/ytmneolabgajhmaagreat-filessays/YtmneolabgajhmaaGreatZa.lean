/- The law TreeSays: an act on both forests. -/
import Derived.Test.YtmneolabgajhmaaGreatYp
import Derived.Deep.RegionHeld3
namespace Go.Proofs.YtmneolabgajhmaaGreat
open Go.RowKit
open Tr (Fo Nd RN)

/-- Both forests, in step. -/
def GS (w W : World) (b c : Nat) (B : Bs) (F G : Fo) : Prop := Below w.heap.size w W ∧ FAt W b F ∧ (∃ R rv, FR B W c G R rv) ∧ w.heap.size ≤ b ∧ b < B.base
def PF (k : Nat) (F : Fo) : Prop := Tr.Ok F ∧ Tr.Hb F k ∧ Tr.Zb F
section
variable {w W W' : World} {b c : Nat} {B : Bs} {F G F' G' : Fo}
theorem GS.size (h : GS w W b c B F G) : B.base ≤ c ∧ c < W.heap.size ∧ b < W.heap.size := by
  obtain ⟨R, rv, hr⟩ := h.2.2.1
  exact ⟨hr.le, hr.rb.lt, h.2.1.lt⟩
theorem GS.below (h : GS w W b c B F G) (k : Below W.heap.size W W') : GS w W' b c B F G := by
  obtain ⟨R, rv, hr⟩ := h.2.2.1
  exact ⟨h.1.trans (k.mono h.1.size), h.2.1.below k, ⟨R, rv, hr.below k⟩, h.2.2.2⟩
/-- The code's act. -/
theorem GS.code (h : GS w W b c B F G) (h1 : FAt W' b F') (f : Frm b W W') : GS w W' b c B F' G := by
  obtain ⟨R, rv, hr⟩ := h.2.2.1
  exact ⟨f.below h.1 h.2.2.2.1 h.1.size, h1, ⟨R, rv, hr.frm f h.2.2.2.2⟩, h.2.2.2⟩
/-- The document's act. -/
theorem GS.ref (h : GS w W b c B F G) (h1 : ∃ R rv, FR B W' c G' R rv) (f : Below B.base W W') : GS w W' b c B F G' := by
  have hb := h.2.2.2.1
  have hB := h.2.2.2.2
  exact ⟨h.1.trans ⟨f.os, f.tape, f.output, f.size, fun k hk => f.block k (by omega)⟩, h.2.1.same (f.block b hB), h1, h.2.2.2⟩
theorem GS.ref1 {rv : Value} (h : GS w W b c B F G) (h1 : ∃ R, FR B W' c G' R rv) (f : Frm c W W') : GS w W' b c B F G' := by
  obtain ⟨R, hr⟩ := h1
  obtain ⟨s1, s2, s3⟩ := h.size
  exact h.ref ⟨R, rv, hr⟩ (f.below (Below.refl _ _) s1 (by omega))
end
def ActAt (W : World) (ba : Nat) (cs : Array Value) : Prop := W.heap[ba]? = some (.cells cs 64 (0, 0))
def acA (kd : ByteArray) (A B C : Int) (K : Nat) (On : Bool) (S1 T1 : ByteArray) : Array Value := #[.string kd, .int .i64 A, .int .i64 B, .int .i64 C, .int .u64 K, .bool On, .string S1, .string T1]
theorem ActAt.frm {W W' : World} {ba b : Nat} {cs : Array Value} (h : ActAt W ba cs) (ne : ba ≠ b) (f : Frm b W W') : ActAt W' ba cs := (f.block ba (Array.getElem?_eq_some_iff.1 h).1 ne).trans h
theorem ActAt.below {W W' : World} {ba : Nat} {cs : Array Value} (h : ActAt W ba cs) (f : Below W.heap.size W W') : ActAt W' ba cs := (f.block ba (Array.getElem?_eq_some_iff.1 h).1).trans h
theorem Tr.nodeE_nn (F : Fo) (z : Int) : 0 ≤ Tr.nodeE F z := by rcases Tr.nodeE_cases F z with e | e | e <;> omega
theorem Tr.RefTo.nn {x : Nd} {s : ByteArray} {E : Int} (h : Tr.RefTo x s E) : 0 ≤ E := by
  rcases h with ⟨_, e⟩ | ⟨_, ⟨_, _, e⟩ | ⟨_, ⟨_, e⟩ | ⟨_, e⟩⟩⟩ <;> omega
theorem Tr.WanTo.nn {F : Fo} {z : Int} {s : ByteArray} {E : Int} (h : Tr.WanTo F z s E) : 0 ≤ E := by
  rcases h with ⟨_, e⟩ | ⟨_, h⟩
  · rw [e]; exact Tr.isE_nn _ _ _
  · exact h.nn
theorem Tr.FreeTo.nn {F : Fo} {n : Nat} {E : Int} (h : Tr.FreeTo F n E) : 0 ≤ E := by rcases h with ⟨e, _⟩ | ⟨e, _⟩ <;> omega
theorem Tr.FndTo.nn {F : Fo} {z : Int} {s : ByteArray} {K : Nat} {E : Int} (h : Tr.FndTo F z s K E) : 0 ≤ E := by
  rcases h with ⟨_, _, e⟩ | ⟨_, ⟨_, _, _, e⟩ | ⟨_, _, e⟩⟩
  · rw [e]; exact Tr.isE_nn _ _ _
  · omega
  · omega
theorem Tr.PlaTo.nn {F G : Fo} {T : Nat} {E : Int} (h : Tr.PlaTo F T E G) : 0 ≤ E := by
  rcases h with ⟨_, _, e, _⟩ | ⟨_, n, e', hf, ⟨_, _, e, _⟩ | ⟨_, _, e, _⟩⟩
  · omega
  · rw [e]; exact hf.nn
  · omega
theorem Tr.MakTo.nn {F G : Fo} {z kz : Int} {s : ByteArray} {K : Nat} {E : Int} (h : Tr.MakTo F z s kz K E G) : 0 ≤ E := by
  rcases h with ⟨_, _, _, e, _⟩ | ⟨_, e', hw, ⟨_, _, e, _⟩ | ⟨_, k, e2, hf, ⟨_, _, e, _⟩ | ⟨_, _, e, _⟩⟩⟩
  · omega
  · rw [e]; exact hw.nn
  · rw [e]; exact hf.nn
  · omega
theorem Tr.LinTo.nn {F G : Fo} {y z : Int} {s : ByteArray} {E : Int} (h : Tr.LinTo F y z s E G) : 0 ≤ E := by
  rcases h with ⟨_, e, _⟩ | ⟨_, e', hw, ⟨_, e, _⟩ | ⟨_, ⟨_, e, _⟩ | ⟨_, e, _⟩⟩⟩
  · rw [e]; exact Tr.isE_nn _ _ _
  · rw [e]; exact hw.nn
  · omega
  · omega
theorem Tr.RemTo.nn {F G : Fo} {z : Int} {s : ByteArray} {E : Int} (h : Tr.RemTo F z s E G) : 0 ≤ E := by
  obtain ⟨K, e', hf, ⟨_, e, _⟩ | ⟨_, ⟨_, _, e, _⟩ | ⟨_, e, _⟩⟩⟩ := h
  · rw [e]; exact hf.nn
  · omega
  · omega
theorem Tr.MovTo.nn {F G : Fo} {z y : Int} {s o : ByteArray} {E : Int} (h : Tr.MovTo F z s y o E G) : 0 ≤ E := by
  obtain ⟨K, e', hf, ⟨_, e, _⟩ | ⟨_, ⟨_, e, _⟩ | ⟨_, ⟨_, e, _⟩ | ⟨_, ⟨_, e, _⟩ | ⟨_, i, _, e2, hr, ⟨_, e, _⟩ | ⟨_, e, _⟩⟩⟩⟩⟩⟩ := h
  · rw [e]; exact hf.nn
  · rw [e]; exact Tr.isE_nn _ _ _
  · omega
  · omega
  · rw [e]; exact hr.nn
  · omega
theorem Tr.letE_nn (F : Fo) (z : Int) : 0 ≤ Tr.letE F z := by unfold Tr.letE; split <;> (try split) <;> (first | omega | exact Tr.nodeE_nn F z)
theorem Tr.wriE_nn (F : Fo) (z a : Int) (s : ByteArray) : 0 ≤ Tr.wriE F z a s := by unfold Tr.wriE; split <;> (first | exact Tr.isE_nn _ _ _ | (split <;> (try split) <;> omega))
theorem Tr.cutE_nn (F : Fo) (z a : Int) : 0 ≤ Tr.cutE F z a := by unfold Tr.cutE; split <;> (first | exact Tr.isE_nn _ _ _ | (split <;> omega))
theorem Tr.reaE_nn (F : Fo) (z a m : Int) : 0 ≤ Tr.reaE F z a m := by unfold Tr.reaE; split <;> (first | exact Tr.isE_nn _ _ _ | (split <;> omega))
/-- What is true behind an act. -/
def GP (w : World) (b c : Nat) (B : Bs) (k : Nat) (e : Ending) (w' : World) : Prop := e = .returned (.bool true) ∧ ∃ G, GS w w' b c B G G ∧ PF (k + 1) G
end Go.Proofs.YtmneolabgajhmaaGreat

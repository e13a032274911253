/- The code's pipes: none. -/
import Derived.Test.YtmneolabgajhmaaGreatPb
namespace Go.Proofs.YtmneolabgajhmaaGreat
open Go.RowKit
open Pp (Pi)

/-- No pipe. -/
def Pp.nul : Nat → Pi := fun _ => Pi.no
def Pp.zA : Array Value := ((List.range 120).map fun o => if o % 15 < 12 then Value.int .u8 0 else Value.int .i64 0).toArray
theorem Pp.zA_at (o : Nat) (h : o < 120) : Pp.zA[o]? = some (if o % 15 < 12 then Value.int .u8 0 else Value.int .i64 0) := by simp [Pp.zA, h]
set_option maxRecDepth 100000 in
theorem Pp.zeroV (w : World) : (zeroValue 47).run Tryz.prog w = .ok (.agg Pp.zA) w := by kernel_rfl
section
variable {ops : Array Oper} {rest : List Oper} {x : Oper} {a : Act} {w : World} {Q : Exit → Act → World → Prop}
theorem Pp.wp_buildS (hgd : x.guard = none) (ho : x.op = .build 47 #[]) (h : wpList Tryz.prog ops Q rest (a.put x.dst (.agg Pp.zA)) w) : wpList Tryz.prog ops Q (x :: rest) a w :=
  wpList_plain hgd fun _ hK => by
    unfold Oper.wp execOp
    have hz := Pp.zeroV w
    simp only [ho]
    simp [go_sem, hz]
    exact hK _ _ h
end
theorem PAt.zero {w : World} {b : Nat} {T : TypeId} (h : w.heap[b]? = some (.cells Pp.zA T (0, 0))) : PAt w b Pp.nul := by
  refine ⟨⟨_, T, h, by simp [Pp.zA]⟩, fun n hn j v hv => ?_, fun n hn => ?_, fun n hn => ?_, fun n hn => ?_, fun n hn => Nat.zero_le _⟩
  · exact absurd (Pp.byt_lt hv) (by show ¬ j < 0; omega)
  · rw [cell_blk h, Pp.zA_at _ (by omega), if_neg (by omega)]; rfl
  · rw [cell_blk h, Pp.zA_at _ (by omega), if_neg (by omega)]; rfl
  · rw [cell_blk h, Pp.zA_at _ (by omega), if_neg (by omega)]; rfl
/-- What a law begins with: an empty set. -/
theorem pzero_alloc (w : World) : PAt (w.alloc (.cells Pp.zA 47)) w.heap.size Pp.nul ∧ Below w.heap.size w (w.alloc (.cells Pp.zA 47)) := by
  exact ⟨PAt.zero (heap_alloc_new w _), (Below.refl _ _).alloc (Nat.le_refl _) _⟩
end Go.Proofs.YtmneolabgajhmaaGreat

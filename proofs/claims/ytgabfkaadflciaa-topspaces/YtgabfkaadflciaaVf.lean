/- A whole space, by value: its cells stay a letter. -/
import Derived.Test.YtgabfkaadflciaaVe
namespace Go.Proofs.Ytgabfkaadflciaa
open Go.RowKit
open Sp (T)

/-- A space as it is being made: the first k numbers are nobody's. -/
def mkF (k i : Nat) : Int := if i < k then -1 else 0
theorem mkF_up (k : Nat) : Sp.upI (mkF k) k (-1) = mkF (k + 1) := by
  funext i
  unfold Sp.upI mkF
  by_cases e : i = k
  · rw [if_pos e, if_pos (by omega)]
  · rw [if_neg e]
    by_cases c : i < k
    · rw [if_pos c, if_pos (by omega)]
    · rw [if_neg c, if_neg (by omega)]
theorem spA_lit (hh : Bool) (p : Int) : spA hh p (mkF 0) = #[.bool hh, .int .i64 p, .int .i64 0, .int .i64 0, .int .i64 0, .int .i64 0, .int .i64 0, .int .i64 0, .int .i64 0, .int .i64 0, .int .i64 0, .int .i64 0, .int .i64 0, .int .i64 0, .int .i64 0, .int .i64 0, .int .i64 0, .int .i64 0, .int .i64 0, .int .i64 0, .int .i64 0, .int .i64 0, .int .i64 0] := rfl

section
variable {ops : Array Oper} {rest : List Oper} {x : Oper} {a : Act} {w : World} {Q : Exit → Act → World → Prop}
/-- A space without anything, made anew: its cells stay a letter. -/
theorem wpList_alloc_sp (hgd : x.guard = none) (ho : x.op = .alloc 157) (h : wpList Try.prog ops Q rest (a.put x.dst (.pointer (some ⟨w.heap.size, 0, none⟩))) (w.alloc (.cells (spA false 0 (mkF 0)) 157))) : wpList Try.prog ops Q (x :: rest) a w :=
  wpList_plain hgd fun _ hK => by
    unfold Oper.wp execOp
    simp only [ho]
    simp [go_sem]
    exact hK _ _ h
theorem wpList_build_sp0 (hgd : x.guard = none) (ho : x.op = .build 157 #[]) (h : wpList Try.prog ops Q rest (a.put x.dst (.agg (spA false 0 (mkF 0)))) w) : wpList Try.prog ops Q (x :: rest) a w :=
  wpList_plain hgd fun _ hK => by
    unfold Oper.wp execOp
    simp only [ho]
    simp [go_sem]
    exact hK _ _ h
theorem wpList_build_sp2 (hgd : x.guard = none) (y : Operand) (p : Int) (ho : x.op = .build 157 #[(0, .const (.bool true)), (1, y)]) (hy : a.eval y = .int .i64 p) (h : wpList Try.prog ops Q rest (a.put x.dst (.agg (spA true p (mkF 0)))) w) : wpList Try.prog ops Q (x :: rest) a w :=
  wpList_plain hgd fun _ hK => by
    unfold Oper.wp execOp
    simp only [ho, List.map_toArray, List.map_cons, List.map_nil, hy, BigFrame.eval_const]
    simp [go_sem]
    exact hK _ _ h
theorem wpList_build_rs0 (hgd : x.guard = none) (ho : x.op = .build 163 #[]) (h : wpList Try.prog ops Q rest (a.put x.dst (.agg (spA false 0 (mkF 0)))) w) : wpList Try.prog ops Q (x :: rest) a w :=
  wpList_plain hgd fun _ hK => by
    unfold Oper.wp execOp
    simp only [ho]
    simp [go_sem]
    exact hK _ _ h
theorem wpList_build_rs2 (hgd : x.guard = none) (y : Operand) (p : Int) (ho : x.op = .build 163 #[(0, .const (.bool true)), (1, y)]) (hy : a.eval y = .int .i64 p) (h : wpList Try.prog ops Q rest (a.put x.dst (.agg (spA true p (mkF 0)))) w) : wpList Try.prog ops Q (x :: rest) a w :=
  wpList_plain hgd fun _ hK => by
    unfold Oper.wp execOp
    simp only [ho, List.map_toArray, List.map_cons, List.map_nil, hy, BigFrame.eval_const]
    simp [go_sem]
    exact hK _ _ h
end
end Go.Proofs.Ytgabfkaadflciaa

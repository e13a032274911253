/- The code's forest: Of. -/
import Derived.Test.YtfgnhldnmbfnkabTk
namespace Go.Proofs.Ytfgnhldnmbfnkab
open Go.RowKit
open Tr (Fo Nd)

/-- What is told of a node. -/
def ofA (F : Fo) (z : Int) : Array Value := if Tr.nodeE F z = 0 then #[.int .i64 ((F.nd z.toNat).kind : Int), .int .i64 ((F.nd z.toNat).links : Int), .int .i64 ((F.nd z.toNat).held : Int), .int .i64 ((F.nd z.toNat).size : Int)] else #[.int .i64 0, .int .i64 0, .int .i64 0, .int .i64 0]
set_option maxRecDepth 100000 in
set_option maxHeartbeats 1000000 in
theorem tof_any (b : Nat) (z : Int) (F : Fo) (w : World) (h : FAt w b F) :
    Calls Try.prog 56 #[.pointer (some ⟨b, 0, none⟩), .int .i64 z] w fun e w' => e = .returned (.tuple #[.agg (ofA F z), errV (Tr.nodeE F z)]) ∧ Below w.heap.size w w' := by
  have hlt := h.lt
  have hne : w.heap.size ≠ b := by omega
  have hne2 : b ≠ w.heap.size := by omega
  have HF : Hid (∀ o, FAt (w.alloc o) b F ∧ Below w.heap.size w (w.alloc o)) := Hid.intro (fun o => by
    have bb : Below w.heap.size w (w.alloc o) := (Below.refl _ _).alloc (Nat.le_refl _) _
    exact ⟨h.below bb, bb⟩)
  have HB : Hid (∀ W W', Below w.heap.size w W → Frm w.heap.size W W' → w.heap.size ≤ W.heap.size → Below w.heap.size w W') := Hid.intro (fun W W' h1 h2 h3 => h2.below h1 (Nat.le_refl _) h3)
  by_cases c : Tr.nodeE F z = 0
  · obtain ⟨n, rfl, n40, kk⟩ := Tr.nodeE_ok c
    have E : Hid (Tr.nodeE F (n : Int) = 0 ∧ ofA F (n : Int) = #[.int .i64 ((F.nd n).kind : Int), .int .i64 ((F.nd n).links : Int), .int .i64 ((F.nd n).held : Int), .int .i64 ((F.nd n).size : Int)] ∧ ptrE b (n : Int) 0 = .pointer (some ⟨b, n * 62, none⟩)) := Hid.intro ⟨c, by unfold ofA; rw [if_pos c, Int.toNat_natCast], ptrE_ok b n⟩
    clear h c kk
    go_enter Try.func56, Try.ntmps56
    go_wp2_with fail
    refine (tnode_any b n F _ (HF.out _).1).mono ?_
    rintro e w1 ⟨rfl, hw1⟩
    have S1 : Hid (FAt w1 b F ∧ Below w.heap.size w w1) := Hid.intro (by rw [hw1]; exact HF.out _)
    have N1 : w1.heap[w.heap.size]? = some (.cells #[.int .i64 0, .int .i64 0, .int .i64 0, .int .i64 0] 99 (0, 0)) := by rw [hw1]; exact heap_alloc_new w _
    clear hw1
    rw [E.out.1, E.out.2.2, errV_zero]
    have c1 := S1.out.1.cKind n n40
    have c2 := S1.out.1.cLinks n n40
    have c3 := S1.out.1.cHeld n n40
    have c4 := S1.out.1.cSize n n40
    have EO : Hid (ofA F (n : Int) = #[.int .i64 ((F.nd n).kind : Int), .int .i64 ((F.nd n).links : Int), .int .i64 ((F.nd n).held : Int), .int .i64 ((F.nd n).size : Int)]) := Hid.intro E.out.2.1
    generalize (F.nd n).kind = v1 at c1 EO
    generalize (F.nd n).links = v2 at c2 EO
    generalize (F.nd n).held = v3 at c3 EO
    generalize (F.nd n).size = v4 at c4 EO
    have hlt2 : Hid (w.heap.size < w1.heap.size) := Hid.intro (Array.getElem?_eq_some_iff.1 N1).1
    generalize hcc : w.heap.size = cc at *
    have x1 : w1.cell? ⟨cc, 0, none⟩ = some (.int .i64 0) := by rw [cell_blk N1]; rfl
    have x2 : w1.cell? ⟨cc, 1, none⟩ = some (.int .i64 0) := by rw [cell_blk N1]; rfl
    have x3 : w1.cell? ⟨cc, 2, none⟩ = some (.int .i64 0) := by rw [cell_blk N1]; rfl
    have x4 : w1.cell? ⟨cc, 3, none⟩ = some (.int .i64 0) := by rw [cell_blk N1]; rfl
    have xf : ∀ o, w1.frozen? ⟨cc, o, none⟩ = false := fun o => frozen_blk N1 o
    have S2 : Hid (((((w1.setCell ⟨cc, 0, none⟩ (.int .i64 (v1 : Int))).setCell ⟨cc, 1, none⟩ (.int .i64 (v2 : Int))).setCell ⟨cc, 2, none⟩ (.int .i64 (v3 : Int))).setCell ⟨cc, 3, none⟩ (.int .i64 (v4 : Int))).heap[cc]? = some (.cells #[.int .i64 (v1 : Int), .int .i64 (v2 : Int), .int .i64 (v3 : Int), .int .i64 (v4 : Int)] 99 (0, 0)) ∧ Below cc w ((((w1.setCell ⟨cc, 0, none⟩ (.int .i64 (v1 : Int))).setCell ⟨cc, 1, none⟩ (.int .i64 (v2 : Int))).setCell ⟨cc, 2, none⟩ (.int .i64 (v3 : Int))).setCell ⟨cc, 3, none⟩ (.int .i64 (v4 : Int)))) := Hid.intro
      ⟨blk_set (blk_set (blk_set (blk_set N1 0 _) 1 _) 2 _) 3 _, HB.out w1 _ S1.out.2 ((((((Frm.refl cc w1).setCell _ _).setCell _ _).setCell _ _).setCell _ _)) (Nat.le_of_lt hlt2.out)⟩
    clear N1
    go_wp2_with fail
    generalize hWF : (((w1.setCell ⟨cc, 0, none⟩ (.int .i64 (v1 : Int))).setCell ⟨cc, 1, none⟩ (.int .i64 (v2 : Int))).setCell ⟨cc, 2, none⟩ (.int .i64 (v3 : Int))).setCell ⟨cc, 3, none⟩ (.int .i64 (v4 : Int)) = WF at S2 ⊢
    have y1 : WF.cell? ⟨cc, 0, none⟩ = some (.int .i64 (v1 : Int)) := by rw [cell_blk S2.out.1]; rfl
    have y2 : WF.cell? ⟨cc, 1, none⟩ = some (.int .i64 (v2 : Int)) := by rw [cell_blk S2.out.1]; rfl
    have y3 : WF.cell? ⟨cc, 2, none⟩ = some (.int .i64 (v3 : Int)) := by rw [cell_blk S2.out.1]; rfl
    have y4 : WF.cell? ⟨cc, 3, none⟩ = some (.int .i64 (v4 : Int)) := by rw [cell_blk S2.out.1]; rfl
    refine bodyPost_ret (v := .tuple #[.agg #[.int .i64 (v1 : Int), .int .i64 (v2 : Int), .int .i64 (v3 : Int), .int .i64 (v4 : Int)], .nilIface]) (by simp [results, Try.f56, go_sem, y1, y2, y3, y4]) rfl ?_
    rw [EO.out, E.out.1]
    subst hcc
    exact ⟨rfl, S2.out.2⟩
  · have E : Hid (ofA F z = #[.int .i64 0, .int .i64 0, .int .i64 0, .int .i64 0] ∧ ptrE b z (Tr.nodeE F z) = .pointer none ∧ errV (Tr.nodeE F z) = .iface 128 (.int .i64 (Tr.nodeE F z))) := Hid.intro ⟨by unfold ofA; rw [if_neg c], ptrE_no c, errV_ne c⟩
    clear h c
    go_enter Try.func56, Try.ntmps56
    go_wp2_with fail
    refine (tnode_any b z F _ (HF.out _).1).mono ?_
    rintro e w1 ⟨rfl, hw1⟩
    have S1 : Hid (FAt w1 b F ∧ Below w.heap.size w w1) := Hid.intro (by rw [hw1]; exact HF.out _)
    have N1 : w1.heap[w.heap.size]? = some (.cells #[.int .i64 0, .int .i64 0, .int .i64 0, .int .i64 0] 99 (0, 0)) := by rw [hw1]; exact heap_alloc_new w _
    clear hw1
    rw [E.out.2.1, E.out.2.2]
    have hlt2 : Hid (w.heap.size < w1.heap.size) := Hid.intro (Array.getElem?_eq_some_iff.1 N1).1
    generalize hcc : w.heap.size = cc at *
    have x1 : w1.cell? ⟨cc, 0, none⟩ = some (.int .i64 0) := by rw [cell_blk N1]; rfl
    have x2 : w1.cell? ⟨cc, 1, none⟩ = some (.int .i64 0) := by rw [cell_blk N1]; rfl
    have x3 : w1.cell? ⟨cc, 2, none⟩ = some (.int .i64 0) := by rw [cell_blk N1]; rfl
    have x4 : w1.cell? ⟨cc, 3, none⟩ = some (.int .i64 0) := by rw [cell_blk N1]; rfl
    have xf : ∀ o, w1.frozen? ⟨cc, o, none⟩ = false := fun o => frozen_blk N1 o
    have S2 : Hid (((((w1.setCell ⟨cc, 0, none⟩ (.int .i64 0)).setCell ⟨cc, 1, none⟩ (.int .i64 0)).setCell ⟨cc, 2, none⟩ (.int .i64 0)).setCell ⟨cc, 3, none⟩ (.int .i64 0)).heap[cc]? = some (.cells #[.int .i64 0, .int .i64 0, .int .i64 0, .int .i64 0] 99 (0, 0)) ∧ Below cc w ((((w1.setCell ⟨cc, 0, none⟩ (.int .i64 0)).setCell ⟨cc, 1, none⟩ (.int .i64 0)).setCell ⟨cc, 2, none⟩ (.int .i64 0)).setCell ⟨cc, 3, none⟩ (.int .i64 0))) := Hid.intro
      ⟨blk_set (blk_set (blk_set (blk_set N1 0 _) 1 _) 2 _) 3 _, HB.out w1 _ S1.out.2 ((((((Frm.refl cc w1).setCell _ _).setCell _ _).setCell _ _).setCell _ _)) (Nat.le_of_lt hlt2.out)⟩
    clear N1
    go_wp2_with fail
    generalize hWF : (((w1.setCell ⟨cc, 0, none⟩ (.int .i64 0)).setCell ⟨cc, 1, none⟩ (.int .i64 0)).setCell ⟨cc, 2, none⟩ (.int .i64 0)).setCell ⟨cc, 3, none⟩ (.int .i64 0) = WF at S2 ⊢
    have y1 : WF.cell? ⟨cc, 0, none⟩ = some (.int .i64 0) := by rw [cell_blk S2.out.1]; rfl
    have y2 : WF.cell? ⟨cc, 1, none⟩ = some (.int .i64 0) := by rw [cell_blk S2.out.1]; rfl
    have y3 : WF.cell? ⟨cc, 2, none⟩ = some (.int .i64 0) := by rw [cell_blk S2.out.1]; rfl
    have y4 : WF.cell? ⟨cc, 3, none⟩ = some (.int .i64 0) := by rw [cell_blk S2.out.1]; rfl
    refine bodyPost_ret (v := .tuple #[.agg #[.int .i64 0, .int .i64 0, .int .i64 0, .int .i64 0], .iface 128 (.int .i64 (Tr.nodeE F z))]) (by simp [results, Try.f56, go_sem, y1, y2, y3, y4]) rfl ?_
    rw [E.out.1, E.out.2.2]
    subst hcc
    exact ⟨rfl, S2.out.2⟩
end Go.Proofs.Ytfgnhldnmbfnkab

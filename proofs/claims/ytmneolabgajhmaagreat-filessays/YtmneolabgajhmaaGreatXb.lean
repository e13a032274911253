/- The code's open files: New, add, let. -/
import Derived.Test.YtmneolabgajhmaaGreatXa
namespace Go.Proofs.YtmneolabgajhmaaGreat
open Go.RowKit
open Fx (Fi)
open Tr (Fo Nd)
open Pp (Pi)

/-- Only blocks t, b and p have turned, of those that were there. -/
structure Tri (t b p : Nat) (w w' : World) : Prop where
  os : w'.os = w.os
  tape : w'.tape = w.tape
  output : w'.output = w.output
  size : w.heap.size ≤ w'.heap.size
  block : ∀ k, k < w.heap.size → k ≠ t → k ≠ b → k ≠ p → w'.heap[k]? = w.heap[k]?
section
variable {t b p : Nat} {u v w : World}
theorem Tri.refl (t b p : Nat) (w : World) : Tri t b p w w := ⟨rfl, rfl, rfl, Nat.le_refl _, fun _ _ _ _ _ => rfl⟩
theorem Tri.trans (h : Tri t b p u v) (k : Tri t b p v w) : Tri t b p u w := ⟨k.os.trans h.os, k.tape.trans h.tape, k.output.trans h.output, Nat.le_trans h.size k.size, fun j hj h1 h2 h3 => (k.block j (Nat.lt_of_lt_of_le hj h.size) h1 h2 h3).trans (h.block j hj h1 h2 h3)⟩
theorem Tri.tb (h : Frm t v w) : Tri t b p v w := ⟨h.os, h.tape, h.output, h.size, fun j hj h1 _ _ => h.block j hj h1⟩
theorem Tri.fo (h : Frm b v w) : Tri t b p v w := ⟨h.os, h.tape, h.output, h.size, fun j hj _ h2 _ => h.block j hj h2⟩
theorem Tri.pi (h : Frm p v w) : Tri t b p v w := ⟨h.os, h.tape, h.output, h.size, fun j hj _ _ h3 => h.block j hj h3⟩
theorem Tri.below (h : Below v.heap.size v w) : Tri t b p v w := ⟨h.os, h.tape, h.output, h.size, fun j hj _ _ _ => h.block j hj⟩
theorem Tri.behind {B : Nat} {s : World} (h : Tri t b p u v) (k : Below B s u) (ht : B ≤ t) (hb : B ≤ b) (hp : B ≤ p) (hs : B ≤ u.heap.size) : Below B s v := k.trans ⟨h.os, h.tape, h.output, h.size, fun j hj => h.block j (by omega) (by omega) (by omega) (by omega)⟩
end
theorem Frm.fresh {t bx : Nat} {w W : World} (f : Frm t w W) (h : w.heap.size ≤ bx) (o : Nat) (v : Value) : Frm t w (W.setCell ⟨bx, o, none⟩ v) :=
  ⟨f.os, f.tape, f.output, by simpa [World.setCell] using f.size, fun k hk hn => (setBlk _ _ _ _ (by omega)).trans (f.block k hk hn)⟩
/-- The table, its forest, its pipes. -/
def FX (w : World) (t b p : Nat) (T : Nat → Fi) (F : Fo) (S : Nat → Pi) : Prop := XAt w t b p T ∧ FAt w b F ∧ PAt w p S ∧ t ≠ b ∧ t ≠ p ∧ b ≠ p
section
variable {w w' : World} {t b p : Nat} {T T' : Nat → Fi} {F F' : Fo} {S S' : Nat → Pi}
theorem FX.tb (h : FX w t b p T F S) (k : XAt w' t b p T') (f : Frm t w w') : FX w' t b p T' F S := ⟨k, h.2.1.same (f.block b h.2.1.lt (Ne.symm h.2.2.2.1)), h.2.2.1.frm f (Ne.symm h.2.2.2.2.1), h.2.2.2⟩
theorem FX.fo (h : FX w t b p T F S) (k : FAt w' b F') (f : Frm b w w') : FX w' t b p T F' S := ⟨h.1.frm f h.2.2.2.1, k, h.2.2.1.frm f (Ne.symm h.2.2.2.2.2), h.2.2.2⟩
theorem FX.pi (h : FX w t b p T F S) (k : PAt w' p S') (f : Frm p w w') : FX w' t b p T F S' := ⟨h.1.frm f h.2.2.2.2.1, h.2.1.same (f.block b h.2.1.lt h.2.2.2.2.2), k, h.2.2.2⟩
theorem FX.below (h : FX w t b p T F S) (f : Below w.heap.size w w') : FX w' t b p T F S := ⟨h.1.below f h.1.lt, h.2.1.below f, h.2.2.1.below f h.2.2.1.lt, h.2.2.2⟩
theorem FX.drew (h : FX w t b p T F S) : FX w.drew t b p T F S := h.below ⟨rfl, rfl, rfl, Nat.le_refl _, fun _ _ => rfl⟩
end
/-- A table, none open. -/
def Fx.nul : Nat → Fi := fun _ => Fi.no
def Fx.zT : Array Value := ((List.range 122).map fun o => if o < 2 then Value.pointer none else if o % 5 = 4 then Value.bool false else Value.int .i64 0).toArray
theorem Fx.zT_at (o : Nat) (h : o < 122) : Fx.zT[o]? = some (if o < 2 then Value.pointer none else if o % 5 = 4 then Value.bool false else Value.int .i64 0) := by simp [Fx.zT, h]
set_option maxRecDepth 100000 in
theorem Fx.zeroV (w : World) : (zeroValue 96).run Tryz.prog w = .ok (.agg Fx.zT) w := by kernel_rfl
def Fx.nwA (P0 P1 : Value) : Array Value := (Fx.zT.setIfInBounds 0 P0).setIfInBounds 1 P1
theorem XAt.new {w : World} {t b p : Nat} {Ty : TypeId} (h : w.heap[t]? = some (.cells (Fx.nwA (.pointer (some ⟨b, 0, none⟩)) (.pointer (some ⟨p, 0, none⟩))) Ty (0, 0))) : XAt w t b p Fx.nul := by
  have sz : Fx.zT.size = 122 := by simp [Fx.zT]
  refine ⟨⟨_, Ty, h, by simp [Fx.nwA, sz]⟩, ?_, ?_, fun n hn i hi => ?_⟩
  · rw [cell_blk h]; unfold Fx.nwA
    rw [Array.getElem?_setIfInBounds_ne (by omega), Array.getElem?_setIfInBounds_self_of_lt (by omega)]
  · rw [cell_blk h]; unfold Fx.nwA
    rw [Array.getElem?_setIfInBounds_self_of_lt (by simp [sz])]
  · rw [cell_blk h]; unfold Fx.nwA
    rw [Array.getElem?_setIfInBounds_ne (by omega), Array.getElem?_setIfInBounds_ne (by omega), Fx.zT_at _ (by omega), if_neg (by omega)]
    match i, hi with
    | 0, _ => rw [if_neg (by omega)]; rfl
    | 1, _ => rw [if_neg (by omega)]; rfl
    | 2, _ => rw [if_pos (by omega)]; rfl
    | 3, _ => rw [if_neg (by omega)]; rfl
    | 4, _ => rw [if_neg (by omega)]; rfl
section
variable {ops : Array Oper} {rest : List Oper} {x : Oper} {a : Act} {w : World} {Q : Exit → Act → World → Prop}
set_option maxRecDepth 100000 in
theorem Fx.wp_buildT (hgd : x.guard = none) (y0 y1 : Operand) (P0 P1 : Option Addr) (ho : x.op = .build 96 #[(0, y0), (1, y1)]) (h0 : a.eval y0 = .pointer P0) (h1 : a.eval y1 = .pointer P1) (h : wpList Tryz.prog ops Q rest (a.put x.dst (.agg (Fx.nwA (.pointer P0) (.pointer P1)))) w) : wpList Tryz.prog ops Q (x :: rest) a w :=
  wpList_plain hgd fun _ hK => by
    unfold Oper.wp execOp
    have hz := Fx.zeroV w
    simp only [ho, List.map_toArray, List.map_cons, List.map_nil, h0, h1]
    simp [go_sem, hz]
    exact hK _ _ h
end
set_option maxRecDepth 100000 in
set_option maxHeartbeats 400000 in
theorem xnew_any (b p : Nat) (w : World) : Calls Tryz.prog 10 #[.pointer (some ⟨b, 0, none⟩), .pointer (some ⟨p, 0, none⟩)] w fun e w' => e = .returned (.pointer (some ⟨w.heap.size, 0, none⟩)) ∧ XAt w' w.heap.size b p Fx.nul ∧ Below w.heap.size w w' := by
  have FIN : Hid (XAt (w.alloc (.cells (Fx.nwA (.pointer (some ⟨b, 0, none⟩)) (.pointer (some ⟨p, 0, none⟩))) 96)) w.heap.size b p Fx.nul ∧ Below w.heap.size w (w.alloc (.cells (Fx.nwA (.pointer (some ⟨b, 0, none⟩)) (.pointer (some ⟨p, 0, none⟩))) 96))) := Hid.intro ⟨XAt.new (heap_alloc_new w _), (Below.refl _ _).alloc (Nat.le_refl _) _⟩
  obtain ⟨A, hA⟩ : ∃ A, Fx.nwA (.pointer (some ⟨b, 0, none⟩)) (.pointer (some ⟨p, 0, none⟩)) = A := ⟨_, rfl⟩
  rw [hA] at FIN
  go_enter Tryz.func10, Tryz.ntmps10
  go_wp2_with (refine Fx.wp_buildT rfl _ _ _ _ rfl rfl rfl ?_; rw [hA])
  go_ret
  exact ⟨rfl, FIN.out⟩
theorem XAt.store {w : World} {t b p : Nat} {T : Nat → Fi} (h : XAt w t b p T) (n : Nat) (hn : n < 24) (x : Fi) : (storeCells ⟨t, 2 + n * 5, none⟩ [.int .i64 (x.kind : Int), .int .i64 (x.num : Int), .bool x.wr, .int .i64 (x.pos : Int), .int .i64 (x.refs : Int)]).run Tryz.prog w = .ok () (w.setCells t (2 + n * 5) (Fx.arr x).toList) := by
  have ht := h.there n hn x
  have := run_storeCells_cells (P := Tryz.prog) t (2 + n * 5) (Fx.arr x).toList 0 w
    (fun j hj => by simpa using (ht j hj).1) (fun j hj => by simpa using (ht j hj).2)
    (fun v hv => (Array.all_eq_true_iff_forall_mem.1 (Fx.arr_one x)) v (by simpa using hv))
  simp only [Nat.add_zero] at this
  exact this
set_option maxRecDepth 100000 in
set_option maxHeartbeats 1000000 in
theorem xadd_any (t b p : Nat) (x : Fi) (n : Nat) (T : Nat → Fi) (w : World) (h : XAt w t b p T) (hl : Fx.Low T n) :
    Calls Tryz.prog 73 #[.pointer (some ⟨t, 0, none⟩), .agg #[.int .i64 (x.kind : Int), .int .i64 (x.num : Int), .bool x.wr, .int .i64 (x.pos : Int), .int .i64 (x.refs : Int)]] w fun e w' => e = .returned (.int .i64 (n : Int)) ∧ XAt w' t b p (Fx.put T n { x with refs := 1 }) ∧ Frm t w w' := by
  have HF := Hid.intro h
  have HL := Hid.intro hl
  have hlt := h.lt
  have NE : Hid (w.heap.size ≠ t) := Hid.intro (by omega)
  clear h hl hlt
  obtain ⟨kd, nm, wb, ps, rf⟩ := x
  go_enter Tryz.func73, Tryz.ntmps73
  go_upto_region 1 with fail
  refine wp_gen (fun W' => XAt W' t b p T ∧ Frm t w W' ∧ W'.heap[w.heap.size]? = some (.cells #[.int .i64 (kd : Int), .int .i64 (nm : Int), .bool wb, .int .i64 (ps : Int), .int .i64 (rf : Int)] 93 (0, 0))) (by
    have bb := (Below.refl w.heap.size w).alloc (Nat.le_refl _) (.cells #[.int .i64 (kd : Int), .int .i64 (nm : Int), .bool wb, .int .i64 (ps : Int), .int .i64 (rf : Int)] 93)
    exact ⟨HF.out.below bb HF.out.lt, Frm.of_below bb, heap_alloc_new w _⟩) ?_
  rintro W1 ⟨h1, f1, x1⟩
  have H1 := Hid.intro h1
  have F1 := Hid.intro f1
  have X1 := Hid.intro x1
  clear h1 f1 x1 HF
  obtain ⟨bx, hbx⟩ : ∃ bx, w.heap.size = bx := ⟨_, rfl⟩
  have HB := Hid.intro hbx
  rw [hbx] at X1 NE ⊢
  clear hbx
  go_wp2_with fail
  go_loopw [5] (fun i wr => ∃ (k : Nat), i = .int .i64 k ∧ k ≤ n ∧ wr = W1) (fun i _ => n - (intOf i).toNat)
  case atStart => exact ⟨0, rfl, by omega, rfl⟩
  case round =>
    obtain ⟨k, rfl, hk, hwr⟩ := hrel
    subst wr
    have n24 : n < 24 := HL.out.1
    have k24i : (k : Int) < 24 := by omega
    have c4 := H1.out.refs k (by omega)
    by_cases e : k = n
    · subst e
      rw [HL.out.2.1] at c4
      have c4' : W1.cell? ⟨t, 2 + k * 5 + 4, none⟩ = some (.int .i64 0) := c4
      clear c4
      have cx := act_cells X1.out 4 (.int .i64 (rf : Int)) rfl
      have fx := frozen_blk X1.out
      have HS : XAt (W1.setCell ⟨bx, 4, none⟩ (.int .i64 1)) t b p T ∧ Frm t w (W1.setCell ⟨bx, 4, none⟩ (.int .i64 1)) ∧ (W1.setCell ⟨bx, 4, none⟩ (.int .i64 1)).heap[bx]? = some (.cells #[.int .i64 (kd : Int), .int .i64 (nm : Int), .bool wb, .int .i64 (ps : Int), .int .i64 1] 93 (0, 0)) := ⟨H1.out.same (setBlk _ _ _ _ (Ne.symm NE.out)), F1.out.fresh (Nat.le_of_eq HB.out) _ _, by rw [blk_set X1.out]; rfl⟩
      go_upto_region 5 with fail
      clear cx fx c4'
      generalize W1.setCell ⟨bx, 4, none⟩ (.int .i64 1) = W2 at HS ⊢
      obtain ⟨s1, s2, s3⟩ := HS
      have x0 := act_cells s3 0 (.int .i64 (kd : Int)) rfl
      have x1 := act_cells s3 1 (.int .i64 (nm : Int)) rfl
      have x2 := act_cells s3 2 (.bool wb) rfl
      have x3 := act_cells s3 3 (.int .i64 (ps : Int)) rfl
      have x4 := act_cells s3 4 (.int .i64 1) rfl
      have y0 := s1.kind k n24
      have y1 := s1.num k n24
      have y2 := s1.wr k n24
      have y3 := s1.pos k n24
      have y4 := s1.refs k n24
      have yf := s1.frozen
      have FIN : Hid (XAt (W2.setCells t (2 + k * 5) (Fx.arr ⟨kd, nm, wb, ps, 1⟩).toList).drew t b p (Fx.put T k ⟨kd, nm, wb, ps, 1⟩) ∧ Frm t w (W2.setCells t (2 + k * 5) (Fx.arr ⟨kd, nm, wb, ps, 1⟩).toList).drew) := Hid.intro ⟨(s1.setAll k n24 _).drew, (Pp.frm_setCells _ _ s2).drew⟩
      clear s1 s2 s3
      go_region
      go_wp2_with fail
      go_ret
      exact ⟨rfl, FIN.out⟩
    · have d := HL.out.2.2 k (by omega)
      generalize (T k).refs = rr at *
      have d1 : (0 : Int) < (rr : Int) := by omega
      clear d
      go_wp2_with fail
      go_roundw
      case rel => exact ⟨k + 1, by go_num, by omega, by first | rfl | trivial⟩
      case measure => simp [intOf]; omega
end Go.Proofs.YtmneolabgajhmaaGreat

import Derived.Deep.RegionHeld3
import Derived.Test.YtghogbngmcolmaaGreatSan
namespace Go.Proofs.YtghogbngmcolmaaGreat
open Go.RowKit
open Fx (Fi)
open Tr (Fo Nd)
open Pp (Pi)
structure Tri (t b p : Nat) (w w' : World) : Prop where
  os : w'.os = w.os
  tape : w'.tape = w.tape
  output : w'.output = w.output
  size : w.heap.size ≤ w'.heap.size
  block : ∀ k, k < w.heap.size → k ≠ t → k ≠ b → k ≠ p → w'.heap[k]? = w.heap[k]?
section
variable {t b p : Nat} {u v w : World}
theorem Tri.refl (t b p : Nat) (w : World) : Tri t b p w w := ⟨rfl, rfl, rfl, Nat.le_refl _, fun _ _ _ _ _ => rfl⟩
theorem Tri.trans (h : Tri t b p u v) (k : Tri t b p v w) : Tri t b p u w := ⟨k.os.trans h.os, k.tape.trans h.tape, k.output.trans h.output, Nat.le_trans h.size k.size, fun j hj h1 h2 h3 => (k.block j (Nat.lt_of_lt_of_le hj h.size) h1 h2 h3).trans (h.block j hj h1 h2 h3)⟩
theorem Tri.tb (h : Frm t v w) : Tri t b p v w := ⟨h.os, h.tape, h.output, h.size, fun j hj h1 _ _ => h.block j hj h1⟩
theorem Tri.fo (h : Frm b v w) : Tri t b p v w := ⟨h.os, h.tape, h.output, h.size, fun j hj _ h2 _ => h.block j hj h2⟩
theorem Tri.pi (h : Frm p v w) : Tri t b p v w := ⟨h.os, h.tape, h.output, h.size, fun j hj _ _ h3 => h.block j hj h3⟩
theorem Tri.below (h : Below v.heap.size v w) : Tri t b p v w := ⟨h.os, h.tape, h.output, h.size, fun j hj _ _ _ => h.block j hj⟩
end
theorem Frm.fresh {t bx : Nat} {w W : World} (f : Frm t w W) (h : w.heap.size ≤ bx) (o : Nat) (v : Value) : Frm t w (W.setCell ⟨bx, o, none⟩ v) :=
  ⟨f.os, f.tape, f.output, by simpa [World.setCell] using f.size, fun k hk hn => (setBlk _ _ _ _ (by omega)).trans (f.block k hk hn)⟩
def FX (w : World) (t b p : Nat) (T : Nat → Fi) (F : Fo) (S : Nat → Pi) : Prop := XAt w t b p T ∧ FAt w b F ∧ PAt w p S ∧ t ≠ b ∧ t ≠ p ∧ b ≠ p
section
variable {w w' : World} {t b p : Nat} {T T' : Nat → Fi} {F F' : Fo} {S S' : Nat → Pi}
theorem FX.tb (h : FX w t b p T F S) (k : XAt w' t b p T') (f : Frm t w w') : FX w' t b p T' F S := ⟨k, h.2.1.same (f.block b h.2.1.lt (Ne.symm h.2.2.2.1)), h.2.2.1.frm f (Ne.symm h.2.2.2.2.1), h.2.2.2⟩
theorem FX.fo (h : FX w t b p T F S) (k : FAt w' b F') (f : Frm b w w') : FX w' t b p T F' S := ⟨h.1.frm f h.2.2.2.1, k, h.2.2.1.frm f (Ne.symm h.2.2.2.2.2), h.2.2.2⟩
theorem FX.pi (h : FX w t b p T F S) (k : PAt w' p S') (f : Frm p w w') : FX w' t b p T F S' := ⟨h.1.frm f h.2.2.2.2.1, h.2.1.same (f.block b h.2.1.lt h.2.2.2.2.2), k, h.2.2.2⟩
theorem FX.below (h : FX w t b p T F S) (f : Below w.heap.size w w') : FX w' t b p T F S := ⟨h.1.below f h.1.lt, h.2.1.below f, h.2.2.1.below f h.2.2.1.lt, h.2.2.2⟩
end
def Fx.nul : Nat → Fi := fun _ => Fi.no
def Fx.zT : Array Value := ((List.range 122).map fun o => if o < 2 then Value.pointer none else if o % 5 = 4 then Value.bool false else Value.int .i64 0).toArray
theorem Fx.zT_at (o : Nat) (h : o < 122) : Fx.zT[o]? = some (if o < 2 then Value.pointer none else if o % 5 = 4 then Value.bool false else Value.int .i64 0) := by simp [Fx.zT, h]
set_option maxRecDepth 100000 in
theorem Fx.zeroV (w : World) : (zeroValue 117).run Tryz.prog w = .ok (.agg Fx.zT) w := by kernel_rfl
def Fx.nwA (P0 P1 : Value) : Array Value := (Fx.zT.setIfInBounds 0 P0).setIfInBounds 1 P1
theorem XAt.new {w : World} {t b p : Nat} {Ty : TypeId} (h : w.heap[t]? = some (.cells (Fx.nwA (.pointer (some ⟨b, 0, none⟩)) (.pointer (some ⟨p, 0, none⟩))) Ty (0, 0))) : XAt w t b p Fx.nul := by
  have sz : Fx.zT.size = 122 := by simp [Fx.zT]
  refine ⟨⟨_, Ty, h, by simp [Fx.nwA, sz]⟩, ?_, ?_, fun n hn i hi => ?_⟩
  · rw [cell_blk h]; unfold Fx.nwA
    rw [Array.getElem?_setIfInBounds_ne (by omega), Array.getElem?_setIfInBounds_self_of_lt (by omega)]
  · rw [cell_blk h]; unfold Fx.nwA
    rw [Array.getElem?_setIfInBounds_self_of_lt (by simp [sz])]
  · rw [cell_blk h]; unfold Fx.nwA
    rw [Array.getElem?_setIfInBounds_ne (by omega), Array.getElem?_setIfInBounds_ne (by omega), Fx.zT_at _ (by omega), if_neg (by omega)]
    match i, hi with
    | 0, _ => rw [if_neg (by omega)]; rfl
    | 1, _ => rw [if_neg (by omega)]; rfl
    | 2, _ => rw [if_pos (by omega)]; rfl
    | 3, _ => rw [if_neg (by omega)]; rfl
    | 4, _ => rw [if_neg (by omega)]; rfl
section
variable {ops : Array Oper} {rest : List Oper} {x : Oper} {a : Act} {w : World} {Q : Exit → Act → World → Prop}
set_option maxRecDepth 100000 in
theorem Fx.wp_buildT (hgd : x.guard = none) (y0 y1 : Operand) (P0 P1 : Option Addr) (ho : x.op = .build 117 #[(0, y0), (1, y1)]) (h0 : a.eval y0 = .pointer P0) (h1 : a.eval y1 = .pointer P1) (h : wpList Tryz.prog ops Q rest (a.put x.dst (.agg (Fx.nwA (.pointer P0) (.pointer P1)))) w) : wpList Tryz.prog ops Q (x :: rest) a w :=
  wpList_plain hgd fun _ hK => by
    unfold Oper.wp execOp
    have hz := Fx.zeroV w
    simp only [ho, List.map_toArray, List.map_cons, List.map_nil, h0, h1]
    simp [go_sem, hz]
    exact hK _ _ h
end
set_option maxRecDepth 100000 in
set_option maxHeartbeats 400000 in
theorem xnew_any (b p : Nat) (w : World) : Calls Tryz.prog 57 #[.pointer (some ⟨b, 0, none⟩), .pointer (some ⟨p, 0, none⟩)] w fun e w' => e = .returned (.pointer (some ⟨w.heap.size, 0, none⟩)) ∧ XAt w' w.heap.size b p Fx.nul ∧ Below w.heap.size w w' := by
  have FIN : Hid (XAt (w.alloc (.cells (Fx.nwA (.pointer (some ⟨b, 0, none⟩)) (.pointer (some ⟨p, 0, none⟩))) 117)) w.heap.size b p Fx.nul ∧ Below w.heap.size w (w.alloc (.cells (Fx.nwA (.pointer (some ⟨b, 0, none⟩)) (.pointer (some ⟨p, 0, none⟩))) 117))) := Hid.intro ⟨XAt.new (heap_alloc_new w _), (Below.refl _ _).alloc (Nat.le_refl _) _⟩
  obtain ⟨A, hA⟩ : ∃ A, Fx.nwA (.pointer (some ⟨b, 0, none⟩)) (.pointer (some ⟨p, 0, none⟩)) = A := ⟨_, rfl⟩
  rw [hA] at FIN
  go_enter Tryz.func57, Tryz.ntmps57
  go_wp2_with (refine Fx.wp_buildT rfl _ _ _ _ rfl rfl rfl ?_; rw [hA])
  go_ret
  exact ⟨rfl, FIN.out⟩
set_option maxRecDepth 100000 in
set_option maxHeartbeats 1000000 in
theorem xadd_any (t b p : Nat) (x : Fi) (n : Nat) (T : Nat → Fi) (w : World) (h : XAt w t b p T) (hl : Fx.Low T n) :
    Calls Tryz.prog 64 #[.pointer (some ⟨t, 0, none⟩), .agg #[.int .i64 (x.kind : Int), .int .i64 (x.num : Int), .bool x.wr, .int .i64 (x.pos : Int), .int .i64 (x.refs : Int)]] w fun e w' => e = .returned (.int .i64 (n : Int)) ∧ XAt w' t b p (Fx.put T n { x with refs := 1 }) ∧ Frm t w w' := by
  have HF := Hid.intro h
  have HL := Hid.intro hl
  have hlt := h.lt
  have NE : Hid (w.heap.size ≠ t) := Hid.intro (by omega)
  clear h hl hlt
  obtain ⟨kd, nm, wb, ps, rf⟩ := x
  go_enter Tryz.func64, Tryz.ntmps64
  go_upto_region 1 with fail
  refine wp_gen (fun W' => XAt W' t b p T ∧ Frm t w W' ∧ W'.heap[w.heap.size]? = some (.cells #[.int .i64 (kd : Int), .int .i64 (nm : Int), .bool wb, .int .i64 (ps : Int), .int .i64 (rf : Int)] 114 (0, 0))) (by
    have bb := (Below.refl w.heap.size w).alloc (Nat.le_refl _) (.cells #[.int .i64 (kd : Int), .int .i64 (nm : Int), .bool wb, .int .i64 (ps : Int), .int .i64 (rf : Int)] 114)
    exact ⟨HF.out.below bb HF.out.lt, Frm.of_below bb, heap_alloc_new w _⟩) ?_
  rintro W1 ⟨h1, f1, x1⟩
  have H1 := Hid.intro h1
  have F1 := Hid.intro f1
  have X1 := Hid.intro x1
  clear h1 f1 x1 HF
  obtain ⟨bx, hbx⟩ : ∃ bx, w.heap.size = bx := ⟨_, rfl⟩
  have HB := Hid.intro hbx
  rw [hbx] at X1 NE ⊢
  clear hbx
  go_wp2_with fail
  go_loopw [5] (fun i wr => ∃ (k : Nat), i = .int .i64 k ∧ k ≤ n ∧ wr = W1) (fun i _ => n - (intOf i).toNat)
  case atStart => exact ⟨0, rfl, by omega, rfl⟩
  case round =>
    obtain ⟨k, rfl, hk, hwr⟩ := hrel
    subst wr
    have n24 : n < 24 := HL.out.1
    have k24i : (k : Int) < 24 := by omega
    have c4 := H1.out.refs k (by omega)
    by_cases e : k = n
    · subst e
      rw [HL.out.2.1] at c4
      have c4' : W1.cell? ⟨t, 2 + k * 5 + 4, none⟩ = some (.int .i64 0) := c4
      clear c4
      have cx := act_cells X1.out 4 (.int .i64 (rf : Int)) rfl
      have fx := frozen_blk X1.out
      have HS : XAt (W1.setCell ⟨bx, 4, none⟩ (.int .i64 1)) t b p T ∧ Frm t w (W1.setCell ⟨bx, 4, none⟩ (.int .i64 1)) ∧ (W1.setCell ⟨bx, 4, none⟩ (.int .i64 1)).heap[bx]? = some (.cells #[.int .i64 (kd : Int), .int .i64 (nm : Int), .bool wb, .int .i64 (ps : Int), .int .i64 1] 114 (0, 0)) := ⟨H1.out.same (setBlk _ _ _ _ (Ne.symm NE.out)), F1.out.fresh (Nat.le_of_eq HB.out) _ _, by rw [blk_set X1.out]; rfl⟩
      go_upto_region 5 with fail
      clear cx fx c4'
      generalize W1.setCell ⟨bx, 4, none⟩ (.int .i64 1) = W2 at HS ⊢
      obtain ⟨s1, s2, s3⟩ := HS
      have x0 := act_cells s3 0 (.int .i64 (kd : Int)) rfl
      have x1 := act_cells s3 1 (.int .i64 (nm : Int)) rfl
      have x2 := act_cells s3 2 (.bool wb) rfl
      have x3 := act_cells s3 3 (.int .i64 (ps : Int)) rfl
      have x4 := act_cells s3 4 (.int .i64 1) rfl
      have y0 := s1.kind k n24
      have y1 := s1.num k n24
      have y2 := s1.wr k n24
      have y3 := s1.pos k n24
      have y4 := s1.refs k n24
      have yf := s1.frozen
      have FIN : Hid (XAt (W2.setCells t (2 + k * 5) (Fx.arr ⟨kd, nm, wb, ps, 1⟩).toList).drew t b p (Fx.put T k ⟨kd, nm, wb, ps, 1⟩) ∧ Frm t w (W2.setCells t (2 + k * 5) (Fx.arr ⟨kd, nm, wb, ps, 1⟩).toList).drew) := Hid.intro ⟨(s1.setAll k n24 _).drew, (Pp.frm_setCells _ _ s2).drew⟩
      clear s1 s2 s3
      go_region
      go_wp2_with fail
      go_ret
      exact ⟨rfl, FIN.out⟩
    · have d := HL.out.2.2 k (by omega)
      generalize (T k).refs = rr at *
      have d1 : (0 : Int) < (rr : Int) := by omega
      clear d
      go_wp2_with fail
      go_roundw
      case rel => exact ⟨k + 1, by go_num, by omega, by first | rfl | trivial⟩
      case measure => simp [intOf]; omega
end Go.Proofs.YtghogbngmcolmaaGreat
namespace Go.Proofs.YtghogbngmcolmaaGreat
open Go.RowKit
open Fx (Fi)
open Tr (Fo Nd)
open Pp (Pi)
def Fx.Sm (F : Fo) (S : Nat → Pi) : Prop := (∀ n, n < 40 → (F.nd n).held < 2 ^ 60) ∧ ∀ wr, ∀ n, n < 8 → Pp.tim (S n) wr < 2 ^ 60
def Fx.leF (F : Fo) (x : Fi) : Fo := if x.kind = 1 then Tr.letT F (x.num : Int) else F
def Fx.leS (S : Nat → Pi) (x : Fi) : Nat → Pi := if x.kind = 1 then S else Pp.droF S (x.num : Int) (decide (x.kind = 3))
set_option maxRecDepth 100000 in
set_option maxHeartbeats 1000000 in
theorem xlet_any (t b p : Nat) (x : Fi) (T : Nat → Fi) (F : Fo) (S : Nat → Pi) (w : World) (h : FX w t b p T F S) (hs : Fx.Sm F S) :
    Calls Tryz.prog 95 #[.pointer (some ⟨t, 0, none⟩), .agg #[.int .i64 (x.kind : Int), .int .i64 (x.num : Int), .bool x.wr, .int .i64 (x.pos : Int), .int .i64 (x.refs : Int)]] w fun e w' => e = .returned (.tuple #[]) ∧ FX w' t b p T (Fx.leF F x) (Fx.leS S x) ∧ Tri t b p w w' := by
  have HF := Hid.intro h
  have HS := Hid.intro hs
  have NE : Hid (w.heap.size ≠ t ∧ w.heap.size ≠ b ∧ w.heap.size ≠ p) := Hid.intro ⟨Nat.ne_of_gt h.1.lt, Nat.ne_of_gt h.2.1.lt, Nat.ne_of_gt h.2.2.1.lt⟩
  clear h hs
  obtain ⟨kd, nm, wb, ps, rf⟩ := x
  have B0 : Hid (FX (w.alloc (.cells #[.int .i64 (kd : Int), .int .i64 (nm : Int), .bool wb, .int .i64 (ps : Int), .int .i64 (rf : Int)] 114)) t b p T F S ∧ Tri t b p w (w.alloc (.cells #[.int .i64 (kd : Int), .int .i64 (nm : Int), .bool wb, .int .i64 (ps : Int), .int .i64 (rf : Int)] 114)) ∧ (w.alloc (.cells #[.int .i64 (kd : Int), .int .i64 (nm : Int), .bool wb, .int .i64 (ps : Int), .int .i64 (rf : Int)] 114)).heap[w.heap.size]? = some (.cells #[.int .i64 (kd : Int), .int .i64 (nm : Int), .bool wb, .int .i64 (ps : Int), .int .i64 (rf : Int)] 114 (0, 0))) := Hid.intro (by
    have bb := (Below.refl w.heap.size w).alloc (Nat.le_refl _) (.cells #[.int .i64 (kd : Int), .int .i64 (nm : Int), .bool wb, .int .i64 (ps : Int), .int .i64 (rf : Int)] 114)
    exact ⟨HF.out.below bb, Tri.below bb, heap_alloc_new w _⟩)
  by_cases k1 : kd = 1
  · subst k1
    have EL : Hid (Fx.leF F ⟨1, nm, wb, ps, rf⟩ = Tr.letT F (nm : Int) ∧ Fx.leS S ⟨1, nm, wb, ps, rf⟩ = S) := Hid.intro ⟨if_pos rfl, if_pos rfl⟩
    go_enter Tryz.func95, Tryz.ntmps95
    go_upto_region 1 with fail
    refine wp_gen (fun W' => FX W' t b p T F S ∧ Tri t b p w W' ∧ W'.heap[w.heap.size]? = some (.cells #[.int .i64 ((1 : Nat) : Int), .int .i64 (nm : Int), .bool wb, .int .i64 (ps : Int), .int .i64 (rf : Int)] 114 (0, 0))) B0.out ?_
    rintro W1 ⟨h1, f1, x1⟩
    have H1 := Hid.intro h1
    have F1 := Hid.intro f1
    have y0 := act_cells x1 0 (.int .i64 1) rfl
    have y1 := act_cells x1 1 (.int .i64 (nm : Int)) rfl
    have y2 := h1.1.fo
    have K0 := Hid.intro (And.intro y2 y1)
    have X1 := Hid.intro x1
    clear h1 f1 x1 HF B0 y1 y2
    generalize w.heap.size = bx at *
    go_wp2_with fail
    go_region_held3 (fun w' => w'.cell? ⟨t, 0, none⟩ = some (.pointer (some ⟨b, 0, none⟩)) ∧ w'.cell? ⟨bx, 1, none⟩ = some (.int .i64 (nm : Int))) (first | exact K0.out | exact K4.out) ((first | (go_at_call 132; refine (tlet_any b nm F _ H1.out.2.1.drew HS.out.1).mono ?_; rintro e w4 ⟨rfl, u4, f4⟩; have f4' : Frm b W1 w4 := ⟨f4.os, f4.tape, f4.output, f4.size, f4.block⟩; have C4 := Hid.intro (And.intro (H1.out.fo u4 f4') (F1.out.trans (Tri.fo f4'))); have K4 := Hid.intro (And.intro C4.out.1.1.fo (act_cells ((f4'.block bx (Array.getElem?_eq_some_iff.1 X1.out).1 NE.out.2.1).trans X1.out) 1 (.int .i64 (nm : Int)) rfl)); clear u4 f4 f4')))
    go_wp2_with fail
    (try simp only [Exit.inBlock, Exit.then])
    refine bodyPost_ret (results_none rfl _ _ _) rfl ?_
    rw [EL.out.1, EL.out.2]
    exact ⟨rfl, C4.out⟩
  · have EL : Hid (Fx.leF F ⟨kd, nm, wb, ps, rf⟩ = F ∧ Fx.leS S ⟨kd, nm, wb, ps, rf⟩ = Pp.droF S (nm : Int) (decide (kd = 3))) := Hid.intro ⟨if_neg k1, if_neg k1⟩
    have k1' : ((kd : Int) == 1) = false := by simp; omega
    have k3 : ((kd : Int) == 3) = decide (kd = 3) := by
      by_cases d : kd = 3
      · subst d; rfl
      · rw [decide_eq_false d]; simp; omega
    go_enter Tryz.func95, Tryz.ntmps95
    go_upto_region 1 with fail
    refine wp_gen (fun W' => FX W' t b p T F S ∧ Tri t b p w W' ∧ W'.heap[w.heap.size]? = some (.cells #[.int .i64 (kd : Int), .int .i64 (nm : Int), .bool wb, .int .i64 (ps : Int), .int .i64 (rf : Int)] 114 (0, 0))) B0.out ?_
    rintro W1 ⟨h1, f1, x1⟩
    have H1 := Hid.intro h1
    have F1 := Hid.intro f1
    have y0 := act_cells x1 0 (.int .i64 (kd : Int)) rfl
    have y1 := act_cells x1 1 (.int .i64 (nm : Int)) rfl
    have y2 := h1.1.pi
    have K0 := Hid.intro (And.intro y2 (And.intro y1 y0))
    have X1 := Hid.intro x1
    clear h1 f1 x1 HF B0 y1 y2 k1
    generalize w.heap.size = bx at *
    go_wp2_with fail
    go_region_held3 (fun w' => w'.cell? ⟨t, 1, none⟩ = some (.pointer (some ⟨p, 0, none⟩)) ∧ w'.cell? ⟨bx, 1, none⟩ = some (.int .i64 (nm : Int)) ∧ w'.cell? ⟨bx, 0, none⟩ = some (.int .i64 (kd : Int))) (first | exact K0.out | exact K4.out) ((first | (go_at_call 133; refine (pdrop_any p nm _ S _ H1.out.2.2.1.drew (HS.out.2 _)).mono ?_; rintro e w4 ⟨rfl, u4, f4⟩; have f4' : Frm p W1 w4 := ⟨f4.os, f4.tape, f4.output, f4.size, f4.block⟩; have C4 := Hid.intro (And.intro (H1.out.pi u4 f4') (F1.out.trans (Tri.pi f4'))); have K4 := Hid.intro (And.intro C4.out.1.1.pi (And.intro (act_cells ((f4'.block bx (Array.getElem?_eq_some_iff.1 X1.out).1 NE.out.2.2).trans X1.out) 1 (.int .i64 (nm : Int)) rfl) (act_cells ((f4'.block bx (Array.getElem?_eq_some_iff.1 X1.out).1 NE.out.2.2).trans X1.out) 0 (.int .i64 (kd : Int)) rfl))); clear u4 f4 f4')))
    go_wp2_with fail
    go_end0
    rw [EL.out.1, EL.out.2]
    exact ⟨rfl, C4.out⟩
def Fx.shaT (T : Nat → Fi) (z : Int) : Nat → Fi := if Fx.filE T z = 0 then Fx.put T z.toNat { T z.toNat with refs := (T z.toNat).refs + 1 } else T
set_option maxRecDepth 100000 in
set_option maxHeartbeats 1000000 in
theorem xshare_any (t b p : Nat) (z : Int) (T : Nat → Fi) (w : World) (h : XAt w t b p T) (hr : ∀ n, n < 24 → (T n).refs < 2 ^ 60) :
    Calls Tryz.prog 74 #[.pointer (some ⟨t, 0, none⟩), .int .i64 z] w fun e w' => e = .returned (errV (Fx.filE T z)) ∧ XAt w' t b p (Fx.shaT T z) ∧ Frm t w w' := by
  have HF := Hid.intro h
  by_cases c : Fx.filE T z = 0
  · obtain ⟨n, rfl, n24, _⟩ := Fx.filE_ok c
    have EP : Hid (Fx.filE T (n : Int) = 0 ∧ fptE t (n : Int) 0 = .pointer (some ⟨t, 2 + n * 5, none⟩)) := Hid.intro ⟨c, fptE_ok t n⟩
    have c0 := h.refs n n24
    have hl := hr n n24
    have FIN : Hid (XAt (w.setCell ⟨t, 2 + n * 5 + 4, none⟩ (.int .i64 (((T n).refs + 1 : Nat) : Int))) t b p (Fx.shaT T (n : Int))) := Hid.intro (by
      unfold Fx.shaT
      rw [if_pos c, Int.toNat_natCast]
      exact h.setRefs n n24 _)
    have cf := h.frozen
    generalize (T n).refs = k at *
    have hw : IntKind.i64.wrap ((k : Int) + 1) = (k : Int) + 1 := IntWalk.i64_in _ ⟨by omega, by omega⟩
    clear h c hr
    go_enter Tryz.func74, Tryz.ntmps74
    go_wp2_with fail
    refine (xfile_any t b p n T _ HF.out).mono ?_
    rintro e w1 ⟨rfl, hw1⟩
    subst w1
    rw [EP.out.1, EP.out.2, errV_zero]
    go_wp2_with fail
    go_ret
    rw [EP.out.1]
    exact ⟨rfl, FIN.out, (Frm.refl t w).setCell _ _⟩
  · have E2 : Hid (fptE t z (Fx.filE T z) = .pointer none ∧ errV (Fx.filE T z) = .iface 60 (.int .i64 (Fx.filE T z)) ∧ Fx.shaT T z = T) := Hid.intro ⟨fptE_no c, errV_ne c, if_neg c⟩
    clear h c hr
    go_enter Tryz.func74, Tryz.ntmps74
    go_wp2_with fail
    refine (xfile_any t b p z T _ HF.out).mono ?_
    rintro e w1 ⟨rfl, hw1⟩
    subst w1
    rw [E2.out.1, E2.out.2.1]
    go_wp2_with fail
    go_ret
    rw [E2.out.2.2, E2.out.2.1]
    exact ⟨rfl, HF.out, Frm.refl _ _⟩
def Fx.cloT (T : Nat → Fi) (z : Int) : Nat → Fi := if Fx.filE T z = 0 then Fx.put T z.toNat (if (T z.toNat).refs = 1 then Fi.no else { T z.toNat with refs := (T z.toNat).refs - 1 }) else T
def Fx.cloF (T : Nat → Fi) (F : Fo) (z : Int) : Fo := if Fx.filE T z = 0 ∧ (T z.toNat).refs = 1 then Fx.leF F (T z.toNat) else F
def Fx.cloS (T : Nat → Fi) (S : Nat → Pi) (z : Int) : Nat → Pi := if Fx.filE T z = 0 ∧ (T z.toNat).refs = 1 then Fx.leS S (T z.toNat) else S
set_option maxRecDepth 100000 in
set_option maxHeartbeats 1000000 in
theorem xclose_any (t b p : Nat) (z : Int) (T : Nat → Fi) (F : Fo) (S : Nat → Pi) (w : World) (h : FX w t b p T F S) (hs : Fx.Sm F S) (hr : ∀ n, n < 24 → (T n).refs < 2 ^ 60) :
    Calls Tryz.prog 50 #[.pointer (some ⟨t, 0, none⟩), .int .i64 z] w fun e w' => e = .returned (errV (Fx.filE T z)) ∧ FX w' t b p (Fx.cloT T z) (Fx.cloF T F z) (Fx.cloS T S z) ∧ Tri t b p w w' := by
  have HF := Hid.intro h
  have HS := Hid.intro hs
  by_cases c : Fx.filE T z = 0
  · obtain ⟨n, rfl, n24, r0⟩ := Fx.filE_ok c
    have EP : Hid (Fx.filE T (n : Int) = 0 ∧ fptE t (n : Int) 0 = .pointer (some ⟨t, 2 + n * 5, none⟩)) := Hid.intro ⟨c, fptE_ok t n⟩
    have c0 := h.1.refs n n24
    have hl := hr n n24
    have S1 : Hid (FX (w.setCell ⟨t, 2 + n * 5 + 4, none⟩ (.int .i64 (((T n).refs - 1 : Nat) : Int))) t b p (Fx.put T n { T n with refs := (T n).refs - 1 }) F S ∧ Frm t w (w.setCell ⟨t, 2 + n * 5 + 4, none⟩ (.int .i64 (((T n).refs - 1 : Nat) : Int)))) := Hid.intro ⟨h.tb (h.1.setRefs n n24 _) ((Frm.refl t w).setCell _ _), (Frm.refl t w).setCell _ _⟩
    have cf := h.1.frozen
    have ET : Hid (Fx.cloT T (n : Int) = Fx.put T n (if (T n).refs = 1 then Fi.no else { T n with refs := (T n).refs - 1 }) ∧ Fx.cloF T F (n : Int) = (if (T n).refs = 1 then Fx.leF F (T n) else F) ∧ Fx.cloS T S (n : Int) = (if (T n).refs = 1 then Fx.leS S (T n) else S)) := Hid.intro (by
      unfold Fx.cloT Fx.cloF Fx.cloS
      rw [Int.toNat_natCast, if_pos c]
      refine ⟨rfl, ?_, ?_⟩
      · by_cases d : (T n).refs = 1
        · rw [if_pos ⟨c, d⟩, if_pos d]
        · rw [if_neg (fun e => d e.2), if_neg d]
      · by_cases d : (T n).refs = 1
        · rw [if_pos ⟨c, d⟩, if_pos d]
        · rw [if_neg (fun e => d e.2), if_neg d])
    by_cases r1 : (T n).refs = 1
    · rw [r1] at c0 S1
      have c0' : w.cell? ⟨t, 2 + n * 5 + 4, none⟩ = some (.int .i64 1) := c0
      have S1' : Hid (FX (w.setCell ⟨t, 2 + n * 5 + 4, none⟩ (.int .i64 0)) t b p (Fx.put T n { T n with refs := 0 }) F S ∧ Frm t w (w.setCell ⟨t, 2 + n * 5 + 4, none⟩ (.int .i64 0))) := S1
      rw [if_pos r1, if_pos r1, if_pos r1] at ET
      clear h c hr hl c0 S1 r0
      go_enter Tryz.func50, Tryz.ntmps50
      go_wp2_with fail
      refine (xfile_any t b p n T _ HF.out.1).mono ?_
      rintro e w1 ⟨rfl, hw1⟩
      subst w1
      rw [EP.out.1, EP.out.2, errV_zero]
      have z0 := S1'.out.1.1.kind n n24
      have z1 := S1'.out.1.1.num n n24
      have z2 := S1'.out.1.1.wr n n24
      have z3 := S1'.out.1.1.pos n n24
      have z4 := S1'.out.1.1.refs n n24
      rw [Fx.put_same] at z0 z1 z2 z3 z4
      have XL : Hid (Fx.leF F (T n) = Fx.leF F { T n with refs := 0 } ∧ Fx.leS S (T n) = Fx.leS S { T n with refs := 0 }) := Hid.intro ⟨rfl, rfl⟩
      obtain ⟨x, hx⟩ : ∃ x, ({ T n with refs := 0 } : Fi) = x := ⟨_, rfl⟩
      rw [hx] at z0 z1 z2 z3 z4 S1' XL
      have hx4 : x.refs = 0 := by rw [← hx]
      clear hx r1
      obtain ⟨kd, nm, wb, ps, rf⟩ := x
      obtain rfl : rf = 0 := hx4
      have z0' : (w.setCell ⟨t, 2 + n * 5 + 4, none⟩ (.int .i64 0)).cell? ⟨t, 2 + n * 5, none⟩ = some (.int .i64 (kd : Int)) := z0
      have z1' : (w.setCell ⟨t, 2 + n * 5 + 4, none⟩ (.int .i64 0)).cell? ⟨t, 2 + n * 5 + 1, none⟩ = some (.int .i64 (nm : Int)) := z1
      have z2' : (w.setCell ⟨t, 2 + n * 5 + 4, none⟩ (.int .i64 0)).cell? ⟨t, 2 + n * 5 + 2, none⟩ = some (.bool wb) := z2
      have z3' : (w.setCell ⟨t, 2 + n * 5 + 4, none⟩ (.int .i64 0)).cell? ⟨t, 2 + n * 5 + 3, none⟩ = some (.int .i64 (ps : Int)) := z3
      have z4' : (w.setCell ⟨t, 2 + n * 5 + 4, none⟩ (.int .i64 0)).cell? ⟨t, 2 + n * 5 + 4, none⟩ = some (.int .i64 0) := z4
      clear z0 z1 z2 z3 z4
      go_upto_region 5 with fail
      generalize w.setCell ⟨t, 2 + n * 5 + 4, none⟩ (.int .i64 0) = W1 at *
      clear c0' cf
      go_wp2_with fail
      refine (xlet_any t b p ⟨kd, nm, wb, ps, 0⟩ _ F S _ S1'.out.1 HS.out).mono ?_
      rintro e W2 ⟨rfl, h2, f2⟩
      have H2 := Hid.intro h2
      have F2 := Hid.intro ((Tri.tb S1'.out.2).trans f2)
      have FIN : Hid (FX (W2.setCells t (2 + n * 5) (Fx.arr Fi.no).toList) t b p (Fx.cloT T (n : Int)) (Fx.cloF T F (n : Int)) (Fx.cloS T S (n : Int)) ∧ Tri t b p w (W2.setCells t (2 + n * 5) (Fx.arr Fi.no).toList)) := Hid.intro (by
        have q := h2.1.setAll n n24 Fi.no
        rw [Fx.put_put] at q
        rw [ET.out.1, ET.out.2.1, ET.out.2.2, XL.out.1, XL.out.2]
        have fr := Pp.frm_setCells (Fx.arr Fi.no).toList (2 + n * 5) (Frm.refl t W2)
        exact ⟨h2.tb q fr, F2.out.trans (Tri.tb fr)⟩)
      have y0 := h2.1.kind n n24
      have y1 := h2.1.num n n24
      have y2 := h2.1.wr n n24
      have y3 := h2.1.pos n n24
      have y4 := h2.1.refs n n24
      have yf := h2.1.frozen
      rw [Fx.put_same] at y0 y1 y2 y3 y4
      clear h2 f2 z0' z1' z2' z3' z4'
      go_wp2_with fail
      go_ret
      rw [EP.out.1]
      exact ⟨rfl, FIN.out⟩
    · rw [if_neg r1, if_neg r1, if_neg r1] at ET
      generalize (T n).refs = k at *
      obtain ⟨q, rfl⟩ : ∃ q, k = q + 1 := ⟨k - 1, by omega⟩
      have q0 : ((q : Int) == 0) = false := by simp; omega
      rw [Nat.add_sub_cancel] at S1 ET
      have hw : IntKind.i64.wrap (((q + 1 : Nat) : Int) - 1) = (q : Int) := (IntWalk.i64_in _ ⟨by omega, by omega⟩).trans (by omega)
      obtain ⟨k1, hk1⟩ : ∃ k1 : Int, ((q + 1 : Nat) : Int) = k1 := ⟨_, rfl⟩
      rw [hk1] at c0 hw
      clear h c hr hl r0 hk1 r1
      go_enter Tryz.func50, Tryz.ntmps50
      go_wp2_with fail
      refine (xfile_any t b p n T _ HF.out.1).mono ?_
      rintro e w1 ⟨rfl, hw1⟩
      subst w1
      rw [EP.out.1, EP.out.2, errV_zero]
      go_wp2_with fail
      go_ret
      rw [EP.out.1, ET.out.1, ET.out.2.1, ET.out.2.2]
      exact ⟨rfl, S1.out.1, Tri.tb S1.out.2⟩
  · have E2 : Hid (fptE t z (Fx.filE T z) = .pointer none ∧ errV (Fx.filE T z) = .iface 60 (.int .i64 (Fx.filE T z)) ∧ Fx.cloT T z = T ∧ Fx.cloF T F z = F ∧ Fx.cloS T S z = S) := Hid.intro ⟨fptE_no c, errV_ne c, if_neg c, if_neg (fun e => c e.1), if_neg (fun e => c e.1)⟩
    clear h c hr
    go_enter Tryz.func50, Tryz.ntmps50
    go_wp2_with fail
    refine (xfile_any t b p z T _ HF.out.1).mono ?_
    rintro e w1 ⟨rfl, hw1⟩
    subst w1
    rw [E2.out.1, E2.out.2.1]
    go_wp2_with fail
    go_ret
    rw [E2.out.2.2.1, E2.out.2.2.2.1, E2.out.2.2.2.2, E2.out.2.1]
    exact ⟨rfl, HF.out, Tri.refl _ _ _ _⟩
end Go.Proofs.YtghogbngmcolmaaGreat
namespace Go.Proofs.YtghogbngmcolmaaGreat
open Go.RowKit
open Fx (Fi)
open Tr (Fo Nd)
open Pp (Pi)
def Fx.wriE (T : Nat → Fi) (F : Fo) (S : Nat → Pi) (z : Int) (s : ByteArray) : Int :=
  if Fx.filE T z ≠ 0 then Fx.filE T z else if (T z.toNat).kind = 3 then Pp.wriE S ((T z.toNat).num : Int) s else if (T z.toNat).wr = false then 8 else Tr.wriE F ((T z.toNat).num : Int) ((T z.toNat).pos : Int) s
def Fx.wriK (T : Nat → Fi) (F : Fo) (S : Nat → Pi) (z : Int) (s : ByteArray) : Nat :=
  if Fx.filE T z ≠ 0 then 0 else if (T z.toNat).kind = 3 then Pp.wriK S ((T z.toNat).num : Int) s else if (T z.toNat).wr = false then 0 else if Tr.wriE F ((T z.toNat).num : Int) ((T z.toNat).pos : Int) s = 0 then s.size else 0
def Fx.wriB (T : Nat → Fi) (z : Int) : Prop := Fx.filE T z = 0 ∧ (T z.toNat).kind ≠ 3 ∧ (T z.toNat).wr = true
def Fx.zD (T : Nat → Fi) (z : Int) : Decidable (Fx.wriB T z) := by unfold Fx.wriB; exact inferInstance
def Fx.wriT (T : Nat → Fi) (F : Fo) (z : Int) (s : ByteArray) : Nat → Fi :=
  haveI := Fx.zD T z; if Fx.wriB T z ∧ Tr.wriE F ((T z.toNat).num : Int) ((T z.toNat).pos : Int) s = 0 then Fx.put T z.toNat { T z.toNat with pos := (T z.toNat).pos + s.size } else T
def Fx.wriF (T : Nat → Fi) (F : Fo) (z : Int) (s : ByteArray) : Fo := haveI := Fx.zD T z; if Fx.wriB T z then Tr.wriF F ((T z.toNat).num : Int) ((T z.toNat).pos : Int) s else F
def Fx.wriP (T : Nat → Fi) (S : Nat → Pi) (z : Int) (s : ByteArray) : Nat → Pi := if Fx.filE T z = 0 ∧ (T z.toNat).kind = 3 then Pp.wriF S ((T z.toNat).num : Int) s else S
def Fx.Pz (T : Nat → Fi) : Prop := ∀ n, n < 24 → (T n).pos < 2 ^ 60
set_option maxRecDepth 100000 in
set_option maxHeartbeats 2000000 in
theorem xwrite_any (t b p : Nat) (z : Int) (s : ByteArray) (T : Nat → Fi) (F : Fo) (S : Nat → Pi) (w : World) (h : FX w t b p T F S) (hs : s.size < 2 ^ 59) (hp : Fx.Pz T) :
    Calls Tryz.prog 43 #[.pointer (some ⟨t, 0, none⟩), .int .i64 z, .string s] w fun e w' => e = .returned (.tuple #[.int .i64 (Fx.wriK T F S z s : Int), errV (Fx.wriE T F S z s)]) ∧ FX w' t b p (Fx.wriT T F z s) (Fx.wriF T F z s) (Fx.wriP T S z s) ∧ Tri t b p w w' := by
  have HF := Hid.intro h
  have HL := Hid.intro hs
  by_cases c : Fx.filE T z = 0
  · obtain ⟨n, rfl, n24, _⟩ := Fx.filE_ok c
    have EP : Hid (Fx.filE T (n : Int) = 0 ∧ fptE t (n : Int) 0 = .pointer (some ⟨t, 2 + n * 5, none⟩)) := Hid.intro ⟨c, fptE_ok t n⟩
    have hps := hp n n24
    have c0 := h.1.kind n n24
    have c1 := h.1.num n n24
    have c2 := h.1.wr n n24
    have c3 := h.1.pos n n24
    have cp := h.1.pi
    have cb := h.1.fo
    have cf := h.1.frozen
    have DE : Fx.wriE T F S (n : Int) s = if (T n).kind = 3 then Pp.wriE S ((T n).num : Int) s else if (T n).wr = false then 8 else Tr.wriE F ((T n).num : Int) ((T n).pos : Int) s := by unfold Fx.wriE; rw [if_neg (fun d => d c), Int.toNat_natCast]
    have DK : Fx.wriK T F S (n : Int) s = if (T n).kind = 3 then Pp.wriK S ((T n).num : Int) s else if (T n).wr = false then 0 else if Tr.wriE F ((T n).num : Int) ((T n).pos : Int) s = 0 then s.size else 0 := by unfold Fx.wriK; rw [if_neg (fun d => d c), Int.toNat_natCast]
    by_cases k3 : (T n).kind = 3
    · have nb : ¬ Fx.wriB T (n : Int) := fun d => by unfold Fx.wriB at d; rw [Int.toNat_natCast] at d; exact d.2.1 k3
      have FIN : Hid (Fx.wriE T F S (n : Int) s = Pp.wriE S ((T n).num : Int) s ∧ Fx.wriK T F S (n : Int) s = Pp.wriK S ((T n).num : Int) s ∧ Fx.wriT T F (n : Int) s = T ∧ Fx.wriF T F (n : Int) s = F ∧ Fx.wriP T S (n : Int) s = Pp.wriF S ((T n).num : Int) s) := Hid.intro ⟨by rw [DE, if_pos k3], by rw [DK, if_pos k3], if_neg (fun d => nb d.1), if_neg nb, by unfold Fx.wriP; rw [Int.toNat_natCast, if_pos ⟨c, k3⟩]⟩
      rw [k3] at c0
      have c0' : w.cell? ⟨t, 2 + n * 5, none⟩ = some (.int .i64 3) := c0
      generalize (T n).num = nm at *
      have K0 := Hid.intro (And.intro cp c1)
      have NP := Hid.intro h.2.2.2
      clear h c hp hs hps DE DK k3 nb c0 c1 c2 c3 cp cb
      go_enter Tryz.func43, Tryz.ntmps43
      go_wp2_with fail
      refine (xfile_any t b p n T _ HF.out.1).mono ?_
      rintro e w1 ⟨rfl, hw1⟩
      subst w1
      rw [EP.out.1, EP.out.2, errV_zero]
      go_wp2_with fail
      go_region_held3 (fun w' => w'.cell? ⟨t, 1, none⟩ = some (.pointer (some ⟨p, 0, none⟩)) ∧ w'.cell? ⟨t, 2 + n * 5 + 1, none⟩ = some (.int .i64 (nm : Int))) (first | exact K0.out | exact K4.out) ((first | (go_at_call 86; refine (pwrite_any p nm s S _ HF.out.2.2.1.drew (by have := HL.out; omega)).mono ?_; rintro e w4 ⟨rfl, u4, f4⟩; have f4' : Frm p w w4 := ⟨f4.os, f4.tape, f4.output, f4.size, f4.block⟩; have C4 := Hid.intro (HF.out.pi u4 f4'); have D4 : Hid (Tri t b p w w4) := Hid.intro (Tri.pi f4'); have K4 := Hid.intro (And.intro C4.out.1.pi ((World.cell?_of_block (f4'.block t HF.out.1.lt NP.out.2.1)).trans K0.out.2)); clear u4 f4 f4')))
      go_wp2_with fail
      go_ret2
      rw [FIN.out.1, FIN.out.2.1, FIN.out.2.2.1, FIN.out.2.2.2.1, FIN.out.2.2.2.2]
      exact ⟨rfl, C4.out, D4.out⟩
    · have k3' : (((T n).kind : Int) == 3) = false := by simp; omega
      have EP2 : Hid (Fx.wriP T S (n : Int) s = S) := Hid.intro (if_neg (fun d => by rw [Int.toNat_natCast] at d; exact k3 d.2))
      by_cases w0 : (T n).wr = false
      · have nb : ¬ Fx.wriB T (n : Int) := fun d => by unfold Fx.wriB at d; rw [Int.toNat_natCast, w0] at d; exact absurd d.2.2 (by decide)
        have FIN : Hid (Fx.wriE T F S (n : Int) s = 8 ∧ Fx.wriK T F S (n : Int) s = 0 ∧ Fx.wriT T F (n : Int) s = T ∧ Fx.wriF T F (n : Int) s = F) := Hid.intro ⟨by rw [DE, if_neg k3, if_pos w0], by rw [DK, if_neg k3, if_pos w0], if_neg (fun d => nb d.1), if_neg nb⟩
        rw [w0] at c2
        generalize (T n).kind = kd at *
        clear h c hp hs hps DE DK k3 nb w0 c1 c3 cp cb
        go_enter Tryz.func43, Tryz.ntmps43
        go_wp2_with fail
        refine (xfile_any t b p n T _ HF.out.1).mono ?_
        rintro e w1 ⟨rfl, hw1⟩
        subst w1
        rw [EP.out.1, EP.out.2, errV_zero]
        go_wp2_with fail
        go_ret2
        rw [FIN.out.1, FIN.out.2.1, FIN.out.2.2.1, FIN.out.2.2.2, EP2.out]
        exact ⟨rfl, HF.out, Tri.refl _ _ _ _⟩
      · have w1' : (T n).wr = true := by simpa using w0
        have yb : Fx.wriB T (n : Int) := by unfold Fx.wriB; rw [Int.toNat_natCast]; exact ⟨c, k3, w1'⟩
        have FIN : Hid (Fx.wriE T F S (n : Int) s = Tr.wriE F ((T n).num : Int) ((T n).pos : Int) s ∧ Fx.wriF T F (n : Int) s = Tr.wriF F ((T n).num : Int) ((T n).pos : Int) s) := Hid.intro ⟨by rw [DE, if_neg k3, if_neg w0], by unfold Fx.wriF; rw [if_pos yb, Int.toNat_natCast]⟩
        have DK2 : Fx.wriK T F S (n : Int) s = if Tr.wriE F ((T n).num : Int) ((T n).pos : Int) s = 0 then s.size else 0 := by rw [DK, if_neg k3, if_neg w0]
        have ET : Fx.wriT T F (n : Int) s = if Tr.wriE F ((T n).num : Int) ((T n).pos : Int) s = 0 then Fx.put T n { T n with pos := (T n).pos + s.size } else T := by
          unfold Fx.wriT
          rw [Int.toNat_natCast]
          by_cases d : Tr.wriE F ((T n).num : Int) ((T n).pos : Int) s = 0
          · rw [if_pos d, if_pos ⟨yb, d⟩]
          · rw [if_neg d, if_neg (fun e => d e.2)]
        have SP : Hid (∀ V G, FX V t b p T G S → FX (V.setCell ⟨t, 2 + n * 5 + 3, none⟩ (.int .i64 (((T n).pos + s.size : Nat) : Int))) t b p (Fx.put T n { T n with pos := (T n).pos + s.size }) G S) := Hid.intro (fun V G hV => hV.tb (hV.1.setPos n n24 _) ((Frm.refl t V).setCell _ _))
        generalize hTX : Fx.put T n { T n with pos := (T n).pos + s.size } = TX at ET SP
        clear hTX
        rw [w1'] at c2
        generalize (T n).kind = kd at *
        generalize (T n).num = nm at *
        generalize (T n).pos = ps at *
        have K0 := Hid.intro (And.intro cb (And.intro c1 c3))
        have NP := Hid.intro h.2.2.2
        have TW := Hid.intro (twrite_any b nm ps s F w.drew HF.out.2.1.drew (by omega))
        by_cases e0 : Tr.wriE F (nm : Int) (ps : Int) s = 0
        · rw [if_pos e0] at ET DK2
          have EE := Hid.intro (And.intro e0 (And.intro ET DK2))
          have ad : IntKind.i64.wrap ((ps : Int) + (s.size : Int)) = ((ps + s.size : Nat) : Int) := (IntWalk.i64_in _ ⟨by omega, by omega⟩).trans (by omega)
          clear h c hp hs hps DE DK DK2 k3 w0 w1' yb c1 c3 cp cb e0 ET
          go_enter Tryz.func43, Tryz.ntmps43
          go_wp2_with fail
          refine (xfile_any t b p n T _ HF.out.1).mono ?_
          rintro e w1 ⟨rfl, hw1⟩
          subst w1
          rw [EP.out.1, EP.out.2, errV_zero]
          go_wp2_with fail
          go_region_held3 (fun w' => w'.cell? ⟨t, 0, none⟩ = some (.pointer (some ⟨b, 0, none⟩)) ∧ w'.cell? ⟨t, 2 + n * 5 + 1, none⟩ = some (.int .i64 (nm : Int)) ∧ w'.cell? ⟨t, 2 + n * 5 + 3, none⟩ = some (.int .i64 (ps : Int))) (first | exact K0.out | exact K4.out) ((first | (go_at_call 87; refine TW.out.mono ?_; rintro e w4 ⟨rfl, u4, f4⟩; have f4' : Frm b w w4 := ⟨f4.os, f4.tape, f4.output, f4.size, f4.block⟩; have C4 := Hid.intro (HF.out.fo u4 f4'); have D4 : Hid (Tri t b p w w4) := Hid.intro (Tri.fo f4'); have K4 := Hid.intro (And.intro C4.out.1.fo (And.intro ((World.cell?_of_block (f4'.block t HF.out.1.lt NP.out.1)).trans K0.out.2.1) ((World.cell?_of_block (f4'.block t HF.out.1.lt NP.out.1)).trans K0.out.2.2))); clear u4 f4 f4'; rw [EE.out.1, errV_zero])))
          have x3 := K4.out.2.2
          have xf := C4.out.1.frozen
          have X5 := Hid.intro (SP.out _ _ C4.out)
          have D5 : Hid (Tri t b p w (w4.setCell ⟨t, 2 + n * 5 + 3, none⟩ (.int .i64 ((ps + s.size : Nat) : Int)))) := Hid.intro (D4.out.trans (Tri.tb ((Frm.refl t w4).setCell _ _)))
          clear cf
          go_wp2_with fail
          go_ret2
          rw [FIN.out.1, FIN.out.2, EP2.out, EE.out.1, EE.out.2.1, EE.out.2.2]
          exact ⟨rfl, X5.out, D5.out⟩
        · rw [if_neg e0] at ET DK2
          have EE := Hid.intro (And.intro (errV_ne e0) (And.intro ET DK2))
          clear h c hp hs hps DE DK DK2 k3 w0 w1' yb c1 c3 cp cb e0 ET SP
          go_enter Tryz.func43, Tryz.ntmps43
          go_wp2_with fail
          refine (xfile_any t b p n T _ HF.out.1).mono ?_
          rintro e w1 ⟨rfl, hw1⟩
          subst w1
          rw [EP.out.1, EP.out.2, errV_zero]
          go_wp2_with fail
          go_region_held3 (fun w' => w'.cell? ⟨t, 0, none⟩ = some (.pointer (some ⟨b, 0, none⟩)) ∧ w'.cell? ⟨t, 2 + n * 5 + 1, none⟩ = some (.int .i64 (nm : Int)) ∧ w'.cell? ⟨t, 2 + n * 5 + 3, none⟩ = some (.int .i64 (ps : Int))) (first | exact K0.out | exact K4.out) ((first | (go_at_call 87; refine TW.out.mono ?_; rintro e w4 ⟨rfl, u4, f4⟩; have f4' : Frm b w w4 := ⟨f4.os, f4.tape, f4.output, f4.size, f4.block⟩; have C4 := Hid.intro (HF.out.fo u4 f4'); have D4 : Hid (Tri t b p w w4) := Hid.intro (Tri.fo f4'); have K4 := Hid.intro (And.intro C4.out.1.fo (And.intro ((World.cell?_of_block (f4'.block t HF.out.1.lt NP.out.1)).trans K0.out.2.1) ((World.cell?_of_block (f4'.block t HF.out.1.lt NP.out.1)).trans K0.out.2.2))); clear u4 f4 f4'; rw [EE.out.1])))
          go_wp2_with fail
          go_ret2
          rw [FIN.out.1, FIN.out.2, EP2.out, EE.out.1, EE.out.2.1, EE.out.2.2]
          exact ⟨rfl, C4.out, D4.out⟩
  · have nb : ¬ Fx.wriB T z := fun d => c d.1
    have E2 : Hid (fptE t z (Fx.filE T z) = .pointer none ∧ errV (Fx.filE T z) = .iface 60 (.int .i64 (Fx.filE T z)) ∧ Fx.wriE T F S z s = Fx.filE T z ∧ Fx.wriK T F S z s = 0 ∧ Fx.wriT T F z s = T ∧ Fx.wriF T F z s = F ∧ Fx.wriP T S z s = S) := Hid.intro ⟨fptE_no c, errV_ne c, if_pos c, if_pos c, if_neg (fun e => nb e.1), if_neg nb, if_neg (fun e => c e.1)⟩
    clear h c hp hs nb
    go_enter Tryz.func43, Tryz.ntmps43
    go_wp2_with fail
    refine (xfile_any t b p z T _ HF.out.1).mono ?_
    rintro e w1 ⟨rfl, hw1⟩
    subst w1
    rw [E2.out.1, E2.out.2.1]
    go_wp2_with fail
    go_ret2
    rw [E2.out.2.2.1, E2.out.2.2.2.1, E2.out.2.2.2.2.1, E2.out.2.2.2.2.2.1, E2.out.2.2.2.2.2.2, E2.out.2.1]
    exact ⟨rfl, HF.out, Tri.refl _ _ _ _⟩
end Go.Proofs.YtghogbngmcolmaaGreat

import Derived.Deep.RegionHeld3
import Derived.Deep.CutRange
import Derived.Deep.CutBlock
import Derived.Deep.Onto
import Derived.Laws.OwnMore
import Derived.StillTailTactics
import Derived.Lib.SplitLaws
import Derived.Lib.IndexBytes
import Derived.Shelf.LaysM
import Derived.Shelf.Strings.Search3
import Derived.Shelf.Strings.Count
import Derived.Shelf.Strings.Prefix
import Derived.Shelf.Strings.Split
import Derived.Test.YtghogbngmcolmaaGreatQaq
import Derived.Test.YtghogbngmcolmaaGreatQap
namespace Go.Proofs.YtghogbngmcolmaaGreat
open Go.RowKit
open Fx (Fi)
open Tr (Fo Nd)
open Pp (Pi)
structure Tri (t b p : Nat) (w w' : World) : Prop where
  os : w'.os = w.os
  tape : w'.tape = w.tape
  output : w'.output = w.output
  size : w.heap.size ≤ w'.heap.size
  block : ∀ k, k < w.heap.size → k ≠ t → k ≠ b → k ≠ p → w'.heap[k]? = w.heap[k]?
section
variable {t b p : Nat} {u v w : World}
theorem Tri.refl (t b p : Nat) (w : World) : Tri t b p w w := ⟨rfl, rfl, rfl, Nat.le_refl _, fun _ _ _ _ _ => rfl⟩
theorem Tri.trans (h : Tri t b p u v) (k : Tri t b p v w) : Tri t b p u w := ⟨k.os.trans h.os, k.tape.trans h.tape, k.output.trans h.output, Nat.le_trans h.size k.size, fun j hj h1 h2 h3 => (k.block j (Nat.lt_of_lt_of_le hj h.size) h1 h2 h3).trans (h.block j hj h1 h2 h3)⟩
theorem Tri.tb (h : Frm t v w) : Tri t b p v w := ⟨h.os, h.tape, h.output, h.size, fun j hj h1 _ _ => h.block j hj h1⟩
theorem Tri.fo (h : Frm b v w) : Tri t b p v w := ⟨h.os, h.tape, h.output, h.size, fun j hj _ h2 _ => h.block j hj h2⟩
theorem Tri.pi (h : Frm p v w) : Tri t b p v w := ⟨h.os, h.tape, h.output, h.size, fun j hj _ _ h3 => h.block j hj h3⟩
theorem Tri.below (h : Below v.heap.size v w) : Tri t b p v w := ⟨h.os, h.tape, h.output, h.size, fun j hj _ _ _ => h.block j hj⟩
end
def FX (w : World) (t b p : Nat) (T : Nat → Fi) (F : Fo) (S : Nat → Pi) : Prop := XAt w t b p T ∧ FAt w b F ∧ PAt w p S ∧ t ≠ b ∧ t ≠ p ∧ b ≠ p
section
variable {w w' : World} {t b p : Nat} {T T' : Nat → Fi} {F F' : Fo} {S S' : Nat → Pi}
theorem FX.tb (h : FX w t b p T F S) (k : XAt w' t b p T') (f : Frm t w w') : FX w' t b p T' F S := ⟨k, h.2.1.same (f.block b h.2.1.lt (Ne.symm h.2.2.2.1)), h.2.2.1.frm f (Ne.symm h.2.2.2.2.1), h.2.2.2⟩
theorem FX.fo (h : FX w t b p T F S) (k : FAt w' b F') (f : Frm b w w') : FX w' t b p T F' S := ⟨h.1.frm f h.2.2.2.1, k, h.2.2.1.frm f (Ne.symm h.2.2.2.2.2), h.2.2.2⟩
theorem FX.pi (h : FX w t b p T F S) (k : PAt w' p S') (f : Frm p w w') : FX w' t b p T F S' := ⟨h.1.frm f h.2.2.2.2.1, h.2.1.same (f.block b h.2.1.lt h.2.2.2.2.2), k, h.2.2.2⟩
theorem FX.below (h : FX w t b p T F S) (f : Below w.heap.size w w') : FX w' t b p T F S := ⟨h.1.below f h.1.lt, h.2.1.below f, h.2.2.1.below f h.2.2.1.lt, h.2.2.2⟩
end
def Fx.nul : Nat → Fi := fun _ => Fi.no
def Fx.zT : Array Value := ((List.range 122).map fun o => if o < 2 then Value.pointer none else if o % 5 = 4 then Value.bool false else Value.int .i64 0).toArray
theorem Fx.zT_at (o : Nat) (h : o < 122) : Fx.zT[o]? = some (if o < 2 then Value.pointer none else if o % 5 = 4 then Value.bool false else Value.int .i64 0) := by simp [Fx.zT, h]
set_option maxRecDepth 100000 in
theorem Fx.zeroV (w : World) : (zeroValue 117).run Tryz.prog w = .ok (.agg Fx.zT) w := by kernel_rfl
def Fx.nwA (P0 P1 : Value) : Array Value := (Fx.zT.setIfInBounds 0 P0).setIfInBounds 1 P1
theorem XAt.new {w : World} {t b p : Nat} {Ty : TypeId} (h : w.heap[t]? = some (.cells (Fx.nwA (.pointer (some ⟨b, 0, none⟩)) (.pointer (some ⟨p, 0, none⟩))) Ty (0, 0))) : XAt w t b p Fx.nul := by
  have sz : Fx.zT.size = 122 := by simp [Fx.zT]
  refine ⟨⟨_, Ty, h, by simp [Fx.nwA, sz]⟩, ?_, ?_, fun n hn i hi => ?_⟩
  · rw [cell_blk h]; unfold Fx.nwA
    rw [Array.getElem?_setIfInBounds_ne (by omega), Array.getElem?_setIfInBounds_self_of_lt (by omega)]
  · rw [cell_blk h]; unfold Fx.nwA
    rw [Array.getElem?_setIfInBounds_self_of_lt (by simp [sz])]
  · rw [cell_blk h]; unfold Fx.nwA
    rw [Array.getElem?_setIfInBounds_ne (by omega), Array.getElem?_setIfInBounds_ne (by omega), Fx.zT_at _ (by omega), if_neg (by omega)]
    match i, hi with
    | 0, _ => rw [if_neg (by omega)]; rfl
    | 1, _ => rw [if_neg (by omega)]; rfl
    | 2, _ => rw [if_pos (by omega)]; rfl
    | 3, _ => rw [if_neg (by omega)]; rfl
    | 4, _ => rw [if_neg (by omega)]; rfl
section
variable {ops : Array Oper} {rest : List Oper} {x : Oper} {a : Act} {w : World} {Q : Exit → Act → World → Prop}
set_option maxRecDepth 100000 in
theorem Fx.wp_buildT (hgd : x.guard = none) (y0 y1 : Operand) (P0 P1 : Option Addr) (ho : x.op = .build 117 #[(0, y0), (1, y1)]) (h0 : a.eval y0 = .pointer P0) (h1 : a.eval y1 = .pointer P1) (h : wpList Tryz.prog ops Q rest (a.put x.dst (.agg (Fx.nwA (.pointer P0) (.pointer P1)))) w) : wpList Tryz.prog ops Q (x :: rest) a w :=
  wpList_plain hgd fun _ hK => by
    unfold Oper.wp execOp
    have hz := Fx.zeroV w
    simp only [ho, List.map_toArray, List.map_cons, List.map_nil, h0, h1]
    simp [go_sem, hz]
    exact hK _ _ h
end
set_option maxRecDepth 100000 in
set_option maxHeartbeats 400000 in
theorem xnew_any (b p : Nat) (w : World) : Calls Tryz.prog 57 #[.pointer (some ⟨b, 0, none⟩), .pointer (some ⟨p, 0, none⟩)] w fun e w' => e = .returned (.pointer (some ⟨w.heap.size, 0, none⟩)) ∧ XAt w' w.heap.size b p Fx.nul ∧ Below w.heap.size w w' := by
  have FIN : Hid (XAt (w.alloc (.cells (Fx.nwA (.pointer (some ⟨b, 0, none⟩)) (.pointer (some ⟨p, 0, none⟩))) 117)) w.heap.size b p Fx.nul ∧ Below w.heap.size w (w.alloc (.cells (Fx.nwA (.pointer (some ⟨b, 0, none⟩)) (.pointer (some ⟨p, 0, none⟩))) 117))) := Hid.intro ⟨XAt.new (heap_alloc_new w _), (Below.refl _ _).alloc (Nat.le_refl _) _⟩
  obtain ⟨A, hA⟩ : ∃ A, Fx.nwA (.pointer (some ⟨b, 0, none⟩)) (.pointer (some ⟨p, 0, none⟩)) = A := ⟨_, rfl⟩
  rw [hA] at FIN
  go_enter Tryz.func57, Tryz.ntmps57
  go_wp2_with (refine Fx.wp_buildT rfl _ _ _ _ rfl rfl rfl ?_; rw [hA])
  go_ret
  exact ⟨rfl, FIN.out⟩
end Go.Proofs.YtghogbngmcolmaaGreat
namespace Go.Proofs.YtghogbngmcolmaaGreat
open Go.RowKit
open Fx (Fi)
open Tr (Fo Nd)
open Pp (Pi)
def Fx.Sm (F : Fo) (S : Nat → Pi) : Prop := (∀ n, n < 40 → (F.nd n).held < 2 ^ 60) ∧ ∀ wr, ∀ n, n < 8 → Pp.tim (S n) wr < 2 ^ 60
def Fx.leF (F : Fo) (x : Fi) : Fo := if x.kind = 1 then Tr.letT F (x.num : Int) else F
def Fx.leS (S : Nat → Pi) (x : Fi) : Nat → Pi := if x.kind = 1 then S else Pp.droF S (x.num : Int) (decide (x.kind = 3))
set_option maxRecDepth 100000 in
set_option maxHeartbeats 1000000 in
theorem xlet_any (t b p : Nat) (x : Fi) (T : Nat → Fi) (F : Fo) (S : Nat → Pi) (w : World) (h : FX w t b p T F S) (hs : Fx.Sm F S) :
    Calls Tryz.prog 95 #[.pointer (some ⟨t, 0, none⟩), .agg #[.int .i64 (x.kind : Int), .int .i64 (x.num : Int), .bool x.wr, .int .i64 (x.pos : Int), .int .i64 (x.refs : Int)]] w fun e w' => e = .returned (.tuple #[]) ∧ FX w' t b p T (Fx.leF F x) (Fx.leS S x) ∧ Tri t b p w w' := by
  have HF := Hid.intro h
  have HS := Hid.intro hs
  have NE : Hid (w.heap.size ≠ t ∧ w.heap.size ≠ b ∧ w.heap.size ≠ p) := Hid.intro ⟨Nat.ne_of_gt h.1.lt, Nat.ne_of_gt h.2.1.lt, Nat.ne_of_gt h.2.2.1.lt⟩
  clear h hs
  obtain ⟨kd, nm, wb, ps, rf⟩ := x
  have B0 : Hid (FX (w.alloc (.cells #[.int .i64 (kd : Int), .int .i64 (nm : Int), .bool wb, .int .i64 (ps : Int), .int .i64 (rf : Int)] 114)) t b p T F S ∧ Tri t b p w (w.alloc (.cells #[.int .i64 (kd : Int), .int .i64 (nm : Int), .bool wb, .int .i64 (ps : Int), .int .i64 (rf : Int)] 114)) ∧ (w.alloc (.cells #[.int .i64 (kd : Int), .int .i64 (nm : Int), .bool wb, .int .i64 (ps : Int), .int .i64 (rf : Int)] 114)).heap[w.heap.size]? = some (.cells #[.int .i64 (kd : Int), .int .i64 (nm : Int), .bool wb, .int .i64 (ps : Int), .int .i64 (rf : Int)] 114 (0, 0))) := Hid.intro (by
    have bb := (Below.refl w.heap.size w).alloc (Nat.le_refl _) (.cells #[.int .i64 (kd : Int), .int .i64 (nm : Int), .bool wb, .int .i64 (ps : Int), .int .i64 (rf : Int)] 114)
    exact ⟨HF.out.below bb, Tri.below bb, heap_alloc_new w _⟩)
  by_cases k1 : kd = 1
  · subst k1
    have EL : Hid (Fx.leF F ⟨1, nm, wb, ps, rf⟩ = Tr.letT F (nm : Int) ∧ Fx.leS S ⟨1, nm, wb, ps, rf⟩ = S) := Hid.intro ⟨if_pos rfl, if_pos rfl⟩
    go_enter Tryz.func95, Tryz.ntmps95
    go_upto_region 1 with fail
    refine wp_gen (fun W' => FX W' t b p T F S ∧ Tri t b p w W' ∧ W'.heap[w.heap.size]? = some (.cells #[.int .i64 ((1 : Nat) : Int), .int .i64 (nm : Int), .bool wb, .int .i64 (ps : Int), .int .i64 (rf : Int)] 114 (0, 0))) B0.out ?_
    rintro W1 ⟨h1, f1, x1⟩
    have H1 := Hid.intro h1
    have F1 := Hid.intro f1
    have y0 := act_cells x1 0 (.int .i64 1) rfl
    have y1 := act_cells x1 1 (.int .i64 (nm : Int)) rfl
    have y2 := h1.1.fo
    have K0 := Hid.intro (And.intro y2 y1)
    have X1 := Hid.intro x1
    clear h1 f1 x1 HF B0 y1 y2
    generalize w.heap.size = bx at *
    go_wp2_with fail
    go_region_held3 (fun w' => w'.cell? ⟨t, 0, none⟩ = some (.pointer (some ⟨b, 0, none⟩)) ∧ w'.cell? ⟨bx, 1, none⟩ = some (.int .i64 (nm : Int))) (first | exact K0.out | exact K4.out) ((first | (go_at_call 132; refine (tlet_any b nm F _ H1.out.2.1.drew HS.out.1).mono ?_; rintro e w4 ⟨rfl, u4, f4⟩; have f4' : Frm b W1 w4 := ⟨f4.os, f4.tape, f4.output, f4.size, f4.block⟩; have C4 := Hid.intro (And.intro (H1.out.fo u4 f4') (F1.out.trans (Tri.fo f4'))); have K4 := Hid.intro (And.intro C4.out.1.1.fo (act_cells ((f4'.block bx (Array.getElem?_eq_some_iff.1 X1.out).1 NE.out.2.1).trans X1.out) 1 (.int .i64 (nm : Int)) rfl)); clear u4 f4 f4')))
    go_wp2_with fail
    (try simp only [Exit.inBlock, Exit.then])
    refine bodyPost_ret (results_none rfl _ _ _) rfl ?_
    rw [EL.out.1, EL.out.2]
    exact ⟨rfl, C4.out⟩
  · have EL : Hid (Fx.leF F ⟨kd, nm, wb, ps, rf⟩ = F ∧ Fx.leS S ⟨kd, nm, wb, ps, rf⟩ = Pp.droF S (nm : Int) (decide (kd = 3))) := Hid.intro ⟨if_neg k1, if_neg k1⟩
    have k1' : ((kd : Int) == 1) = false := by simp; omega
    have k3 : ((kd : Int) == 3) = decide (kd = 3) := by
      by_cases d : kd = 3
      · subst d; rfl
      · rw [decide_eq_false d]; simp; omega
    go_enter Tryz.func95, Tryz.ntmps95
    go_upto_region 1 with fail
    refine wp_gen (fun W' => FX W' t b p T F S ∧ Tri t b p w W' ∧ W'.heap[w.heap.size]? = some (.cells #[.int .i64 (kd : Int), .int .i64 (nm : Int), .bool wb, .int .i64 (ps : Int), .int .i64 (rf : Int)] 114 (0, 0))) B0.out ?_
    rintro W1 ⟨h1, f1, x1⟩
    have H1 := Hid.intro h1
    have F1 := Hid.intro f1
    have y0 := act_cells x1 0 (.int .i64 (kd : Int)) rfl
    have y1 := act_cells x1 1 (.int .i64 (nm : Int)) rfl
    have y2 := h1.1.pi
    have K0 := Hid.intro (And.intro y2 (And.intro y1 y0))
    have X1 := Hid.intro x1
    clear h1 f1 x1 HF B0 y1 y2 k1
    generalize w.heap.size = bx at *
    go_wp2_with fail
    go_region_held3 (fun w' => w'.cell? ⟨t, 1, none⟩ = some (.pointer (some ⟨p, 0, none⟩)) ∧ w'.cell? ⟨bx, 1, none⟩ = some (.int .i64 (nm : Int)) ∧ w'.cell? ⟨bx, 0, none⟩ = some (.int .i64 (kd : Int))) (first | exact K0.out | exact K4.out) ((first | (go_at_call 133; refine (pdrop_any p nm _ S _ H1.out.2.2.1.drew (HS.out.2 _)).mono ?_; rintro e w4 ⟨rfl, u4, f4⟩; have f4' : Frm p W1 w4 := ⟨f4.os, f4.tape, f4.output, f4.size, f4.block⟩; have C4 := Hid.intro (And.intro (H1.out.pi u4 f4') (F1.out.trans (Tri.pi f4'))); have K4 := Hid.intro (And.intro C4.out.1.1.pi (And.intro (act_cells ((f4'.block bx (Array.getElem?_eq_some_iff.1 X1.out).1 NE.out.2.2).trans X1.out) 1 (.int .i64 (nm : Int)) rfl) (act_cells ((f4'.block bx (Array.getElem?_eq_some_iff.1 X1.out).1 NE.out.2.2).trans X1.out) 0 (.int .i64 (kd : Int)) rfl))); clear u4 f4 f4')))
    go_wp2_with fail
    go_end0
    rw [EL.out.1, EL.out.2]
    exact ⟨rfl, C4.out⟩
def Fx.shaT (T : Nat → Fi) (z : Int) : Nat → Fi := if Fx.filE T z = 0 then Fx.put T z.toNat { T z.toNat with refs := (T z.toNat).refs + 1 } else T
set_option maxRecDepth 100000 in
set_option maxHeartbeats 1000000 in
theorem xshare_any (t b p : Nat) (z : Int) (T : Nat → Fi) (w : World) (h : XAt w t b p T) (hr : ∀ n, n < 24 → (T n).refs < 2 ^ 60) :
    Calls Tryz.prog 74 #[.pointer (some ⟨t, 0, none⟩), .int .i64 z] w fun e w' => e = .returned (errV (Fx.filE T z)) ∧ XAt w' t b p (Fx.shaT T z) ∧ Frm t w w' := by
  have HF := Hid.intro h
  by_cases c : Fx.filE T z = 0
  · obtain ⟨n, rfl, n24, _⟩ := Fx.filE_ok c
    have EP : Hid (Fx.filE T (n : Int) = 0 ∧ fptE t (n : Int) 0 = .pointer (some ⟨t, 2 + n * 5, none⟩)) := Hid.intro ⟨c, fptE_ok t n⟩
    have c0 := h.refs n n24
    have hl := hr n n24
    have FIN : Hid (XAt (w.setCell ⟨t, 2 + n * 5 + 4, none⟩ (.int .i64 (((T n).refs + 1 : Nat) : Int))) t b p (Fx.shaT T (n : Int))) := Hid.intro (by
      unfold Fx.shaT
      rw [if_pos c, Int.toNat_natCast]
      exact h.setRefs n n24 _)
    have cf := h.frozen
    generalize (T n).refs = k at *
    have hw : IntKind.i64.wrap ((k : Int) + 1) = (k : Int) + 1 := IntWalk.i64_in _ ⟨by omega, by omega⟩
    clear h c hr
    go_enter Tryz.func74, Tryz.ntmps74
    go_wp2_with fail
    refine (xfile_any t b p n T _ HF.out).mono ?_
    rintro e w1 ⟨rfl, hw1⟩
    subst w1
    rw [EP.out.1, EP.out.2, errV_zero]
    go_wp2_with fail
    go_ret
    rw [EP.out.1]
    exact ⟨rfl, FIN.out, (Frm.refl t w).setCell _ _⟩
  · have E2 : Hid (fptE t z (Fx.filE T z) = .pointer none ∧ errV (Fx.filE T z) = .iface 60 (.int .i64 (Fx.filE T z)) ∧ Fx.shaT T z = T) := Hid.intro ⟨fptE_no c, errV_ne c, if_neg c⟩
    clear h c hr
    go_enter Tryz.func74, Tryz.ntmps74
    go_wp2_with fail
    refine (xfile_any t b p z T _ HF.out).mono ?_
    rintro e w1 ⟨rfl, hw1⟩
    subst w1
    rw [E2.out.1, E2.out.2.1]
    go_wp2_with fail
    go_ret
    rw [E2.out.2.2, E2.out.2.1]
    exact ⟨rfl, HF.out, Frm.refl _ _⟩
def Fx.cloT (T : Nat → Fi) (z : Int) : Nat → Fi := if Fx.filE T z = 0 then Fx.put T z.toNat (if (T z.toNat).refs = 1 then Fi.no else { T z.toNat with refs := (T z.toNat).refs - 1 }) else T
def Fx.cloF (T : Nat → Fi) (F : Fo) (z : Int) : Fo := if Fx.filE T z = 0 ∧ (T z.toNat).refs = 1 then Fx.leF F (T z.toNat) else F
def Fx.cloS (T : Nat → Fi) (S : Nat → Pi) (z : Int) : Nat → Pi := if Fx.filE T z = 0 ∧ (T z.toNat).refs = 1 then Fx.leS S (T z.toNat) else S
set_option maxRecDepth 100000 in
set_option maxHeartbeats 1000000 in
theorem xclose_any (t b p : Nat) (z : Int) (T : Nat → Fi) (F : Fo) (S : Nat → Pi) (w : World) (h : FX w t b p T F S) (hs : Fx.Sm F S) (hr : ∀ n, n < 24 → (T n).refs < 2 ^ 60) :
    Calls Tryz.prog 50 #[.pointer (some ⟨t, 0, none⟩), .int .i64 z] w fun e w' => e = .returned (errV (Fx.filE T z)) ∧ FX w' t b p (Fx.cloT T z) (Fx.cloF T F z) (Fx.cloS T S z) ∧ Tri t b p w w' := by
  have HF := Hid.intro h
  have HS := Hid.intro hs
  by_cases c : Fx.filE T z = 0
  · obtain ⟨n, rfl, n24, r0⟩ := Fx.filE_ok c
    have EP : Hid (Fx.filE T (n : Int) = 0 ∧ fptE t (n : Int) 0 = .pointer (some ⟨t, 2 + n * 5, none⟩)) := Hid.intro ⟨c, fptE_ok t n⟩
    have c0 := h.1.refs n n24
    have hl := hr n n24
    have S1 : Hid (FX (w.setCell ⟨t, 2 + n * 5 + 4, none⟩ (.int .i64 (((T n).refs - 1 : Nat) : Int))) t b p (Fx.put T n { T n with refs := (T n).refs - 1 }) F S ∧ Frm t w (w.setCell ⟨t, 2 + n * 5 + 4, none⟩ (.int .i64 (((T n).refs - 1 : Nat) : Int)))) := Hid.intro ⟨h.tb (h.1.setRefs n n24 _) ((Frm.refl t w).setCell _ _), (Frm.refl t w).setCell _ _⟩
    have cf := h.1.frozen
    have ET : Hid (Fx.cloT T (n : Int) = Fx.put T n (if (T n).refs = 1 then Fi.no else { T n with refs := (T n).refs - 1 }) ∧ Fx.cloF T F (n : Int) = (if (T n).refs = 1 then Fx.leF F (T n) else F) ∧ Fx.cloS T S (n : Int) = (if (T n).refs = 1 then Fx.leS S (T n) else S)) := Hid.intro (by
      unfold Fx.cloT Fx.cloF Fx.cloS
      rw [Int.toNat_natCast, if_pos c]
      refine ⟨rfl, ?_, ?_⟩
      · by_cases d : (T n).refs = 1
        · rw [if_pos ⟨c, d⟩, if_pos d]
        · rw [if_neg (fun e => d e.2), if_neg d]
      · by_cases d : (T n).refs = 1
        · rw [if_pos ⟨c, d⟩, if_pos d]
        · rw [if_neg (fun e => d e.2), if_neg d])
    by_cases r1 : (T n).refs = 1
    · rw [r1] at c0 S1
      have c0' : w.cell? ⟨t, 2 + n * 5 + 4, none⟩ = some (.int .i64 1) := c0
      have S1' : Hid (FX (w.setCell ⟨t, 2 + n * 5 + 4, none⟩ (.int .i64 0)) t b p (Fx.put T n { T n with refs := 0 }) F S ∧ Frm t w (w.setCell ⟨t, 2 + n * 5 + 4, none⟩ (.int .i64 0))) := S1
      rw [if_pos r1, if_pos r1, if_pos r1] at ET
      clear h c hr hl c0 S1 r0
      go_enter Tryz.func50, Tryz.ntmps50
      go_wp2_with fail
      refine (xfile_any t b p n T _ HF.out.1).mono ?_
      rintro e w1 ⟨rfl, hw1⟩
      subst w1
      rw [EP.out.1, EP.out.2, errV_zero]
      have z0 := S1'.out.1.1.kind n n24
      have z1 := S1'.out.1.1.num n n24
      have z2 := S1'.out.1.1.wr n n24
      have z3 := S1'.out.1.1.pos n n24
      have z4 := S1'.out.1.1.refs n n24
      rw [Fx.put_same] at z0 z1 z2 z3 z4
      have XL : Hid (Fx.leF F (T n) = Fx.leF F { T n with refs := 0 } ∧ Fx.leS S (T n) = Fx.leS S { T n with refs := 0 }) := Hid.intro ⟨rfl, rfl⟩
      obtain ⟨x, hx⟩ : ∃ x, ({ T n with refs := 0 } : Fi) = x := ⟨_, rfl⟩
      rw [hx] at z0 z1 z2 z3 z4 S1' XL
      have hx4 : x.refs = 0 := by rw [← hx]
      clear hx r1
      obtain ⟨kd, nm, wb, ps, rf⟩ := x
      obtain rfl : rf = 0 := hx4
      have z0' : (w.setCell ⟨t, 2 + n * 5 + 4, none⟩ (.int .i64 0)).cell? ⟨t, 2 + n * 5, none⟩ = some (.int .i64 (kd : Int)) := z0
      have z1' : (w.setCell ⟨t, 2 + n * 5 + 4, none⟩ (.int .i64 0)).cell? ⟨t, 2 + n * 5 + 1, none⟩ = some (.int .i64 (nm : Int)) := z1
      have z2' : (w.setCell ⟨t, 2 + n * 5 + 4, none⟩ (.int .i64 0)).cell? ⟨t, 2 + n * 5 + 2, none⟩ = some (.bool wb) := z2
      have z3' : (w.setCell ⟨t, 2 + n * 5 + 4, none⟩ (.int .i64 0)).cell? ⟨t, 2 + n * 5 + 3, none⟩ = some (.int .i64 (ps : Int)) := z3
      have z4' : (w.setCell ⟨t, 2 + n * 5 + 4, none⟩ (.int .i64 0)).cell? ⟨t, 2 + n * 5 + 4, none⟩ = some (.int .i64 0) := z4
      clear z0 z1 z2 z3 z4
      go_upto_region 5 with fail
      generalize w.setCell ⟨t, 2 + n * 5 + 4, none⟩ (.int .i64 0) = W1 at *
      clear c0' cf
      go_wp2_with fail
      refine (xlet_any t b p ⟨kd, nm, wb, ps, 0⟩ _ F S _ S1'.out.1 HS.out).mono ?_
      rintro e W2 ⟨rfl, h2, f2⟩
      have H2 := Hid.intro h2
      have F2 := Hid.intro ((Tri.tb S1'.out.2).trans f2)
      have FIN : Hid (FX (W2.setCells t (2 + n * 5) (Fx.arr Fi.no).toList) t b p (Fx.cloT T (n : Int)) (Fx.cloF T F (n : Int)) (Fx.cloS T S (n : Int)) ∧ Tri t b p w (W2.setCells t (2 + n * 5) (Fx.arr Fi.no).toList)) := Hid.intro (by
        have q := h2.1.setAll n n24 Fi.no
        rw [Fx.put_put] at q
        rw [ET.out.1, ET.out.2.1, ET.out.2.2, XL.out.1, XL.out.2]
        have fr := Pp.frm_setCells (Fx.arr Fi.no).toList (2 + n * 5) (Frm.refl t W2)
        exact ⟨h2.tb q fr, F2.out.trans (Tri.tb fr)⟩)
      have y0 := h2.1.kind n n24
      have y1 := h2.1.num n n24
      have y2 := h2.1.wr n n24
      have y3 := h2.1.pos n n24
      have y4 := h2.1.refs n n24
      have yf := h2.1.frozen
      rw [Fx.put_same] at y0 y1 y2 y3 y4
      clear h2 f2 z0' z1' z2' z3' z4'
      go_wp2_with fail
      go_ret
      rw [EP.out.1]
      exact ⟨rfl, FIN.out⟩
    · rw [if_neg r1, if_neg r1, if_neg r1] at ET
      generalize (T n).refs = k at *
      obtain ⟨q, rfl⟩ : ∃ q, k = q + 1 := ⟨k - 1, by omega⟩
      have q0 : ((q : Int) == 0) = false := by simp; omega
      rw [Nat.add_sub_cancel] at S1 ET
      have hw : IntKind.i64.wrap (((q + 1 : Nat) : Int) - 1) = (q : Int) := (IntWalk.i64_in _ ⟨by omega, by omega⟩).trans (by omega)
      obtain ⟨k1, hk1⟩ : ∃ k1 : Int, ((q + 1 : Nat) : Int) = k1 := ⟨_, rfl⟩
      rw [hk1] at c0 hw
      clear h c hr hl r0 hk1 r1
      go_enter Tryz.func50, Tryz.ntmps50
      go_wp2_with fail
      refine (xfile_any t b p n T _ HF.out.1).mono ?_
      rintro e w1 ⟨rfl, hw1⟩
      subst w1
      rw [EP.out.1, EP.out.2, errV_zero]
      go_wp2_with fail
      go_ret
      rw [EP.out.1, ET.out.1, ET.out.2.1, ET.out.2.2]
      exact ⟨rfl, S1.out.1, Tri.tb S1.out.2⟩
  · have E2 : Hid (fptE t z (Fx.filE T z) = .pointer none ∧ errV (Fx.filE T z) = .iface 60 (.int .i64 (Fx.filE T z)) ∧ Fx.cloT T z = T ∧ Fx.cloF T F z = F ∧ Fx.cloS T S z = S) := Hid.intro ⟨fptE_no c, errV_ne c, if_neg c, if_neg (fun e => c e.1), if_neg (fun e => c e.1)⟩
    clear h c hr
    go_enter Tryz.func50, Tryz.ntmps50
    go_wp2_with fail
    refine (xfile_any t b p z T _ HF.out.1).mono ?_
    rintro e w1 ⟨rfl, hw1⟩
    subst w1
    rw [E2.out.1, E2.out.2.1]
    go_wp2_with fail
    go_ret
    rw [E2.out.2.2.1, E2.out.2.2.2.1, E2.out.2.2.2.2, E2.out.2.1]
    exact ⟨rfl, HF.out, Tri.refl _ _ _ _⟩
end Go.Proofs.YtghogbngmcolmaaGreat
namespace Go.Proofs.YtghogbngmcolmaaGreat
open Go.RowKit
open Tr (Fo Nd)
namespace Mo
abbrev Wh := Int × Int
abbrev Mt := Wh × Wh
structure Tb where
  rt : Wh
  ms : List Mt
def mtC (m : Mt) : List Value := [.int .i64 m.1.1, .int .i64 m.1.2, .int .i64 m.2.1, .int .i64 m.2.2]
def mcs (L : List Mt) : List Value := L.flatMap mtC
theorem mcs_len : ∀ L : List Mt, (mcs L).length = L.length * 4
  | [] => rfl
  | x :: L => by
    show (mtC x ++ mcs L).length = _
    rw [List.length_append, mcs_len L, List.length_cons]
    show 4 + _ = _
    omega
theorem mcs_at : ∀ (L : List Mt) (i j : Nat) (x : Mt), L[i]? = some x → j < 4 → (mcs L)[i * 4 + j]? = (mtC x)[j]?
  | [], _, _, _, h, _ => by simp at h
  | y :: L, 0, j, x, h, hj => by
    simp only [List.getElem?_cons_zero, Option.some.injEq] at h
    subst h
    show (mtC y ++ mcs L)[0 * 4 + j]? = _
    rw [Nat.zero_mul, Nat.zero_add, List.getElem?_append_left (by show j < 4; exact hj)]
  | y :: L, i + 1, j, x, h, hj => by
    rw [List.getElem?_cons_succ] at h
    show (mtC y ++ mcs L)[(i + 1) * 4 + j]? = _
    rw [List.getElem?_append_right (by show 4 ≤ _; omega)]
    show (mcs L)[(i + 1) * 4 + j - 4]? = _
    rw [show (i + 1) * 4 + j - 4 = i * 4 + j by omega]
    exact mcs_at L i j x h hj
def MtdTo (L : List Mt) (x : Wh) (z : Int) : Prop := (∃ i : Nat, z = i ∧ ∃ m, L[i]? = some m ∧ m.1 = x ∧ ∀ (j : Nat) (m' : Mt), j < i → L[j]? = some m' → m'.1 ≠ x) ∨ (z = -1 ∧ ∀ (j : Nat) (m' : Mt), L[j]? = some m' → m'.1 ≠ x)
def lk (L : List Mt) (x : Wh) : Option Mt := L.find? fun m => decide (m.1 = x)
theorem MtdTo.find {L : List Mt} {x : Wh} {z : Int} (h : MtdTo L x z) : (∃ i : Nat, z = i ∧ i < L.length ∧ ∃ m, L[i]? = some m ∧ lk L x = some m) ∨ (z = -1 ∧ lk L x = none) := by
  rcases h with ⟨i, rfl, m, h1, h2, h3⟩ | ⟨rfl, h1⟩
  · have hi := (List.getElem?_eq_some_iff.1 h1).1
    refine .inl ⟨i, rfl, hi, m, h1, ?_⟩
    unfold lk
    rw [List.find?_eq_some_iff_getElem]
    refine ⟨by simp [h2], i, hi, (List.getElem?_eq_some_iff.1 h1).2, fun j hj => ?_⟩
    have := h3 j L[j] hj (List.getElem?_eq_getElem (by omega))
    simp [this]
  · refine .inr ⟨rfl, ?_⟩
    unfold lk
    rw [List.find?_eq_none]
    intro m hm
    obtain ⟨j, hj, e⟩ := List.getElem_of_mem hm
    have := h1 j m (by rw [List.getElem?_eq_getElem hj, e])
    simp [this]
end Mo
open Mo (Wh Mt Tb)
structure Onl (S : Nat → Prop) (w w' : World) : Prop where
  os : w'.os = w.os
  tape : w'.tape = w.tape
  output : w'.output = w.output
  size : w.heap.size ≤ w'.heap.size
  block : ∀ k, k < w.heap.size → ¬ S k → w'.heap[k]? = w.heap[k]?
section
variable {S : Nat → Prop} {u v w : World}
theorem Onl.refl (S : Nat → Prop) (w : World) : Onl S w w := ⟨rfl, rfl, rfl, Nat.le_refl _, fun _ _ _ => rfl⟩
theorem Onl.trans (h : Onl S u v) (k : Onl S v w) : Onl S u w :=
  ⟨k.os.trans h.os, k.tape.trans h.tape, k.output.trans h.output, Nat.le_trans h.size k.size, fun j hj hn => (k.block j (Nat.lt_of_lt_of_le hj h.size) hn).trans (h.block j hj hn)⟩
theorem Onl.mono {R : Nat → Prop} (h : Onl S u v) (k : ∀ n, n < u.heap.size → S n → R n) : Onl R u v := ⟨h.os, h.tape, h.output, h.size, fun j hj hn => h.block j hj (fun c => hn (k j hj c))⟩
theorem Onl.of_below (h : Below u.heap.size u v) : Onl S u v := ⟨h.os, h.tape, h.output, h.size, fun j hj _ => h.block j hj⟩
theorem Onl.of_frm {b : Nat} (h : Frm b u v) (hb : S b) : Onl S u v := ⟨h.os, h.tape, h.output, h.size, fun j hj hn => h.block j hj (fun e => hn (e ▸ hb))⟩
theorem Onl.behind {B : Nat} {t : World} (h : Onl S u v) (k : Below B t u) (hS : ∀ n, S n → B ≤ n) (hs : B ≤ u.heap.size) : Below B t v :=
  k.trans ⟨h.os, h.tape, h.output, h.size, fun j hj => h.block j (by omega) (fun c => by have := hS j c; omega)⟩
theorem Onl.drew (h : Onl S u v) : Onl S u v.drew := ⟨h.os, h.tape, h.output, h.size, h.block⟩
theorem Onl.setCell (h : Onl S u w) {b : Nat} (hb : S b) (o : Nat) (x : Value) : Onl S u (w.setCell ⟨b, o, none⟩ x) :=
  ⟨h.os, h.tape, h.output, by simpa [World.setCell] using h.size, fun k hk hn => (setBlk _ _ _ _ (fun e => hn (by rw [e]; exact hb))).trans (h.block k hk hn)⟩
end
def MRow (w : World) (base : Nat) (L : List Mt) (v : Value) : Prop := w.ownsRow base 211 4 v L.length (Mo.mcs L)
structure TAt (w : World) (base b f : Nat) (T : Tb) (v : Value) : Prop where
  blk : w.heap[b]? = some (.cells #[.pointer (some ⟨f, 0, none⟩), .int .i64 T.rt.1, .int .i64 T.rt.2, v] 201 (0, 0))
  row : MRow w base T.ms v
  six : T.ms.length ≤ 6
section
variable {w w' : World} {base b f : Nat} {T : Tb} {v : Value} {L : List Mt}
theorem MRow.form (h : MRow w base L v) : (v = .slice none 0 0 ∧ L = []) ∨ ∃ g cap, v = .slice (some ⟨g, 0, none⟩) L.length cap ∧ base ≤ g ∧ g < w.heap.size ∧ L.length ≤ cap := by
  rcases h.2 with ⟨rfl, e⟩ | ⟨g, cap, cur, e, hb, hg, h1, h2, h3, h4⟩
  · exact .inl ⟨rfl, List.eq_nil_of_length_eq_zero e⟩
  · exact .inr ⟨g, cap, e, hb, (Array.getElem?_eq_some_iff.1 hg).1, h1⟩
theorem MRow.sl (h : MRow w base L v) : ∃ a c, v = .slice a L.length c := by
  rcases h.form with ⟨rfl, rfl⟩ | ⟨g, cap, rfl, _⟩
  · exact ⟨_, _, rfl⟩
  · exact ⟨_, _, rfl⟩
theorem MRow.cell {g n cap : Nat} (h : MRow w base L (.slice (some ⟨g, 0, none⟩) n cap)) (i j : Nat) (m : Mt) (hi : L[i]? = some m) (hj : j < 4) : w.cell? ⟨g, i * 4 + j, none⟩ = (Mo.mtC m)[j]? := by
  have hl := (List.getElem?_eq_some_iff.1 hi).1
  rcases h.2 with ⟨e, _⟩ | ⟨g', cap', cur, e, hb, hg, h1, h2, h3, h4⟩
  · cases e
  · cases e
    rw [cell_blk hg, ← Mo.mcs_at L i j m hi hj, ← h4]
    have hs : i * 4 + j < cur.size := by rw [h3]; omega
    rw [List.getElem?_take_of_lt (by omega), Array.getElem?_toList]
theorem MRow.same (h : MRow w base L v) (k : ∀ g, v.ownBlock = some g → w'.heap[g]? = w.heap[g]?) : MRow w' base L v := by
  refine ⟨h.1, ?_⟩
  rcases h.2 with hn | ⟨g, cap, cur, e, hb, hg, h1, h2, h3, h4⟩
  · exact .inl hn
  · exact .inr ⟨g, cap, cur, e, hb, by rw [k g (by rw [e]; rfl)]; exact hg, h1, h2, h3, h4⟩
theorem MRow.lt (h : MRow w base L v) (g : Nat) (e : v.ownBlock = some g) : base ≤ g ∧ g < w.heap.size := by
  rcases h.2 with ⟨hn, _⟩ | ⟨g', cap, cur, hv, hb, hg, _⟩
  · rw [hn] at e; cases e
  · rw [hv] at e
    cases e
    exact ⟨hb, (Array.getElem?_eq_some_iff.1 hg).1⟩
theorem MRow.below (h : MRow w base L v) (k : Below w.heap.size w w') : MRow w' base L v := h.same (fun g e => k.block g (h.lt g e).2)
theorem TAt.lt (h : TAt w base b f T v) : b < w.heap.size := (Array.getElem?_eq_some_iff.1 h.blk).1
theorem TAt.frozen (h : TAt w base b f T v) (o : Nat) : w.frozen? ⟨b, o, none⟩ = false := frozen_blk h.blk o
theorem TAt.c0 (h : TAt w base b f T v) : w.cell? ⟨b, 0, none⟩ = some (.pointer (some ⟨f, 0, none⟩)) := by rw [cell_blk h.blk]; rfl
theorem TAt.c1 (h : TAt w base b f T v) : w.cell? ⟨b, 1, none⟩ = some (.int .i64 T.rt.1) := by rw [cell_blk h.blk]; rfl
theorem TAt.c2 (h : TAt w base b f T v) : w.cell? ⟨b, 2, none⟩ = some (.int .i64 T.rt.2) := by rw [cell_blk h.blk]; rfl
theorem TAt.c3 (h : TAt w base b f T v) : w.cell? ⟨b, 3, none⟩ = some v := by rw [cell_blk h.blk]; rfl
theorem TAt.same (h : TAt w base b f T v) (e : w'.heap[b]? = w.heap[b]?) (k : ∀ g, v.ownBlock = some g → w'.heap[g]? = w.heap[g]?) : TAt w' base b f T v := ⟨e.trans h.blk, h.row.same k, h.six⟩
theorem TAt.below (h : TAt w base b f T v) (k : Below w.heap.size w w') : TAt w' base b f T v := h.same (k.block b h.lt) (fun g e => k.block g (h.row.lt g e).2)
theorem TAt.drew (h : TAt w base b f T v) : TAt w.drew base b f T v := h.same rfl (fun _ _ => rfl)
theorem blk_ne {w : World} {a b : Nat} {C D : Array Value} {T U : TypeId} (h : w.heap[a]? = some (.cells C T (0, 0))) (k : w.heap[b]? = some (.cells D U (0, 0))) (n : T ≠ U) : a ≠ b := by
  intro e
  subst e
  rw [h] at k
  cases k
  exact n rfl
theorem MRow.ne_of {g' : Nat} {C : Array Value} {U : TypeId} (h : MRow w base L v) (k : w.heap[g']? = some (.cells C U (0, 0))) (n : 211 ≠ U) : ∀ g, v.ownBlock = some g → g ≠ g' := fun g e => by
  rcases h.2 with ⟨hn, _⟩ | ⟨g'', cap, cur, hv, hb, hg, _⟩
  · rw [hn] at e; cases e
  · rw [hv] at e
    cases e
    exact blk_ne hg k n
end
end Go.Proofs.YtghogbngmcolmaaGreat
namespace Go.Proofs.YtghogbngmcolmaaGreat
open Go.RowKit
open Tr (Fo Nd)
open Mo (Wh Mt Tb)
def WB (w : World) (c : Nat) (x : Wh) : Prop := w.heap[c]? = some (.cells #[.int .i64 x.1, .int .i64 x.2] 196 (0, 0))
section
variable {w w' : World} {c : Nat} {x : Wh}
theorem WB.c0 (h : WB w c x) : w.cell? ⟨c, 0, none⟩ = some (.int .i64 x.1) := by rw [cell_blk h]; rfl
theorem WB.c1 (h : WB w c x) : w.cell? ⟨c, 1, none⟩ = some (.int .i64 x.2) := by rw [cell_blk h]; rfl
theorem WB.fz (h : WB w c x) (o : Nat) : w.frozen? ⟨c, o, none⟩ = false := frozen_blk h o
theorem WB.set (h : WB w c x) (y : Wh) : WB ((w.setCell ⟨c, 0, none⟩ (.int .i64 y.1)).setCell ⟨c, 1, none⟩ (.int .i64 y.2)) c y ∧ Frm c w ((w.setCell ⟨c, 0, none⟩ (.int .i64 y.1)).setCell ⟨c, 1, none⟩ (.int .i64 y.2)) :=
  ⟨blk_set (blk_set h 0 _) 1 _, ((Frm.refl c w).setCell _ _).setCell _ _⟩
end
end Go.Proofs.YtghogbngmcolmaaGreat
namespace Go.Proofs.YtghogbngmcolmaaGreat
open Go.RowKit
open Tr (Fo Nd)
open Mo (Wh Mt Tb)
theorem infoMt : ∃ i z, Tryz.prog.info? 211 = some i ∧ i.zero = some z ∧ i.size = 4 ∧ i.bytes = 32 ∧ z.cells.size = 4 := by
  have h : (Tryz.prog.info? 211).map (fun i => (i.size, i.bytes, i.zero.map (fun z => z.cells.size))) = some (4, 32, some 4) := by kernel_rfl
  cases hi : Tryz.prog.info? 211 with
  | none => rw [hi] at h; cases h
  | some i =>
    rw [hi] at h
    simp only [Option.map_some, Option.some.injEq, Prod.mk.injEq] at h
    obtain ⟨h1, h2, h3⟩ := h
    cases hz : i.zero with
    | none => rw [hz] at h3; cases h3
    | some z =>
      rw [hz] at h3
      simp only [Option.map_some, Option.some.injEq] at h3
      exact ⟨i, z, rfl, hz, h1, h2, h3⟩
end Go.Proofs.YtghogbngmcolmaaGreat
namespace Go.Proofs.YtghogbngmcolmaaGreat
open Go.RowKit
open Tr (Fo Nd)
open Mo (Wh Mt Tb)
theorem box1 (w : World) : WB (w.alloc (.cells #[.int .i64 0, .int .i64 0] 196)) w.heap.size (0, 0) ∧ Below w.heap.size w (w.alloc (.cells #[.int .i64 0, .int .i64 0] 196)) := ⟨heap_alloc_new w _, (Below.refl _ _).alloc (Nat.le_refl _) _⟩
theorem WB.fin {w W : World} {rx : Nat} {x : Wh} (h : WB W rx x) (b : Below rx w W) (e : w.heap.size = rx) (y : Wh) : WB ((W.setCell ⟨rx, 0, none⟩ (.int .i64 y.1)).setCell ⟨rx, 1, none⟩ (.int .i64 y.2)) rx y ∧ Below rx w ((W.setCell ⟨rx, 0, none⟩ (.int .i64 y.1)).setCell ⟨rx, 1, none⟩ (.int .i64 y.2)) := by
  have := h.set y
  exact ⟨this.1, this.2.below b (Nat.le_refl _) (by have := b.size; omega)⟩
end Go.Proofs.YtghogbngmcolmaaGreat

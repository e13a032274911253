/- The code's open files: let, Node, Share, Close. -/
import Derived.Test.YtmneolabgajhmaaGreatXb
import Derived.Deep.RegionHeld3
namespace Go.Proofs.YtmneolabgajhmaaGreat
open Go.RowKit
open Fx (Fi)
open Tr (Fo Nd)
open Pp (Pi)

/-- Counts are small. -/
def Fx.Sm (F : Fo) (S : Nat → Pi) : Prop := (∀ n, n < 40 → (F.nd n).held < 2 ^ 60) ∧ ∀ wr, ∀ n, n < 8 → Pp.tim (S n) wr < 2 ^ 60
/-- What an open file was of is let go. -/
def Fx.leF (F : Fo) (x : Fi) : Fo := if x.kind = 1 then Tr.letT F (x.num : Int) else F
def Fx.leS (S : Nat → Pi) (x : Fi) : Nat → Pi := if x.kind = 1 then S else Pp.droF S (x.num : Int) (decide (x.kind = 3))
set_option maxRecDepth 100000 in
set_option maxHeartbeats 1000000 in
theorem xlet_any (t b p : Nat) (x : Fi) (T : Nat → Fi) (F : Fo) (S : Nat → Pi) (w : World) (h : FX w t b p T F S) (hs : Fx.Sm F S) :
    Calls Tryz.prog 91 #[.pointer (some ⟨t, 0, none⟩), .agg #[.int .i64 (x.kind : Int), .int .i64 (x.num : Int), .bool x.wr, .int .i64 (x.pos : Int), .int .i64 (x.refs : Int)]] w fun e w' => e = .returned (.tuple #[]) ∧ FX w' t b p T (Fx.leF F x) (Fx.leS S x) ∧ Tri t b p w w' := by
  have HF := Hid.intro h
  have HS := Hid.intro hs
  have NE : Hid (w.heap.size ≠ t ∧ w.heap.size ≠ b ∧ w.heap.size ≠ p) := Hid.intro ⟨Nat.ne_of_gt h.1.lt, Nat.ne_of_gt h.2.1.lt, Nat.ne_of_gt h.2.2.1.lt⟩
  clear h hs
  obtain ⟨kd, nm, wb, ps, rf⟩ := x
  have B0 : Hid (FX (w.alloc (.cells #[.int .i64 (kd : Int), .int .i64 (nm : Int), .bool wb, .int .i64 (ps : Int), .int .i64 (rf : Int)] 93)) t b p T F S ∧ Tri t b p w (w.alloc (.cells #[.int .i64 (kd : Int), .int .i64 (nm : Int), .bool wb, .int .i64 (ps : Int), .int .i64 (rf : Int)] 93)) ∧ (w.alloc (.cells #[.int .i64 (kd : Int), .int .i64 (nm : Int), .bool wb, .int .i64 (ps : Int), .int .i64 (rf : Int)] 93)).heap[w.heap.size]? = some (.cells #[.int .i64 (kd : Int), .int .i64 (nm : Int), .bool wb, .int .i64 (ps : Int), .int .i64 (rf : Int)] 93 (0, 0))) := Hid.intro (by
    have bb := (Below.refl w.heap.size w).alloc (Nat.le_refl _) (.cells #[.int .i64 (kd : Int), .int .i64 (nm : Int), .bool wb, .int .i64 (ps : Int), .int .i64 (rf : Int)] 93)
    exact ⟨HF.out.below bb, Tri.below bb, heap_alloc_new w _⟩)
  by_cases k1 : kd = 1
  · subst k1
    have EL : Hid (Fx.leF F ⟨1, nm, wb, ps, rf⟩ = Tr.letT F (nm : Int) ∧ Fx.leS S ⟨1, nm, wb, ps, rf⟩ = S) := Hid.intro ⟨if_pos rfl, if_pos rfl⟩
    go_enter Tryz.func91, Tryz.ntmps91
    go_upto_region 1 with fail
    refine wp_gen (fun W' => FX W' t b p T F S ∧ Tri t b p w W' ∧ W'.heap[w.heap.size]? = some (.cells #[.int .i64 ((1 : Nat) : Int), .int .i64 (nm : Int), .bool wb, .int .i64 (ps : Int), .int .i64 (rf : Int)] 93 (0, 0))) B0.out ?_
    rintro W1 ⟨h1, f1, x1⟩
    have H1 := Hid.intro h1
    have F1 := Hid.intro f1
    have y0 := act_cells x1 0 (.int .i64 1) rfl
    have y1 := act_cells x1 1 (.int .i64 (nm : Int)) rfl
    have y2 := h1.1.fo
    have K0 := Hid.intro (And.intro y2 y1)
    have X1 := Hid.intro x1
    clear h1 f1 x1 HF B0 y1 y2
    generalize w.heap.size = bx at *
    go_wp2_with fail
    go_region_held3 (fun w' => w'.cell? ⟨t, 0, none⟩ = some (.pointer (some ⟨b, 0, none⟩)) ∧ w'.cell? ⟨bx, 1, none⟩ = some (.int .i64 (nm : Int))) (first | exact K0.out | exact K4.out) ((first | (go_at_call 36; refine (tlet_any b nm F _ H1.out.2.1.drew HS.out.1).mono ?_; rintro e w4 ⟨rfl, u4, f4⟩; have f4' : Frm b W1 w4 := ⟨f4.os, f4.tape, f4.output, f4.size, f4.block⟩; have C4 := Hid.intro (And.intro (H1.out.fo u4 f4') (F1.out.trans (Tri.fo f4'))); have K4 := Hid.intro (And.intro C4.out.1.1.fo (act_cells ((f4'.block bx (Array.getElem?_eq_some_iff.1 X1.out).1 NE.out.2.1).trans X1.out) 1 (.int .i64 (nm : Int)) rfl)); clear u4 f4 f4')))
    go_wp2_with fail
    (try simp only [Exit.inBlock, Exit.then])
    refine bodyPost_ret (results_none rfl _ _ _) rfl ?_
    rw [EL.out.1, EL.out.2]
    exact ⟨rfl, C4.out⟩
  · have EL : Hid (Fx.leF F ⟨kd, nm, wb, ps, rf⟩ = F ∧ Fx.leS S ⟨kd, nm, wb, ps, rf⟩ = Pp.droF S (nm : Int) (decide (kd = 3))) := Hid.intro ⟨if_neg k1, if_neg k1⟩
    have k1' : ((kd : Int) == 1) = false := by simp; omega
    have k3 : ((kd : Int) == 3) = decide (kd = 3) := by
      by_cases d : kd = 3
      · subst d; rfl
      · rw [decide_eq_false d]; simp; omega
    go_enter Tryz.func91, Tryz.ntmps91
    go_upto_region 1 with fail
    refine wp_gen (fun W' => FX W' t b p T F S ∧ Tri t b p w W' ∧ W'.heap[w.heap.size]? = some (.cells #[.int .i64 (kd : Int), .int .i64 (nm : Int), .bool wb, .int .i64 (ps : Int), .int .i64 (rf : Int)] 93 (0, 0))) B0.out ?_
    rintro W1 ⟨h1, f1, x1⟩
    have H1 := Hid.intro h1
    have F1 := Hid.intro f1
    have y0 := act_cells x1 0 (.int .i64 (kd : Int)) rfl
    have y1 := act_cells x1 1 (.int .i64 (nm : Int)) rfl
    have y2 := h1.1.pi
    have K0 := Hid.intro (And.intro y2 (And.intro y1 y0))
    have X1 := Hid.intro x1
    clear h1 f1 x1 HF B0 y1 y2 k1
    generalize w.heap.size = bx at *
    go_wp2_with fail
    go_region_held3 (fun w' => w'.cell? ⟨t, 1, none⟩ = some (.pointer (some ⟨p, 0, none⟩)) ∧ w'.cell? ⟨bx, 1, none⟩ = some (.int .i64 (nm : Int)) ∧ w'.cell? ⟨bx, 0, none⟩ = some (.int .i64 (kd : Int))) (first | exact K0.out | exact K4.out) ((first | (go_at_call 105; refine (pdrop_any p nm _ S _ H1.out.2.2.1.drew (HS.out.2 _)).mono ?_; rintro e w4 ⟨rfl, u4, f4⟩; have f4' : Frm p W1 w4 := ⟨f4.os, f4.tape, f4.output, f4.size, f4.block⟩; have C4 := Hid.intro (And.intro (H1.out.pi u4 f4') (F1.out.trans (Tri.pi f4'))); have K4 := Hid.intro (And.intro C4.out.1.1.pi (And.intro (act_cells ((f4'.block bx (Array.getElem?_eq_some_iff.1 X1.out).1 NE.out.2.2).trans X1.out) 1 (.int .i64 (nm : Int)) rfl) (act_cells ((f4'.block bx (Array.getElem?_eq_some_iff.1 X1.out).1 NE.out.2.2).trans X1.out) 0 (.int .i64 (kd : Int)) rfl))); clear u4 f4 f4')))
    go_wp2_with fail
    go_end0
    rw [EL.out.1, EL.out.2]
    exact ⟨rfl, C4.out⟩
/-- One more has it. -/
def Fx.shaT (T : Nat → Fi) (z : Int) : Nat → Fi := if Fx.filE T z = 0 then Fx.put T z.toNat { T z.toNat with refs := (T z.toNat).refs + 1 } else T
set_option maxRecDepth 100000 in
set_option maxHeartbeats 1000000 in
theorem xshare_any (t b p : Nat) (z : Int) (T : Nat → Fi) (w : World) (h : XAt w t b p T) (hr : ∀ n, n < 24 → (T n).refs < 2 ^ 60) :
    Calls Tryz.prog 48 #[.pointer (some ⟨t, 0, none⟩), .int .i64 z] w fun e w' => e = .returned (errV (Fx.filE T z)) ∧ XAt w' t b p (Fx.shaT T z) ∧ Frm t w w' := by
  have HF := Hid.intro h
  by_cases c : Fx.filE T z = 0
  · obtain ⟨n, rfl, n24, _⟩ := Fx.filE_ok c
    have EP : Hid (Fx.filE T (n : Int) = 0 ∧ fptE t (n : Int) 0 = .pointer (some ⟨t, 2 + n * 5, none⟩)) := Hid.intro ⟨c, fptE_ok t n⟩
    have c0 := h.refs n n24
    have hl := hr n n24
    have FIN : Hid (XAt (w.setCell ⟨t, 2 + n * 5 + 4, none⟩ (.int .i64 (((T n).refs + 1 : Nat) : Int))) t b p (Fx.shaT T (n : Int))) := Hid.intro (by
      unfold Fx.shaT
      rw [if_pos c, Int.toNat_natCast]
      exact h.setRefs n n24 _)
    have cf := h.frozen
    generalize (T n).refs = k at *
    have hw : IntKind.i64.wrap ((k : Int) + 1) = (k : Int) + 1 := IntWalk.i64_in _ ⟨by omega, by omega⟩
    clear h c hr
    go_enter Tryz.func48, Tryz.ntmps48
    go_wp2_with fail
    refine (xfile_any t b p n T _ HF.out).mono ?_
    rintro e w1 ⟨rfl, hw1⟩
    subst w1
    rw [EP.out.1, EP.out.2, errV_zero]
    go_wp2_with fail
    go_ret
    rw [EP.out.1]
    exact ⟨rfl, FIN.out, (Frm.refl t w).setCell _ _⟩
  · have E2 : Hid (fptE t z (Fx.filE T z) = .pointer none ∧ errV (Fx.filE T z) = .iface 90 (.int .i64 (Fx.filE T z)) ∧ Fx.shaT T z = T) := Hid.intro ⟨fptE_no c, errV_ne c, if_neg c⟩
    clear h c hr
    go_enter Tryz.func48, Tryz.ntmps48
    go_wp2_with fail
    refine (xfile_any t b p z T _ HF.out).mono ?_
    rintro e w1 ⟨rfl, hw1⟩
    subst w1
    rw [E2.out.1, E2.out.2.1]
    go_wp2_with fail
    go_ret
    rw [E2.out.2.2, E2.out.2.1]
    exact ⟨rfl, HF.out, Frm.refl _ _⟩
/-- One less has it; nobody: it is no more. -/
def Fx.cloT (T : Nat → Fi) (z : Int) : Nat → Fi := if Fx.filE T z = 0 then Fx.put T z.toNat (if (T z.toNat).refs = 1 then Fi.no else { T z.toNat with refs := (T z.toNat).refs - 1 }) else T
def Fx.cloF (T : Nat → Fi) (F : Fo) (z : Int) : Fo := if Fx.filE T z = 0 ∧ (T z.toNat).refs = 1 then Fx.leF F (T z.toNat) else F
def Fx.cloS (T : Nat → Fi) (S : Nat → Pi) (z : Int) : Nat → Pi := if Fx.filE T z = 0 ∧ (T z.toNat).refs = 1 then Fx.leS S (T z.toNat) else S
section
variable {ops : Array Oper} {rest : List Oper} {x : Oper} {a : Act} {w : World} {Q : Exit → Act → World → Prop}
end
set_option maxRecDepth 100000 in
set_option maxHeartbeats 1000000 in
theorem xclose_any (t b p : Nat) (z : Int) (T : Nat → Fi) (F : Fo) (S : Nat → Pi) (w : World) (h : FX w t b p T F S) (hs : Fx.Sm F S) (hr : ∀ n, n < 24 → (T n).refs < 2 ^ 60) :
    Calls Tryz.prog 50 #[.pointer (some ⟨t, 0, none⟩), .int .i64 z] w fun e w' => e = .returned (errV (Fx.filE T z)) ∧ FX w' t b p (Fx.cloT T z) (Fx.cloF T F z) (Fx.cloS T S z) ∧ Tri t b p w w' := by
  have HF := Hid.intro h
  have HS := Hid.intro hs
  by_cases c : Fx.filE T z = 0
  · obtain ⟨n, rfl, n24, r0⟩ := Fx.filE_ok c
    have EP : Hid (Fx.filE T (n : Int) = 0 ∧ fptE t (n : Int) 0 = .pointer (some ⟨t, 2 + n * 5, none⟩)) := Hid.intro ⟨c, fptE_ok t n⟩
    have c0 := h.1.refs n n24
    have hl := hr n n24
    have S1 : Hid (FX (w.setCell ⟨t, 2 + n * 5 + 4, none⟩ (.int .i64 (((T n).refs - 1 : Nat) : Int))) t b p (Fx.put T n { T n with refs := (T n).refs - 1 }) F S ∧ Frm t w (w.setCell ⟨t, 2 + n * 5 + 4, none⟩ (.int .i64 (((T n).refs - 1 : Nat) : Int)))) := Hid.intro ⟨h.tb (h.1.setRefs n n24 _) ((Frm.refl t w).setCell _ _), (Frm.refl t w).setCell _ _⟩
    have cf := h.1.frozen
    have ET : Hid (Fx.cloT T (n : Int) = Fx.put T n (if (T n).refs = 1 then Fi.no else { T n with refs := (T n).refs - 1 }) ∧ Fx.cloF T F (n : Int) = (if (T n).refs = 1 then Fx.leF F (T n) else F) ∧ Fx.cloS T S (n : Int) = (if (T n).refs = 1 then Fx.leS S (T n) else S)) := Hid.intro (by
      unfold Fx.cloT Fx.cloF Fx.cloS
      rw [Int.toNat_natCast, if_pos c]
      refine ⟨rfl, ?_, ?_⟩
      · by_cases d : (T n).refs = 1
        · rw [if_pos ⟨c, d⟩, if_pos d]
        · rw [if_neg (fun e => d e.2), if_neg d]
      · by_cases d : (T n).refs = 1
        · rw [if_pos ⟨c, d⟩, if_pos d]
        · rw [if_neg (fun e => d e.2), if_neg d])
    by_cases r1 : (T n).refs = 1
    · rw [r1] at c0 S1
      have c0' : w.cell? ⟨t, 2 + n * 5 + 4, none⟩ = some (.int .i64 1) := c0
      have S1' : Hid (FX (w.setCell ⟨t, 2 + n * 5 + 4, none⟩ (.int .i64 0)) t b p (Fx.put T n { T n with refs := 0 }) F S ∧ Frm t w (w.setCell ⟨t, 2 + n * 5 + 4, none⟩ (.int .i64 0))) := S1
      rw [if_pos r1, if_pos r1, if_pos r1] at ET
      clear h c hr hl c0 S1 r0
      go_enter Tryz.func50, Tryz.ntmps50
      go_wp2_with fail
      refine (xfile_any t b p n T _ HF.out.1).mono ?_
      rintro e w1 ⟨rfl, hw1⟩
      subst w1
      rw [EP.out.1, EP.out.2, errV_zero]
      have z0 := S1'.out.1.1.kind n n24
      have z1 := S1'.out.1.1.num n n24
      have z2 := S1'.out.1.1.wr n n24
      have z3 := S1'.out.1.1.pos n n24
      have z4 := S1'.out.1.1.refs n n24
      rw [Fx.put_same] at z0 z1 z2 z3 z4
      have XL : Hid (Fx.leF F (T n) = Fx.leF F { T n with refs := 0 } ∧ Fx.leS S (T n) = Fx.leS S { T n with refs := 0 }) := Hid.intro ⟨rfl, rfl⟩
      obtain ⟨x, hx⟩ : ∃ x, ({ T n with refs := 0 } : Fi) = x := ⟨_, rfl⟩
      rw [hx] at z0 z1 z2 z3 z4 S1' XL
      have hx4 : x.refs = 0 := by rw [← hx]
      clear hx r1
      obtain ⟨kd, nm, wb, ps, rf⟩ := x
      obtain rfl : rf = 0 := hx4
      have z0' : (w.setCell ⟨t, 2 + n * 5 + 4, none⟩ (.int .i64 0)).cell? ⟨t, 2 + n * 5, none⟩ = some (.int .i64 (kd : Int)) := z0
      have z1' : (w.setCell ⟨t, 2 + n * 5 + 4, none⟩ (.int .i64 0)).cell? ⟨t, 2 + n * 5 + 1, none⟩ = some (.int .i64 (nm : Int)) := z1
      have z2' : (w.setCell ⟨t, 2 + n * 5 + 4, none⟩ (.int .i64 0)).cell? ⟨t, 2 + n * 5 + 2, none⟩ = some (.bool wb) := z2
      have z3' : (w.setCell ⟨t, 2 + n * 5 + 4, none⟩ (.int .i64 0)).cell? ⟨t, 2 + n * 5 + 3, none⟩ = some (.int .i64 (ps : Int)) := z3
      have z4' : (w.setCell ⟨t, 2 + n * 5 + 4, none⟩ (.int .i64 0)).cell? ⟨t, 2 + n * 5 + 4, none⟩ = some (.int .i64 0) := z4
      clear z0 z1 z2 z3 z4
      go_upto_region 5 with fail
      generalize w.setCell ⟨t, 2 + n * 5 + 4, none⟩ (.int .i64 0) = W1 at *
      clear c0' cf
      go_wp2_with fail
      refine (xlet_any t b p ⟨kd, nm, wb, ps, 0⟩ _ F S _ S1'.out.1 HS.out).mono ?_
      rintro e W2 ⟨rfl, h2, f2⟩
      have H2 := Hid.intro h2
      have F2 := Hid.intro ((Tri.tb S1'.out.2).trans f2)
      have FIN : Hid (FX (W2.setCells t (2 + n * 5) (Fx.arr Fi.no).toList) t b p (Fx.cloT T (n : Int)) (Fx.cloF T F (n : Int)) (Fx.cloS T S (n : Int)) ∧ Tri t b p w (W2.setCells t (2 + n * 5) (Fx.arr Fi.no).toList)) := Hid.intro (by
        have q := h2.1.setAll n n24 Fi.no
        rw [Fx.put_put] at q
        rw [ET.out.1, ET.out.2.1, ET.out.2.2, XL.out.1, XL.out.2]
        have fr := Pp.frm_setCells (Fx.arr Fi.no).toList (2 + n * 5) (Frm.refl t W2)
        exact ⟨h2.tb q fr, F2.out.trans (Tri.tb fr)⟩)
      have y0 := h2.1.kind n n24
      have y1 := h2.1.num n n24
      have y2 := h2.1.wr n n24
      have y3 := h2.1.pos n n24
      have y4 := h2.1.refs n n24
      have yf := h2.1.frozen
      rw [Fx.put_same] at y0 y1 y2 y3 y4
      clear h2 f2 z0' z1' z2' z3' z4'
      go_wp2_with fail
      go_ret
      rw [EP.out.1]
      exact ⟨rfl, FIN.out⟩
    · rw [if_neg r1, if_neg r1, if_neg r1] at ET
      generalize (T n).refs = k at *
      obtain ⟨q, rfl⟩ : ∃ q, k = q + 1 := ⟨k - 1, by omega⟩
      have q0 : ((q : Int) == 0) = false := by simp; omega
      rw [Nat.add_sub_cancel] at S1 ET
      have hw : IntKind.i64.wrap (((q + 1 : Nat) : Int) - 1) = (q : Int) := (IntWalk.i64_in _ ⟨by omega, by omega⟩).trans (by omega)
      obtain ⟨k1, hk1⟩ : ∃ k1 : Int, ((q + 1 : Nat) : Int) = k1 := ⟨_, rfl⟩
      rw [hk1] at c0 hw
      clear h c hr hl r0 hk1 r1
      go_enter Tryz.func50, Tryz.ntmps50
      go_wp2_with fail
      refine (xfile_any t b p n T _ HF.out.1).mono ?_
      rintro e w1 ⟨rfl, hw1⟩
      subst w1
      rw [EP.out.1, EP.out.2, errV_zero]
      go_wp2_with fail
      go_ret
      rw [EP.out.1, ET.out.1, ET.out.2.1, ET.out.2.2]
      exact ⟨rfl, S1.out.1, Tri.tb S1.out.2⟩
  · have E2 : Hid (fptE t z (Fx.filE T z) = .pointer none ∧ errV (Fx.filE T z) = .iface 90 (.int .i64 (Fx.filE T z)) ∧ Fx.cloT T z = T ∧ Fx.cloF T F z = F ∧ Fx.cloS T S z = S) := Hid.intro ⟨fptE_no c, errV_ne c, if_neg c, if_neg (fun e => c e.1), if_neg (fun e => c e.1)⟩
    clear h c hr
    go_enter Tryz.func50, Tryz.ntmps50
    go_wp2_with fail
    refine (xfile_any t b p z T _ HF.out.1).mono ?_
    rintro e w1 ⟨rfl, hw1⟩
    subst w1
    rw [E2.out.1, E2.out.2.1]
    go_wp2_with fail
    go_ret
    rw [E2.out.2.2.1, E2.out.2.2.2.1, E2.out.2.2.2.2, E2.out.2.1]
    exact ⟨rfl, HF.out, Tri.refl _ _ _ _⟩
end Go.Proofs.YtmneolabgajhmaaGreat

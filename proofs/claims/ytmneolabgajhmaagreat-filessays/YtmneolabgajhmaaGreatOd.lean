/- The document's own open files: Close. -/
import Derived.Test.YtmneolabgajhmaaGreatOb
import Derived.Deep.RegionHeld3
namespace Go.Proofs.YtmneolabgajhmaaGreat
open Go.RowKit
open Fx (Fi)
open Tr (Fo Nd RN)
open Pp (Pi)

set_option maxRecDepth 100000 in
set_option maxHeartbeats 16000000 in
theorem oclose_any (m c q : Nat) (B : Bs) (z : Int) (T : Nat → Fi) (F : Fo) (S : Nat → Pi) (w : World) (h : RX w m c q B T F S) (hw : WI T F S) (hl : ∀ n, n < 40 → (F.nd n).kind ≠ 0 → (F.nd n).links < 2 ^ 60) (hr : ∀ n, n < 24 → (T n).refs < 2 ^ 60) :
    Calls Tryz.prog 51 #[.pointer (some ⟨m, 0, none⟩), .int .i64 z] w fun e w' => e = .returned (.int .i64 (Fx.filE T z)) ∧ RX w' m c q B (Fx.cloT T z) (Fx.cloF T F z) (Fx.cloS T S z) ∧ Tri m c q w w' := by
  have HF := Hid.intro h
  have HW := Hid.intro hw
  have HL := Hid.intro hl
  by_cases d : Fx.filE T z = 0
  · obtain ⟨n, rfl, n24, r0⟩ := Fx.filE_ok d
    have n24i : (n : Int) < 24 := by omega
    have EP : Hid (Fx.filE T (n : Int) = 0) := Hid.intro d
    have c0 := h.1.refs n n24
    have hl0 := hr n n24
    have S1 : Hid (RX (w.setCell ⟨m, 2 + n * 5 + 3, none⟩ (.int .i64 (((T n).refs - 1 : Nat) : Int))) m c q B (Fx.put T n { T n with refs := (T n).refs - 1 }) F S ∧ Frm m w (w.setCell ⟨m, 2 + n * 5 + 3, none⟩ (.int .i64 (((T n).refs - 1 : Nat) : Int)))) := Hid.intro ⟨h.tb (h.1.setRefs n n24 _) ((Frm.refl m w).setCell _ _), (Frm.refl m w).setCell _ _⟩
    have cf := h.1.frozen
    have ET : Hid (Fx.cloT T (n : Int) = Fx.put T n (if (T n).refs = 1 then Fi.no else { T n with refs := (T n).refs - 1 }) ∧ Fx.cloF T F (n : Int) = (if (T n).refs = 1 then Fx.leF F (T n) else F) ∧ Fx.cloS T S (n : Int) = (if (T n).refs = 1 then Fx.leS S (T n) else S)) := Hid.intro (by
      unfold Fx.cloT Fx.cloF Fx.cloS
      rw [Int.toNat_natCast, if_pos d]
      refine ⟨rfl, ?_, ?_⟩
      · by_cases g : (T n).refs = 1
        · rw [if_pos ⟨d, g⟩, if_pos g]
        · rw [if_neg (fun e => g e.2), if_neg g]
      · by_cases g : (T n).refs = 1
        · rw [if_pos ⟨d, g⟩, if_pos g]
        · rw [if_neg (fun e => g e.2), if_neg g])
    have YY : Hid (∀ V, RX V m c q B (Fx.put T n { T n with refs := (T n).refs - 1 }) F S → V.cell? ⟨m, 2 + n * 5, none⟩ = some (.int .i64 ((T n).kind : Int)) ∧ V.cell? ⟨m, 2 + n * 5 + 1, none⟩ = some (.int .i64 ((T n).num : Int)) ∧ V.cell? ⟨m, 2 + n * 5 + 2, none⟩ = some (.int .i64 ((T n).pos : Int)) ∧ V.cell? ⟨m, 2 + n * 5 + 3, none⟩ = some (.int .i64 (((T n).refs - 1 : Nat) : Int)) ∧ V.cell? ⟨m, 2 + n * 5 + 4, none⟩ = some (.bool (T n).wr)) := Hid.intro (fun V hV => by
      have a0 := hV.1.kind n n24
      have a1 := hV.1.num n n24
      have a2 := hV.1.pos n n24
      have a3 := hV.1.refs n n24
      have a4 := hV.1.wr n n24
      rw [Fx.put_same] at a0 a1 a2 a3 a4
      exact ⟨a0, a1, a2, a3, a4⟩)
    have K1 : Hid ((T n).kind = 1 → Tr.letE F ((T n).num : Int) = 0) := Hid.intro (fun k => hw.letE n24 r0 k)
    have K3 : Hid ((T n).kind ≠ 1 → Pp.opE S ((T n).num : Int) (decide ((T n).kind = 3)) = 0) := Hid.intro (fun k => hw.opE n24 r0 k)
    have LF : Hid (Fx.leF F (T n) = if (T n).kind = 1 then Tr.letT F ((T n).num : Int) else F) := Hid.intro rfl
    have LS : Hid (Fx.leS S (T n) = if (T n).kind = 1 then S else Pp.droF S ((T n).num : Int) (decide ((T n).kind = 3))) := Hid.intro rfl
    generalize hx0 : ({ T n with refs := (T n).refs - 1 } : Fi) = x0 at S1 ET YY
    generalize Fx.leF F (T n) = lF at *
    generalize Fx.leS S (T n) = lS at *
    clear hx0
    generalize (T n).kind = kd at *
    generalize (T n).num = nm at *
    generalize (T n).pos = ps at *
    generalize (T n).wr = wb at *
    generalize (T n).refs = k at *
    obtain ⟨r, rfl⟩ : ∃ r, k = r + 1 := ⟨k - 1, by omega⟩
    rw [Nat.add_sub_cancel] at S1 YY
    have hww : IntKind.i64.wrap (((r + 1 : Nat) : Int) - 1) = (r : Int) := (IntWalk.i64_in _ ⟨by omega, by omega⟩).trans (by omega)
    obtain ⟨k1, hk1⟩ : ∃ k1 : Int, ((r + 1 : Nat) : Int) = k1 := ⟨_, rfl⟩
    rw [hk1] at c0 hww
    clear h hw hl d hr hl0 r0 hk1
    go_enter Tryz.func51, Tryz.ntmps51
    go_wp2_with fail
    refine (ois_any m c q n T _ HF.out.1).mono ?_
    rintro e w1 ⟨rfl, hw1⟩
    subst w1
    rw [EP.out]
    go_upto_region 4 with fail
    go_region
    have X1 := Hid.intro S1.out.1.drew
    have F1 := Hid.intro S1.out.2.drew
    generalize (w.setCell ⟨m, 2 + n * 5 + 3, none⟩ (.int .i64 (r : Int))).drew = V at *
    obtain ⟨a0, a1, a2, a3, a4⟩ := YY.out _ X1.out
    have lt1 := X1.out.1.lt
    have NE : Hid (V.heap.size ≠ m ∧ V.heap.size ≠ c ∧ V.heap.size ≠ q) := Hid.intro ⟨Nat.ne_of_gt lt1, by obtain ⟨R, rv, hr⟩ := X1.out.2.1; exact Nat.ne_of_gt hr.rb.lt, Nat.ne_of_gt X1.out.2.2.1.lt⟩
    clear S1 c0 cf hww lt1
    go_upto_region 6 with fail
    refine wp_gen (fun W' => RX W' m c q B (Fx.put T n x0) F S ∧ Tri m c q w W' ∧ W'.heap[V.heap.size]? = some (.cells #[.int .i64 (kd : Int), .int .i64 (nm : Int), .int .i64 (ps : Int), .int .i64 (r : Int), .bool wb] 58 (0, 0))) (by
      have bb := (Below.refl V.heap.size V).alloc (Nat.le_refl _) (.cells #[.int .i64 (kd : Int), .int .i64 (nm : Int), .int .i64 (ps : Int), .int .i64 (r : Int), .bool wb] 58)
      exact ⟨X1.out.below bb, (Tri.tb F1.out).trans (Tri.below bb), heap_alloc_new V _⟩) ?_
    rintro W2 ⟨h2, f2, x2⟩
    have H2 := Hid.intro h2
    have F2 := Hid.intro f2
    have X2 := Hid.intro x2
    have z0 := act_cells x2 0 (.int .i64 (kd : Int)) rfl
    have z1 := act_cells x2 1 (.int .i64 (nm : Int)) rfl
    have z3 := act_cells x2 3 (.int .i64 (r : Int)) rfl
    clear h2 f2 x2 X1 F1 a0 a1 a2 a3 a4
    generalize V.heap.size = bx at *
    by_cases r1 : r = 0
    · have r1' : ¬ (0 : Int) < (r : Int) := by omega
      have r2' : r + 1 = 1 := by omega
      rw [if_pos r2', if_pos r2', if_pos r2'] at ET
      obtain ⟨a0, a1, a2, a3, a4⟩ := YY.out _ H2.out
      have af := H2.out.1.frozen
      have S3 : Hid (RX (W2.setCells m (2 + n * 5) (Fx.arr' Fi.no).toList) m c q B (Fx.put T n Fi.no) F S ∧ Frm m W2 (W2.setCells m (2 + n * 5) (Fx.arr' Fi.no).toList)) := Hid.intro (by
        have k := H2.out.1.setAll n n24 Fi.no
        rw [Fx.put_put] at k
        have fr := Pp.frm_setCells (Fx.arr' Fi.no).toList (2 + n * 5) (Frm.refl m W2)
        exact ⟨H2.out.tb k fr, fr⟩)
      clear r1 r2'
      go_upto_region 9 with fail
      refine wp_gen (fun W' => RX W' m c q B (Fx.put T n Fi.no) F S ∧ Frm m W2 W') S3.out ?_
      rintro W3 ⟨h3, f3⟩
      have H3 := Hid.intro h3
      have F3 := Hid.intro (F2.out.trans (Tri.tb f3))
      have X3 := Hid.intro ((f3.block bx (Array.getElem?_eq_some_iff.1 X2.out).1 NE.out.1).trans X2.out)
      clear h3 f3 S3 H2 F2 X2 YY a0 a1 a2 a3 a4 af z0 z1 z3
      have z0 := act_cells X3.out 0 (.int .i64 (kd : Int)) rfl
      have z1 := act_cells X3.out 1 (.int .i64 (nm : Int)) rfl
      obtain ⟨R3, rv3, hr3⟩ := H3.out.2.1
      have R3' := Hid.intro hr3
      clear hr3
      by_cases k1 : kd = 1
      · subst k1
        rw [if_pos rfl] at LF LS
        have z0' : W3.cell? ⟨bx, 0, none⟩ = some (.int .i64 1) := z0
        have K0 := Hid.intro (And.intro H3.out.1.fo z1)
        have L0 := Hid.intro (K1.out rfl)
        clear z0 z1
        go_wp2_with fail
        go_region_held3 (fun w' => w'.cell? ⟨m, 0, none⟩ = some (.pointer (some ⟨c, 0, none⟩)) ∧ w'.cell? ⟨bx, 1, none⟩ = some (.int .i64 (nm : Int))) (first | exact K0.out | exact K4.out) ((first | (go_at_call 35; refine (rlet_any B c F R3 rv3 _ nm (show FR B W3.drew c F R3 rv3 from R3'.out.below ⟨rfl, rfl, rfl, Nat.le_refl _, fun _ _ => rfl⟩) HW.out.sm.1 HL.out).mono ?_; rintro e w4 ⟨rfl, u4, f4⟩; have f4' : Frm c W3 w4 := ⟨f4.os, f4.tape, f4.output, f4.size, f4.block⟩; have C4 := Hid.intro (H3.out.fo (by obtain ⟨R4, h4⟩ := u4; exact ⟨R4, rv3, h4⟩) f4'); have D4 := Hid.intro (F3.out.trans (Tri.fo f4')); have K4 := Hid.intro (And.intro C4.out.1.fo (act_cells ((f4'.block bx (Array.getElem?_eq_some_iff.1 X3.out).1 NE.out.2.1).trans X3.out) 1 (.int .i64 (nm : Int)) rfl)); clear u4 f4 f4'; rw [L0.out])))
        go_wp2_with fail
        go_ret
        rw [EP.out, ET.out.1, ET.out.2.1, ET.out.2.2, LF.out, LS.out]
        exact ⟨rfl, C4.out, D4.out⟩
      · rw [if_neg k1] at LF LS
        have k1' : ((kd : Int) == 1) = false := by simp; omega
        have K0 := Hid.intro (And.intro H3.out.1.pi (And.intro z1 z0))
        have L0 := Hid.intro (K3.out k1)
        have TS : Hid (Pp.turF S (nm : Int) (decide (kd = 3)) (Pp.tim (S (nm : Int).toNat) (decide (kd = 3)) - 1) = Pp.droF S (nm : Int) (decide (kd = 3))) := Hid.intro (Pp.tur_dro S nm _)
        have SM : Hid (Pp.Sm S) := Hid.intro (fun g hg => ⟨HW.out.sm.2 false g hg, HW.out.sm.2 true g hg⟩)
        have QT : Hid (∀ W (b : Bool), QAt W q S → b = decide (kd = 3) → Calls Tryz.prog 92 #[.pointer (some ⟨q, 0, none⟩), .int .i64 (nm : Int), .bool b, .int .i64 (-1)] W fun e w' => e = .returned (.int .i64 0) ∧ QAt w' q (Pp.droF S (nm : Int) (decide (kd = 3))) ∧ Frm q W w') := Hid.intro (fun W b hW hb => by
          subst hb
          have t := qturn_any q nm (decide (kd = 3)) (-1) (Pp.tim (S (nm : Int).toNat) (decide (kd = 3)) - 1) S W hW SM.out (fun h8 => Fx.cap SM.out h8) (Pp.hy_dro' S nm _)
          rw [TS.out, L0.out] at t
          exact t)
        have KB : Hid (∀ b : Bool, (b = ((kd : Int) == 3) ∨ b = decide ((kd : Int) = 3) ∨ b = decide (kd = 3)) → b = decide (kd = 3)) := Hid.intro (by
          rintro b (rfl | rfl | rfl)
          · rw [Bool.eq_iff_iff]; simp; omega
          · rw [Bool.eq_iff_iff]; simp; omega
          · rfl)
        clear k1 TS L0 SM
        go_wp2_with fail
        go_region_held3 (fun w' => w'.cell? ⟨m, 1, none⟩ = some (.pointer (some ⟨q, 0, none⟩)) ∧ w'.cell? ⟨bx, 1, none⟩ = some (.int .i64 (nm : Int)) ∧ w'.cell? ⟨bx, 0, none⟩ = some (.int .i64 (kd : Int))) (first | exact K0.out | exact K4.out) ((first | (go_at_call 92; refine (QT.out _ _ H3.out.2.2.1.drew (KB.out _ (by first | exact Or.inl rfl | exact Or.inr (Or.inl rfl) | exact Or.inr (Or.inr rfl)))).mono ?_; rintro e w4 ⟨rfl, u4, f4⟩; have f4' : Frm q W3 w4 := ⟨f4.os, f4.tape, f4.output, f4.size, f4.block⟩; have C4 := Hid.intro (H3.out.pi u4 f4'); have D4 := Hid.intro (F3.out.trans (Tri.pi f4')); have K4 := Hid.intro (And.intro C4.out.1.pi (And.intro (act_cells ((f4'.block bx (Array.getElem?_eq_some_iff.1 X3.out).1 NE.out.2.2).trans X3.out) 1 (.int .i64 (nm : Int)) rfl) (act_cells ((f4'.block bx (Array.getElem?_eq_some_iff.1 X3.out).1 NE.out.2.2).trans X3.out) 0 (.int .i64 (kd : Int)) rfl))); clear u4 f4 f4')))
        go_wp2_with fail
        go_ret
        rw [EP.out, ET.out.1, ET.out.2.1, ET.out.2.2, LF.out, LS.out]
        exact ⟨rfl, C4.out, D4.out⟩
    · have r1' : (0 : Int) < (r : Int) := by omega
      have r2' : ¬ r + 1 = 1 := by omega
      rw [if_neg r2', if_neg r2', if_neg r2'] at ET
      clear r1 r2'
      go_wp2_with fail
      go_ret
      rw [EP.out, ET.out.1, ET.out.2.1, ET.out.2.2]
      exact ⟨rfl, H2.out, F2.out⟩
  · have E2 : Hid (Fx.cloT T z = T ∧ Fx.cloF T F z = F ∧ Fx.cloS T S z = S) := Hid.intro ⟨if_neg d, if_neg (fun e => d e.1), if_neg (fun e => d e.1)⟩
    have p0 : 0 < Fx.filE T z := by have := Fx.filE_nn T z; omega
    clear h hw hl hr d
    go_enter Tryz.func51, Tryz.ntmps51
    go_wp2_with fail
    refine (ois_any m c q z T _ HF.out.1).mono ?_
    rintro e w1 ⟨rfl, hw1⟩
    subst w1
    go_wp2_with fail
    go_ret
    rw [E2.out.1, E2.out.2.1, E2.out.2.2]
    exact ⟨rfl, HF.out, Tri.refl _ _ _ _⟩
end Go.Proofs.YtmneolabgajhmaaGreat

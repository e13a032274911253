/- The document's own open files: Read, Write. -/
import Derived.Test.YtmneolabgajhmaaGreatOb
import Derived.Test.YtmneolabgajhmaaGreatZa
namespace Go.Proofs.YtmneolabgajhmaaGreat
open Go.RowKit
open Fx (Fi)
open Tr (Fo Nd RN)
open Pp (Pi)

set_option maxRecDepth 100000 in
set_option maxHeartbeats 2000000 in
theorem oread_any (m c q : Nat) (B : Bs) (z k : Int) (T : Nat → Fi) (F : Fo) (S : Nat → Pi) (w : World) (h : RX w m c q B T F S) (hw : WI T F S) (hz : Tr.FzOk F) (h12 : ∀ n, n < 8 → (S n).tx.size ≤ 12) :
    Calls Tryz.prog 53 #[.pointer (some ⟨m, 0, none⟩), .int .i64 z, .int .i64 k] w fun e w' => e = .returned (.tuple #[.string (Fx.reaV T F S z k), .int .i64 (Fx.reaE T F S z k)]) ∧ RX w' m c q B (Fx.reaT T F z k) F (Fx.reaP T S z k) ∧ Tri m c q w w' := by
  have HF := Hid.intro h
  have HW := Hid.intro hw
  have SM : Hid (Pp.Sm S) := Hid.intro (fun g hg => ⟨hw.sm.2 false g hg, hw.sm.2 true g hg⟩)
  have HZ := Hid.intro hz
  have H12 := Hid.intro h12
  by_cases d : Fx.filE T z = 0
  · obtain ⟨n, rfl, n24, _⟩ := Fx.filE_ok d
    have n24i : (n : Int) < 24 := by omega
    have EP : Hid (Fx.filE T (n : Int) = 0) := Hid.intro d
    have hps := hw.ps n n24
    have c0 := h.1.kind n n24
    have c1 := h.1.num n n24
    have c3 := h.1.pos n n24
    have cp := h.1.pi
    have cb := h.1.fo
    have cf := h.1.frozen
    have DE : Fx.reaE T F S (n : Int) k = if (T n).kind = 3 then 8 else if (T n).kind = 2 then Pp.reaE S ((T n).num : Int) k else Tr.reaE F ((T n).num : Int) ((T n).pos : Int) k := by unfold Fx.reaE; rw [if_neg (fun e => e d), Int.toNat_natCast]
    have DV : Fx.reaV T F S (n : Int) k = if (T n).kind = 3 then ⟨#[]⟩ else if (T n).kind = 2 then Pp.reaT S ((T n).num : Int) k else Tr.reaS F ((T n).num : Int) ((T n).pos : Int) k := by unfold Fx.reaV; rw [if_neg (fun e => e d), Int.toNat_natCast]
    by_cases k3 : (T n).kind = 3
    · have FIN : Hid (Fx.reaE T F S (n : Int) k = 8 ∧ Fx.reaV T F S (n : Int) k = ⟨#[]⟩ ∧ Fx.reaT T F (n : Int) k = T ∧ Fx.reaP T S (n : Int) k = S) := Hid.intro ⟨by rw [DE, if_pos k3], by rw [DV, if_pos k3], if_neg (fun e => by rw [Int.toNat_natCast] at e; exact e.2.1 k3), if_neg (fun e => by rw [Int.toNat_natCast, k3] at e; exact absurd e.2 (by decide))⟩
      rw [k3] at c0
      have c0' : w.cell? ⟨m, 2 + n * 5, none⟩ = some (.int .i64 3) := c0
      clear h d hw hz h12 hps DE DV k3 c0 c1 c3 cp cb
      go_enter Tryz.func53, Tryz.ntmps53
      go_wp2_with fail
      refine (ois_any m c q n T _ HF.out.1).mono ?_
      rintro e w1 ⟨rfl, hw1⟩
      subst w1
      rw [EP.out]
      go_wp2_with fail
      go_ret2
      rw [FIN.out.1, FIN.out.2.1, FIN.out.2.2.1, FIN.out.2.2.2]
      exact ⟨rfl, HF.out, Tri.refl _ _ _ _⟩
    · by_cases k2 : (T n).kind = 2
      · have FIN : Hid (Fx.reaE T F S (n : Int) k = Pp.reaE S ((T n).num : Int) k ∧ Fx.reaV T F S (n : Int) k = Pp.reaT S ((T n).num : Int) k ∧ Fx.reaT T F (n : Int) k = T ∧ Fx.reaP T S (n : Int) k = Pp.reaF S ((T n).num : Int) k) := Hid.intro ⟨by rw [DE, if_neg k3, if_pos k2], by rw [DV, if_neg k3, if_pos k2], if_neg (fun e => by rw [Int.toNat_natCast] at e; exact e.2.2.1 k2), by unfold Fx.reaP; rw [Int.toNat_natCast, if_pos ⟨d, k2⟩]⟩
        rw [k2] at c0
        have c0' : w.cell? ⟨m, 2 + n * 5, none⟩ = some (.int .i64 2) := c0
        generalize (T n).num = nm at *
        have K0 := Hid.intro (And.intro cp c1)
        have NP := Hid.intro h.2.2.2.2.2
        clear h d hw hz h12 hps DE DV k3 k2 c0 c1 c3 cp cb
        go_enter Tryz.func53, Tryz.ntmps53
        go_wp2_with fail
        refine (ois_any m c q n T _ HF.out.1).mono ?_
        rintro e w1 ⟨rfl, hw1⟩
        subst w1
        rw [EP.out]
        go_wp2_with fail
        go_region_held3 (fun w' => w'.cell? ⟨m, 1, none⟩ = some (.pointer (some ⟨q, 0, none⟩)) ∧ w'.cell? ⟨m, 2 + n * 5 + 1, none⟩ = some (.int .i64 (nm : Int))) (first | exact K0.out | exact K4.out) ((first | (go_at_call 94; refine (qread_any q nm k S _ HF.out.2.2.1.drew SM.out H12.out).mono ?_; rintro e w4 ⟨rfl, u4, f4⟩; have f4' : Frm q w w4 := ⟨f4.os, f4.tape, f4.output, f4.size, f4.block⟩; have C4 := Hid.intro (HF.out.pi u4 f4'); have D4 : Hid (Tri m c q w w4) := Hid.intro (Tri.pi f4'); have K4 := Hid.intro (And.intro C4.out.1.pi ((World.cell?_of_block (f4'.block m HF.out.1.lt NP.out.2.1)).trans K0.out.2)); clear u4 f4 f4')))
        go_wp2_with fail
        go_ret2
        rw [FIN.out.1, FIN.out.2.1, FIN.out.2.2.1, FIN.out.2.2.2]
        exact ⟨rfl, C4.out, D4.out⟩
      · have EP2 : Hid (Fx.reaP T S (n : Int) k = S) := Hid.intro (if_neg (fun e => by rw [Int.toNat_natCast] at e; exact k2 e.2))
        have FIN : Hid (Fx.reaE T F S (n : Int) k = Tr.reaE F ((T n).num : Int) ((T n).pos : Int) k ∧ Fx.reaV T F S (n : Int) k = Tr.reaS F ((T n).num : Int) ((T n).pos : Int) k) := Hid.intro ⟨by rw [DE, if_neg k3, if_neg k2], by rw [DV, if_neg k3, if_neg k2]⟩
        have ET : Fx.reaT T F (n : Int) k = Fx.put T n { T n with pos := (T n).pos + (Tr.reaS F ((T n).num : Int) ((T n).pos : Int) k).size } := by
          unfold Fx.reaT
          rw [Int.toNat_natCast]
          by_cases g : Tr.reaE F ((T n).num : Int) ((T n).pos : Int) k = 0
          · rw [if_pos ⟨d, k3, k2, g⟩]
          · rw [if_neg (fun e => g e.2.2.2)]
            have z0 : Tr.reaS F ((T n).num : Int) ((T n).pos : Int) k = ByteArray.empty := by unfold Tr.reaS; rw [if_neg g]
            rw [z0]
            funext a
            unfold Fx.put
            split
            · rename_i e; rw [e]; rfl
            · rfl
        have k3' : (((T n).kind : Int) == 3) = false := by simp; omega
        have k2' : (((T n).kind : Int) == 2) = false := by simp; omega
        have ZS : Hid ((Tr.reaS F ((T n).num : Int) ((T n).pos : Int) k).size ≤ 40) := Hid.intro (Tr.reaS_le hz _ _ _)
        have SP : Hid (∀ V, RX V m c q B T F S → RX (V.setCell ⟨m, 2 + n * 5 + 2, none⟩ (.int .i64 (((T n).pos + (Tr.reaS F ((T n).num : Int) ((T n).pos : Int) k).size : Nat) : Int))) m c q B (Fx.reaT T F (n : Int) k) F S) := Hid.intro (fun V hV => by rw [ET]; exact hV.tb (hV.1.setPos n n24 _) ((Frm.refl m V).setCell _ _))
        obtain ⟨R, rv, hr⟩ := h.2.1
        have RR : Hid (FR B w.drew c F R rv) := Hid.intro (hr.below ⟨rfl, rfl, rfl, Nat.le_refl _, fun _ _ => rfl⟩)
        clear hr
        generalize (T n).kind = kd at *
        generalize (T n).num = nm at *
        generalize (T n).pos = ps at *
        have K0 := Hid.intro (And.intro cb (And.intro c1 c3))
        have TR := Hid.intro (rread_any B c F R rv w.drew nm ps k RR.out hz)
        generalize Tr.reaS F (nm : Int) (ps : Int) k = RS at *
        generalize Tr.reaE F (nm : Int) (ps : Int) k = ie at *
        have ad : IntKind.i64.wrap ((ps : Int) + (RS.size : Int)) = ((ps + RS.size : Nat) : Int) := by
          have := ZS.out
          exact (IntWalk.i64_in _ ⟨by omega, by omega⟩).trans (by omega)
        clear h d hw hz h12 hps DE DV k3 k2 c1 c3 cp cb ET
        go_enter Tryz.func53, Tryz.ntmps53
        go_wp2_with fail
        refine (ois_any m c q n T _ HF.out.1).mono ?_
        rintro e w1 ⟨rfl, hw1⟩
        subst w1
        rw [EP.out]
        go_wp2_with fail
        go_region_held3 (fun w' => w'.cell? ⟨m, 0, none⟩ = some (.pointer (some ⟨c, 0, none⟩)) ∧ w'.cell? ⟨m, 2 + n * 5 + 1, none⟩ = some (.int .i64 (nm : Int)) ∧ w'.cell? ⟨m, 2 + n * 5 + 2, none⟩ = some (.int .i64 (ps : Int))) (first | exact K0.out | exact K4.out) ((first | (go_at_call 40; refine TR.out.mono ?_; rintro e w4 ⟨rfl, b4⟩; subst w4; have K4 := K0)))
        have x3 : w.drew.cell? ⟨m, 2 + n * 5 + 2, none⟩ = some (.int .i64 (ps : Int)) := K0.out.2.2
        have xf := HF.out.1.drew.frozen
        have X5 := Hid.intro (SP.out _ HF.out)
        clear cf
        go_wp2_with fail
        go_ret2
        rw [FIN.out.1, FIN.out.2, EP2.out]
        exact ⟨rfl, X5.out.drew, Tri.tb ((Frm.refl m w).setCell _ _).drew⟩
  · have E2 : Hid (Fx.reaE T F S z k = Fx.filE T z ∧ Fx.reaV T F S z k = ⟨#[]⟩ ∧ Fx.reaT T F z k = T ∧ Fx.reaP T S z k = S) := Hid.intro ⟨if_pos d, if_pos d, if_neg (fun e => d e.1), if_neg (fun e => d e.1)⟩
    have p0 : 0 < Fx.filE T z := by have := Fx.filE_nn T z; omega
    clear h d hw hz h12
    go_enter Tryz.func53, Tryz.ntmps53
    go_wp2_with fail
    refine (ois_any m c q z T _ HF.out.1).mono ?_
    rintro e w1 ⟨rfl, hw1⟩
    subst w1
    go_wp2_with fail
    go_ret2
    rw [E2.out.1, E2.out.2.1, E2.out.2.2.1, E2.out.2.2.2]
    exact ⟨rfl, HF.out, Tri.refl _ _ _ _⟩
set_option maxRecDepth 100000 in
set_option maxHeartbeats 2000000 in
theorem owrite_any (m c q : Nat) (B : Bs) (z : Int) (s : ByteArray) (T : Nat → Fi) (F : Fo) (S : Nat → Pi) (w : World) (h : RX w m c q B T F S) (hw : WI T F S) (hz : Tr.FzOk F) (hzb : Tr.Zb F) (h12 : ∀ n, n < 8 → (S n).tx.size ≤ 12) (hs : s.size < 2 ^ 59) :
    Calls Tryz.prog 54 #[.pointer (some ⟨m, 0, none⟩), .int .i64 z, .string s] w fun e w' => e = .returned (.tuple #[.int .i64 (Fx.wriK T F S z s : Int), .int .i64 (Fx.wriE T F S z s)]) ∧ RX w' m c q B (Fx.wriT T F z s) (Fx.wriF T F z s) (Fx.wriP T S z s) ∧ Tri m c q w w' := by
  have HF := Hid.intro h
  have HW := Hid.intro hw
  have SM : Hid (Pp.Sm S) := Hid.intro (fun g hg => ⟨hw.sm.2 false g hg, hw.sm.2 true g hg⟩)
  have HL := Hid.intro hs
  have H12 := Hid.intro h12
  by_cases d : Fx.filE T z = 0
  · obtain ⟨n, rfl, n24, _⟩ := Fx.filE_ok d
    have n24i : (n : Int) < 24 := by omega
    have EP : Hid (Fx.filE T (n : Int) = 0) := Hid.intro d
    have hps := hw.ps n n24
    have c0 := h.1.kind n n24
    have c1 := h.1.num n n24
    have c2 := h.1.wr n n24
    have c3 := h.1.pos n n24
    have cp := h.1.pi
    have cb := h.1.fo
    have cf := h.1.frozen
    have DE : Fx.wriE T F S (n : Int) s = if (T n).kind = 3 then Pp.wriE S ((T n).num : Int) s else if (T n).wr = false then 8 else Tr.wriE F ((T n).num : Int) ((T n).pos : Int) s := by unfold Fx.wriE; rw [if_neg (fun e => e d), Int.toNat_natCast]
    have DK : Fx.wriK T F S (n : Int) s = if (T n).kind = 3 then Pp.wriK S ((T n).num : Int) s else if (T n).wr = false then 0 else if Tr.wriE F ((T n).num : Int) ((T n).pos : Int) s = 0 then s.size else 0 := by unfold Fx.wriK; rw [if_neg (fun e => e d), Int.toNat_natCast]
    by_cases k3 : (T n).kind = 3
    · have nb : ¬ Fx.wriB T (n : Int) := fun e => by unfold Fx.wriB at e; rw [Int.toNat_natCast] at e; exact e.2.1 k3
      have FIN : Hid (Fx.wriE T F S (n : Int) s = Pp.wriE S ((T n).num : Int) s ∧ Fx.wriK T F S (n : Int) s = Pp.wriK S ((T n).num : Int) s ∧ Fx.wriT T F (n : Int) s = T ∧ Fx.wriF T F (n : Int) s = F ∧ Fx.wriP T S (n : Int) s = Pp.wriF S ((T n).num : Int) s) := Hid.intro ⟨by rw [DE, if_pos k3], by rw [DK, if_pos k3], if_neg (fun e => nb e.1), if_neg nb, by unfold Fx.wriP; rw [Int.toNat_natCast, if_pos ⟨d, k3⟩]⟩
      rw [k3] at c0
      have c0' : w.cell? ⟨m, 2 + n * 5, none⟩ = some (.int .i64 3) := c0
      generalize (T n).num = nm at *
      have K0 := Hid.intro (And.intro cp c1)
      have NP := Hid.intro h.2.2.2.2.2
      clear h d hw hz hzb h12 hs hps DE DK k3 nb c0 c1 c2 c3 cp cb
      go_enter Tryz.func54, Tryz.ntmps54
      go_wp2_with fail
      refine (ois_any m c q n T _ HF.out.1).mono ?_
      rintro e w1 ⟨rfl, hw1⟩
      subst w1
      rw [EP.out]
      go_wp2_with fail
      go_region_held3 (fun w' => w'.cell? ⟨m, 1, none⟩ = some (.pointer (some ⟨q, 0, none⟩)) ∧ w'.cell? ⟨m, 2 + n * 5 + 1, none⟩ = some (.int .i64 (nm : Int))) (first | exact K0.out | exact K4.out) ((first | (go_at_call 95; refine (qwrite_any q nm s S _ HF.out.2.2.1.drew SM.out H12.out (by have := HL.out; omega)).mono ?_; rintro e w4 ⟨rfl, u4, f4⟩; have f4' : Frm q w w4 := ⟨f4.os, f4.tape, f4.output, f4.size, f4.block⟩; have C4 := Hid.intro (HF.out.pi u4 f4'); have D4 : Hid (Tri m c q w w4) := Hid.intro (Tri.pi f4'); have K4 := Hid.intro (And.intro C4.out.1.pi ((World.cell?_of_block (f4'.block m HF.out.1.lt NP.out.2.1)).trans K0.out.2)); clear u4 f4 f4')))
      go_wp2_with fail
      go_ret2
      rw [FIN.out.1, FIN.out.2.1, FIN.out.2.2.1, FIN.out.2.2.2.1, FIN.out.2.2.2.2]
      exact ⟨rfl, C4.out, D4.out⟩
    · have k3' : (((T n).kind : Int) == 3) = false := by simp; omega
      have EP2 : Hid (Fx.wriP T S (n : Int) s = S) := Hid.intro (if_neg (fun e => by rw [Int.toNat_natCast] at e; exact k3 e.2))
      by_cases w0 : (T n).wr = false
      · have nb : ¬ Fx.wriB T (n : Int) := fun e => by unfold Fx.wriB at e; rw [Int.toNat_natCast, w0] at e; exact absurd e.2.2 (by decide)
        have FIN : Hid (Fx.wriE T F S (n : Int) s = 8 ∧ Fx.wriK T F S (n : Int) s = 0 ∧ Fx.wriT T F (n : Int) s = T ∧ Fx.wriF T F (n : Int) s = F) := Hid.intro ⟨by rw [DE, if_neg k3, if_pos w0], by rw [DK, if_neg k3, if_pos w0], if_neg (fun e => nb e.1), if_neg nb⟩
        rw [w0] at c2
        generalize (T n).kind = kd at *
        clear h d hw hz hzb h12 hs hps DE DK k3 nb w0 c1 c3 cp cb
        go_enter Tryz.func54, Tryz.ntmps54
        go_wp2_with fail
        refine (ois_any m c q n T _ HF.out.1).mono ?_
        rintro e w1 ⟨rfl, hw1⟩
        subst w1
        rw [EP.out]
        go_wp2_with fail
        go_ret2
        rw [FIN.out.1, FIN.out.2.1, FIN.out.2.2.1, FIN.out.2.2.2, EP2.out]
        exact ⟨rfl, HF.out, Tri.refl _ _ _ _⟩
      · have w1' : (T n).wr = true := by simpa using w0
        have yb : Fx.wriB T (n : Int) := by unfold Fx.wriB; rw [Int.toNat_natCast]; exact ⟨d, k3, w1'⟩
        have FIN : Hid (Fx.wriE T F S (n : Int) s = Tr.wriE F ((T n).num : Int) ((T n).pos : Int) s ∧ Fx.wriF T F (n : Int) s = Tr.wriF F ((T n).num : Int) ((T n).pos : Int) s) := Hid.intro ⟨by rw [DE, if_neg k3, if_neg w0], by unfold Fx.wriF; rw [if_pos yb, Int.toNat_natCast]⟩
        have DK2 : Fx.wriK T F S (n : Int) s = if Tr.wriE F ((T n).num : Int) ((T n).pos : Int) s = 0 then s.size else 0 := by rw [DK, if_neg k3, if_neg w0]
        have ET : Fx.wriT T F (n : Int) s = if Tr.wriE F ((T n).num : Int) ((T n).pos : Int) s = 0 then Fx.put T n { T n with pos := (T n).pos + s.size } else T := by
          unfold Fx.wriT
          rw [Int.toNat_natCast]
          by_cases g : Tr.wriE F ((T n).num : Int) ((T n).pos : Int) s = 0
          · rw [if_pos g, if_pos ⟨yb, g⟩]
          · rw [if_neg g, if_neg (fun e => g e.2)]
        have SP : Hid (∀ V G, RX V m c q B T G S → RX (V.setCell ⟨m, 2 + n * 5 + 2, none⟩ (.int .i64 (((T n).pos + s.size : Nat) : Int))) m c q B (Fx.put T n { T n with pos := (T n).pos + s.size }) G S) := Hid.intro (fun V G hV => hV.tb (hV.1.setPos n n24 _) ((Frm.refl m V).setCell _ _))
        generalize hTX : Fx.put T n { T n with pos := (T n).pos + s.size } = TX at ET SP
        clear hTX
        obtain ⟨R, rv, hr⟩ := h.2.1
        have RR : Hid (FR B w.drew c F R rv) := Hid.intro (hr.below ⟨rfl, rfl, rfl, Nat.le_refl _, fun _ _ => rfl⟩)
        clear hr
        rw [w1'] at c2
        generalize (T n).kind = kd at *
        generalize (T n).num = nm at *
        generalize (T n).pos = ps at *
        have K0 := Hid.intro (And.intro cb (And.intro c1 c3))
        have NP := Hid.intro h.2.2.2.2.2
        have EN : Hid (0 ≤ Tr.wriE F (nm : Int) (ps : Int) s) := Hid.intro (Tr.wriE_nn F nm ps s)
        have TW := Hid.intro (rwrite_any B c F R rv w.drew nm ps s RR.out hz hzb (by omega))
        by_cases e0 : Tr.wriE F (nm : Int) (ps : Int) s = 0
        · rw [if_pos e0] at ET DK2
          have EE := Hid.intro (And.intro e0 (And.intro ET DK2))
          have ad : IntKind.i64.wrap ((ps : Int) + (s.size : Int)) = ((ps + s.size : Nat) : Int) := (IntWalk.i64_in _ ⟨by omega, by omega⟩).trans (by omega)
          clear h d hw hz hzb h12 hs hps DE DK DK2 k3 w0 w1' yb c1 c3 cp cb e0 ET
          go_enter Tryz.func54, Tryz.ntmps54
          go_wp2_with fail
          refine (ois_any m c q n T _ HF.out.1).mono ?_
          rintro e w1 ⟨rfl, hw1⟩
          subst w1
          rw [EP.out]
          go_wp2_with fail
          go_region_held3 (fun w' => w'.cell? ⟨m, 0, none⟩ = some (.pointer (some ⟨c, 0, none⟩)) ∧ w'.cell? ⟨m, 2 + n * 5 + 1, none⟩ = some (.int .i64 (nm : Int)) ∧ w'.cell? ⟨m, 2 + n * 5 + 2, none⟩ = some (.int .i64 (ps : Int))) (first | exact K0.out | exact K4.out) ((first | (go_at_call 42; refine TW.out.mono ?_; rintro e w4 ⟨rfl, u4, f4⟩; have f4' : Frm c w w4 := ⟨f4.os, f4.tape, f4.output, f4.size, f4.block⟩; have C4 := Hid.intro (HF.out.fo (by obtain ⟨R4, h4⟩ := u4; exact ⟨R4, rv, h4⟩) f4'); have D4 : Hid (Tri m c q w w4) := Hid.intro (Tri.fo f4'); have K4 := Hid.intro (And.intro C4.out.1.fo (And.intro ((World.cell?_of_block (f4'.block m HF.out.1.lt NP.out.1)).trans K0.out.2.1) ((World.cell?_of_block (f4'.block m HF.out.1.lt NP.out.1)).trans K0.out.2.2))); clear u4 f4 f4'; rw [EE.out.1])))
          have x3 := K4.out.2.2
          have xf := C4.out.1.frozen
          have X5 := Hid.intro (SP.out _ _ C4.out)
          have D5 : Hid (Tri m c q w (w4.setCell ⟨m, 2 + n * 5 + 2, none⟩ (.int .i64 ((ps + s.size : Nat) : Int)))) := Hid.intro (D4.out.trans (Tri.tb ((Frm.refl m w4).setCell _ _)))
          clear cf
          go_wp2_with fail
          go_ret2
          rw [FIN.out.1, FIN.out.2, EP2.out, EE.out.1, EE.out.2.1, EE.out.2.2]
          exact ⟨rfl, X5.out, D5.out⟩
        · rw [if_neg e0] at ET DK2
          have EE := Hid.intro (And.intro ET DK2)
          have p0 : 0 < Tr.wriE F (nm : Int) (ps : Int) s := by have := EN.out; omega
          clear h d hw hz hzb h12 hs hps DE DK DK2 k3 w0 w1' yb c1 c3 cp cb e0 ET SP
          go_enter Tryz.func54, Tryz.ntmps54
          go_wp2_with fail
          refine (ois_any m c q n T _ HF.out.1).mono ?_
          rintro e w1 ⟨rfl, hw1⟩
          subst w1
          rw [EP.out]
          go_wp2_with fail
          go_region_held3 (fun w' => w'.cell? ⟨m, 0, none⟩ = some (.pointer (some ⟨c, 0, none⟩)) ∧ w'.cell? ⟨m, 2 + n * 5 + 1, none⟩ = some (.int .i64 (nm : Int)) ∧ w'.cell? ⟨m, 2 + n * 5 + 2, none⟩ = some (.int .i64 (ps : Int))) (first | exact K0.out | exact K4.out) ((first | (go_at_call 42; refine TW.out.mono ?_; rintro e w4 ⟨rfl, u4, f4⟩; have f4' : Frm c w w4 := ⟨f4.os, f4.tape, f4.output, f4.size, f4.block⟩; have C4 := Hid.intro (HF.out.fo (by obtain ⟨R4, h4⟩ := u4; exact ⟨R4, rv, h4⟩) f4'); have D4 : Hid (Tri m c q w w4) := Hid.intro (Tri.fo f4'); have K4 := Hid.intro (And.intro C4.out.1.fo (And.intro ((World.cell?_of_block (f4'.block m HF.out.1.lt NP.out.1)).trans K0.out.2.1) ((World.cell?_of_block (f4'.block m HF.out.1.lt NP.out.1)).trans K0.out.2.2))); clear u4 f4 f4')))
          go_wp2_with fail
          go_ret2
          rw [FIN.out.1, FIN.out.2, EP2.out, EE.out.1, EE.out.2]
          exact ⟨rfl, C4.out, D4.out⟩
  · have nb : ¬ Fx.wriB T z := fun e => d e.1
    have E2 : Hid (Fx.wriE T F S z s = Fx.filE T z ∧ Fx.wriK T F S z s = 0 ∧ Fx.wriT T F z s = T ∧ Fx.wriF T F z s = F ∧ Fx.wriP T S z s = S) := Hid.intro ⟨if_pos d, if_pos d, if_neg (fun e => nb e.1), if_neg nb, if_neg (fun e => d e.1)⟩
    have p0 : 0 < Fx.filE T z := by have := Fx.filE_nn T z; omega
    clear h d hw hz hzb h12 hs nb
    go_enter Tryz.func54, Tryz.ntmps54
    go_wp2_with fail
    refine (ois_any m c q z T _ HF.out.1).mono ?_
    rintro e w1 ⟨rfl, hw1⟩
    subst w1
    go_wp2_with fail
    go_ret2
    rw [E2.out.1, E2.out.2.1, E2.out.2.2.1, E2.out.2.2.2.1, E2.out.2.2.2.2]
    exact ⟨rfl, HF.out, Tri.refl _ _ _ _⟩
end Go.Proofs.YtmneolabgajhmaaGreat

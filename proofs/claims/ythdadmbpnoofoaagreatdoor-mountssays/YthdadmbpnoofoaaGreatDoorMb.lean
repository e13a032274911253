/- The code's table: seen, step. -/
import Derived.Test.YthdadmbpnoofoaaGreatDoorMa
namespace Go.Proofs.YthdadmbpnoofoaaGreatDoor
open Go.RowKit
open Tr (Fo Nd)
open Mo (Wh Mt Tb)

/-- A place, boxed. -/
def WB (w : World) (c : Nat) (x : Wh) : Prop := w.heap[c]? = some (.cells #[.int .i64 x.1, .int .i64 x.2] 56 (0, 0))
section
variable {w w' : World} {c : Nat} {x : Wh}
theorem WB.c0 (h : WB w c x) : w.cell? ⟨c, 0, none⟩ = some (.int .i64 x.1) := by rw [cell_blk h]; rfl
theorem WB.c1 (h : WB w c x) : w.cell? ⟨c, 1, none⟩ = some (.int .i64 x.2) := by rw [cell_blk h]; rfl
theorem WB.fz (h : WB w c x) (o : Nat) : w.frozen? ⟨c, o, none⟩ = false := frozen_blk h o
theorem WB.lt (h : WB w c x) : c < w.heap.size := (Array.getElem?_eq_some_iff.1 h).1
theorem WB.set (h : WB w c x) (y : Wh) : WB ((w.setCell ⟨c, 0, none⟩ (.int .i64 y.1)).setCell ⟨c, 1, none⟩ (.int .i64 y.2)) c y ∧ Frm c w ((w.setCell ⟨c, 0, none⟩ (.int .i64 y.1)).setCell ⟨c, 1, none⟩ (.int .i64 y.2)) :=
  ⟨blk_set (blk_set h 0 _) 1 _, ((Frm.refl c w).setCell _ _).setCell _ _⟩
theorem WB.same (h : WB w c x) (e : w'.heap[c]? = w.heap[c]?) : WB w' c x := e.trans h
theorem WB.below (h : WB w c x) (k : Below w.heap.size w w') : WB w' c x := h.same (k.block c h.lt)
end
theorem boxes2 (w : World) (x : Wh) : WB ((w.alloc (.cells #[.int .i64 x.1, .int .i64 x.2] 56)).alloc (.cells #[.int .i64 0, .int .i64 0] 56)) w.heap.size x ∧ WB ((w.alloc (.cells #[.int .i64 x.1, .int .i64 x.2] 56)).alloc (.cells #[.int .i64 0, .int .i64 0] 56)) (w.heap.size + 1) (0, 0) ∧ Below w.heap.size w ((w.alloc (.cells #[.int .i64 x.1, .int .i64 x.2] 56)).alloc (.cells #[.int .i64 0, .int .i64 0] 56)) := by
  refine ⟨?_, ?_, ((Below.refl _ w).alloc (Nat.le_refl _) _).alloc (by simp) _⟩
  · show ((w.heap.push _).push _)[w.heap.size]? = _
    simp only [Array.getElem?_push, Array.size_push]
    rw [if_neg (by omega), if_pos trivial]
  · show ((w.heap.push _).push _)[w.heap.size + 1]? = _
    simp only [Array.getElem?_push, Array.size_push]
    rw [if_pos trivial]
set_option maxRecDepth 100000 in
set_option maxHeartbeats 2000000 in
theorem seen_any (base b f : Nat) (T : Tb) (v : Value) (x : Wh) (w : World) (h : TAt w base b f T v) :
    Calls Tryz.prog 104 #[.pointer (some ⟨b, 0, none⟩), .agg #[.int .i64 x.1, .int .i64 x.2]] w fun e w' => e = .returned (.agg #[.int .i64 (Mo.sn T.ms x).1, .int .i64 (Mo.sn T.ms x).2]) ∧ Below w.heap.size w w' := by
  have HT := Hid.intro h
  have BX := Hid.intro (boxes2 w x)
  clear h
  go_enter Tryz.func104, Tryz.ntmps104
  go_upto_region 1 with fail
  refine wp_gen (fun W' => WB W' w.heap.size x ∧ WB W' (w.heap.size + 1) (0, 0) ∧ Below w.heap.size w W') BX.out ?_
  intro W1 h1
  have S1 : Hid (WB W1 w.heap.size x ∧ WB W1 (w.heap.size + 1) (0, 0) ∧ Below w.heap.size w W1) := Hid.intro h1
  clear h1 BX
  obtain ⟨bx, hbx⟩ : ∃ bx, w.heap.size = bx := ⟨_, rfl⟩
  have HBX := Hid.intro hbx
  have LE : Hid (∀ W, Below bx w W → bx ≤ W.heap.size) := Hid.intro (fun W h => by have := h.size; rw [hbx] at this; exact this)
  rw [hbx] at S1 ⊢
  clear hbx
  go_wp2_with fail
  go_loopw [5, 6] (fun _ i wr => ∃ (k : Nat) (y : Wh), i = .int .i64 k ∧ k ≤ 6 ∧ Hid (WB wr bx y ∧ WB wr (bx + 1) (0, 0) ∧ Below bx w wr ∧ Mo.snK T.ms (6 - k) y = Mo.sn T.ms x)) (fun _ i _ => 6 - (intOf i).toNat)
  case atStart => exact ⟨0, x, rfl, by omega, Hid.intro ⟨S1.out.1, S1.out.2.1, S1.out.2.2, rfl⟩⟩
  case round =>
    clear S1
    obtain ⟨k, y, rfl, hk, S⟩ := hrel
    have RET : Hid (∀ W, WB W (bx + 1) (0, 0) → Below bx w W → WB ((W.setCell ⟨bx + 1, 0, none⟩ (.int .i64 y.1)).setCell ⟨bx + 1, 1, none⟩ (.int .i64 y.2)) (bx + 1) y ∧ Below bx w ((W.setCell ⟨bx + 1, 0, none⟩ (.int .i64 y.1)).setCell ⟨bx + 1, 1, none⟩ (.int .i64 y.2))) := Hid.intro (fun W hW hb => by
      have := hW.set y
      exact ⟨this.1, this.2.below hb (by omega) (LE.out _ hb)⟩)
    by_cases hlt : k < 6
    · have hltI : (k : Int) < 6 := by omega
      have c0 := S.out.1.c0
      have c1 := S.out.1.c1
      go_wp2_with fail
      refine (mounted_any base b f T v y _ (HT.out.below (by have := HBX.out; subst this; exact S.out.2.2.1))).mono ?_
      rintro e W2 ⟨z, rfl, hz, b2⟩
      have S2 : Hid (WB W2 bx y ∧ WB W2 (bx + 1) (0, 0) ∧ Below bx w W2) := Hid.intro ⟨S.out.1.below b2, S.out.2.1.below b2, S.out.2.2.1.trans (b2.mono (LE.out _ S.out.2.2.1))⟩
      clear b2 c0 c1
      rcases hz.find with ⟨i, rfl, il, m, hm, hl⟩ | ⟨rfl, hl⟩
      · have i0 : ¬ (i : Int) < 0 := by omega
        have T2 := HT.out.below (show Below w.heap.size w W2 by rw [HBX.out]; exact S2.out.2.2)
        have NX : Hid (Mo.snK T.ms (6 - (k + 1)) m.2 = Mo.sn T.ms x) := Hid.intro (by
          rw [← S.out.2.2.2, show 6 - k = (6 - (k + 1)) + 1 by omega, Mo.snK_some hl])
        rcases T2.row.form with ⟨_, e⟩ | ⟨g, cap, hv, hb, hg, hcap⟩
        · rw [e] at il; simp at il
        · have c3 := T2.c3
          rw [hv] at c3
          have r2 := T2.row
          rw [hv] at r2
          have d2 : W2.cell? ⟨g, i * 4 + 2, none⟩ = some (.int .i64 m.2.1) := r2.cell i 2 m hm (by omega)
          have d3 : W2.cell? ⟨g, i * 4 + 3, none⟩ = some (.int .i64 m.2.2) := r2.cell i 3 m hm (by omega)
          have x0 := S2.out.1.c0
          have x1 := S2.out.1.c1
          have xf := S2.out.1.fz
          have il' : (i : Int) < (T.ms.length : Int) := by omega
          have S3 : Hid (WB ((W2.setCell ⟨bx, 0, none⟩ (.int .i64 m.2.1)).setCell ⟨bx, 1, none⟩ (.int .i64 m.2.2)) bx m.2 ∧ WB ((W2.setCell ⟨bx, 0, none⟩ (.int .i64 m.2.1)).setCell ⟨bx, 1, none⟩ (.int .i64 m.2.2)) (bx + 1) (0, 0) ∧ Below bx w ((W2.setCell ⟨bx, 0, none⟩ (.int .i64 m.2.1)).setCell ⟨bx, 1, none⟩ (.int .i64 m.2.2))) := Hid.intro (by
            have := S2.out.1.set m.2
            exact ⟨this.1, S2.out.2.1.same (this.2.block _ S2.out.2.1.lt (by omega)), this.2.below S2.out.2.2 (Nat.le_refl _) (LE.out _ S2.out.2.2)⟩)
          clear hz hl hm hb hg hcap hv r2 T2
          go_wp2_with fail
          go_roundw
          case rel => exact ⟨k + 1, m.2, by go_num, by omega, Hid.intro ⟨S3.out.1, S3.out.2.1, S3.out.2.2, NX.out⟩⟩
          case measure => simp [intOf]; omega
      · have FIN : Hid (Mo.sn T.ms x = y) := Hid.intro (by rw [← S.out.2.2.2, Mo.snK_none hl])
        have x0 := S2.out.1.c0
        have x1 := S2.out.1.c1
        have y0 := S2.out.2.1.c0
        have y1 := S2.out.2.1.c1
        have yf := S2.out.2.1.fz
        have R := Hid.intro (RET.out W2 S2.out.2.1 S2.out.2.2)
        clear hz hl RET
        go_wp2_with fail
        generalize hWF : (W2.setCell ⟨bx + 1, 0, none⟩ (.int .i64 y.1)).setCell ⟨bx + 1, 1, none⟩ (.int .i64 y.2) = WF at R ⊢
        have z0 := R.out.1.c0
        have z1 := R.out.1.c1
        refine bodyPost_ret (v := .agg #[.int .i64 y.1, .int .i64 y.2]) (by simp [results, Tryz.f104, go_sem, z0, z1]) rfl ?_
        rw [FIN.out, HBX.out]
        exact ⟨rfl, R.out.2⟩
    · have hltI : ¬ (k : Int) < 6 := by omega
      have FIN : Hid (Mo.sn T.ms x = y) := Hid.intro (by rw [← S.out.2.2.2, show 6 - k = 0 by omega]; rfl)
      have x0 := S.out.1.c0
      have x1 := S.out.1.c1
      have y0 := S.out.2.1.c0
      have y1 := S.out.2.1.c1
      have yf := S.out.2.1.fz
      have R := Hid.intro (RET.out wr S.out.2.1 S.out.2.2.1)
      clear RET
      go_wp2_with fail
      generalize hWF : (wr.setCell ⟨bx + 1, 0, none⟩ (.int .i64 y.1)).setCell ⟨bx + 1, 1, none⟩ (.int .i64 y.2) = WF at R ⊢
      have z0 := R.out.1.c0
      have z1 := R.out.1.c1
      refine bodyPost_ret (v := .agg #[.int .i64 y.1, .int .i64 y.2]) (by simp [results, Tryz.f104, go_sem, z0, z1]) rfl ?_
      rw [FIN.out, HBX.out]
      exact ⟨rfl, R.out.2⟩
/-- Where a name leads. -/
def Mo.st (x : Wh) (K : Nat) (E : Int) : Wh := if E = 0 then (x.1, (K : Int)) else (0, 0)
set_option maxRecDepth 100000 in
set_option maxHeartbeats 2000000 in
theorem step_any (base b f : Nat) (T : Tb) (v : Value) (F : Fo) (x : Wh) (s : ByteArray) (w : World) (h : TAt w base b f T v) (hF : FAt w f F) (hs : Tr.SzOk F) :
    Calls Tryz.prog 90 #[.pointer (some ⟨b, 0, none⟩), .agg #[.int .i64 x.1, .int .i64 x.2], .string s] w fun e w' => ∃ (K : Nat) (E : Int), e = .returned (.tuple #[.agg #[.int .i64 (Mo.st x K E).1, .int .i64 (Mo.st x K E).2], errV E]) ∧ Tr.FndTo F x.2 s K E ∧ Below w.heap.size w w' := by
  have HT := Hid.intro (And.intro h hF)
  have HS := Hid.intro hs
  have BX := Hid.intro (boxes2 w x)
  clear h hF hs
  go_enter Tryz.func90, Tryz.ntmps90
  go_upto_region 1 with fail
  refine wp_gen (fun W' => WB W' w.heap.size x ∧ WB W' (w.heap.size + 1) (0, 0) ∧ Below w.heap.size w W') BX.out ?_
  intro W1 h1
  have S1 : Hid (WB W1 w.heap.size x ∧ WB W1 (w.heap.size + 1) (0, 0) ∧ Below w.heap.size w W1) := Hid.intro h1
  have T1 := Hid.intro (And.intro (HT.out.1.below h1.2.2) (HT.out.2.below h1.2.2))
  clear h1 BX
  obtain ⟨bx, hbx⟩ : ∃ bx, w.heap.size = bx := ⟨_, rfl⟩
  have HBX := Hid.intro hbx
  have LE : Hid (∀ W, Below bx w W → bx ≤ W.heap.size) := Hid.intro (fun W h => by have := h.size; rw [hbx] at this; exact this)
  rw [hbx] at S1 ⊢
  clear hbx HT
  have K0 : Hid (W1.cell? ⟨b, 0, none⟩ = some (.pointer (some ⟨f, 0, none⟩)) ∧ W1.cell? ⟨bx, 1, none⟩ = some (.int .i64 x.2)) := Hid.intro ⟨T1.out.1.c0, S1.out.1.c1⟩
  have KF : Hid (∀ w' : World, Below W1.heap.size W1 w' → w'.cell? ⟨b, 0, none⟩ = some (.pointer (some ⟨f, 0, none⟩)) ∧ w'.cell? ⟨bx, 1, none⟩ = some (.int .i64 x.2)) := Hid.intro (fun w' k => ⟨(T1.out.1.below k).c0, (S1.out.1.below k).c1⟩)
  go_upto_region 1 with fail
  go_region_held3 (fun w' => w'.cell? ⟨b, 0, none⟩ = some (.pointer (some ⟨f, 0, none⟩)) ∧ w'.cell? ⟨bx, 1, none⟩ = some (.int .i64 x.2)) (first | exact K0.out | exact K4.out) ((go_at_call 39; refine (tfind_any f x.2 s F _ T1.out.2.drew HS.out).mono ?_; rintro e w4 ⟨K, E, rfl, hf, b4⟩; have b5 : Below W1.heap.size W1 w4 := ⟨b4.os, b4.tape, b4.output, b4.size, b4.block⟩; have K4 := Hid.intro (KF.out w4 b5); have P4 : Hid (Tr.FndTo F x.2 s K E ∧ Below W1.heap.size W1 w4) := Hid.intro ⟨hf, b5⟩; clear hf b4 b5))
  have S4 : Hid (WB w4 bx x ∧ WB w4 (bx + 1) (0, 0) ∧ Below bx w w4) := Hid.intro ⟨S1.out.1.below P4.out.2, S1.out.2.1.below P4.out.2, S1.out.2.2.trans (P4.out.2.mono (LE.out _ S1.out.2.2))⟩
  have RET : Hid (∀ y : Wh, WB ((w4.setCell ⟨bx + 1, 0, none⟩ (.int .i64 y.1)).setCell ⟨bx + 1, 1, none⟩ (.int .i64 y.2)) (bx + 1) y ∧ Below bx w ((w4.setCell ⟨bx + 1, 0, none⟩ (.int .i64 y.1)).setCell ⟨bx + 1, 1, none⟩ (.int .i64 y.2))) := Hid.intro (fun y => by
    have := S4.out.2.1.set y
    exact ⟨this.1, this.2.below S4.out.2.2 (by omega) (LE.out _ S4.out.2.2)⟩)
  have y0 := S4.out.2.1.c0
  have y1 := S4.out.2.1.c1
  have yf := S4.out.2.1.fz
  have x0 := S4.out.1.c0
  by_cases e0 : E = 0
  · have R := Hid.intro (RET.out (x.1, (K : Int)))
    have FIN : Hid (Mo.st x K E = (x.1, (K : Int)) ∧ errV E = .nilIface) := Hid.intro ⟨if_pos e0, by rw [e0]; rfl⟩
    rw [FIN.out.2]
    clear e0 RET K4
    go_wp2_with fail
    generalize hWF : (w4.setCell ⟨bx + 1, 0, none⟩ (.int .i64 x.1)).setCell ⟨bx + 1, 1, none⟩ (.int .i64 (K : Int)) = WF at R ⊢
    have z0 := R.out.1.c0
    have z1 := R.out.1.c1
    refine bodyPost_ret (v := .tuple #[.agg #[.int .i64 x.1, .int .i64 (K : Int)], .nilIface]) (by simp [results, Tryz.f90, go_sem, z0, z1]) rfl ?_
    refine ⟨K, E, ?_, P4.out.1, by rw [HBX.out]; exact R.out.2⟩
    rw [FIN.out.1, FIN.out.2]
  · have R := Hid.intro (RET.out (0, 0))
    have FIN : Hid (Mo.st x K E = (0, 0) ∧ errV E = .iface 83 (.int .i64 E)) := Hid.intro ⟨if_neg e0, errV_ne e0⟩
    rw [FIN.out.2]
    clear e0 RET K4
    go_wp2_with fail
    generalize hWF : (w4.setCell ⟨bx + 1, 0, none⟩ (.int .i64 0)).setCell ⟨bx + 1, 1, none⟩ (.int .i64 0) = WF at R ⊢
    have z0 := R.out.1.c0
    have z1 := R.out.1.c1
    refine bodyPost_ret (v := .tuple #[.agg #[.int .i64 0, .int .i64 0], .iface 83 (.int .i64 E)]) (by simp [results, Tryz.f90, go_sem, z0, z1]) rfl ?_
    refine ⟨K, E, ?_, P4.out.1, by rw [HBX.out]; exact R.out.2⟩
    rw [FIN.out.1, FIN.out.2]
end Go.Proofs.YthdadmbpnoofoaaGreatDoor

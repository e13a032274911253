/- The law PipesSays. -/
import Derived.Test.YtddjjfapbbeahaaRa
import Derived.Test.YtddjjfapbbeahaaBt
import Derived.Deep.RegionHeld3
import Derived.Deep.CutRange
import Derived.Deep.CutBlock
namespace Go.Proofs.Ytddjjfapbbeahaa
open Go.RowKit
open Pp (Pi)

/-- The cells of an act that are asked for, in a block of its own. -/
def Pp.AcAt (W : World) (ba : Nat) (kd : ByteArray) (A B : Int) (On : Bool) (S1 : ByteArray) : Prop := ∃ C K T1, W.heap[ba]? = some (.cells #[.string kd, .int .i64 A, .int .i64 B, .int .i64 C, .int .u64 K, .bool On, .string S1, .string T1] 40 (0, 0))
section
variable {W W' : World} {ba b : Nat} {kd : ByteArray} {A B : Int} {On : Bool} {S1 : ByteArray}
theorem Pp.AcAt.frm (h : Pp.AcAt W ba kd A B On S1) (ne : ba ≠ b) (f : Frm b W W') : Pp.AcAt W' ba kd A B On S1 := by
  obtain ⟨C, K, T1, e⟩ := h
  exact ⟨C, K, T1, (f.block ba (Array.getElem?_eq_some_iff.1 e).1 ne).trans e⟩
theorem Pp.AcAt.below (h : Pp.AcAt W ba kd A B On S1) (f : Below W.heap.size W W') : Pp.AcAt W' ba kd A B On S1 := by
  obtain ⟨C, K, T1, e⟩ := h
  exact ⟨C, K, T1, (f.block ba (Array.getElem?_eq_some_iff.1 e).1).trans e⟩
theorem Pp.AcAt.cells (h : Pp.AcAt W ba kd A B On S1) : W.cell? ⟨ba, 1, none⟩ = some (.int .i64 A) ∧ W.cell? ⟨ba, 2, none⟩ = some (.int .i64 B) ∧ W.cell? ⟨ba, 5, none⟩ = some (.bool On) ∧ W.cell? ⟨ba, 6, none⟩ = some (.string S1) := by
  obtain ⟨C, K, T1, e⟩ := h
  exact ⟨act_cells e 1 _ rfl, act_cells e 2 _ rfl, act_cells e 5 _ rfl, act_cells e 6 _ rfl⟩
theorem Pp.AcAt.kind (h : Pp.AcAt W ba kd A B On S1) : W.cell? ⟨ba, 0, none⟩ = some (.string kd) := by
  obtain ⟨C, K, T1, e⟩ := h
  exact act_cells e 0 _ rfl
end
/-- Both sets, an act, and what is known. -/
def Pp.RS (w W : World) (b c ba : Nat) (kd : ByteArray) (A B : Int) (On : Bool) (S1 : ByteArray) (S R : Nat → Pi) : Prop := PX w W b c S R ∧ Pp.AcAt W ba kd A B On S1 ∧ ba ≠ b ∧ ba ≠ c
section
variable {w W W' : World} {b c ba : Nat} {kd : ByteArray} {A B : Int} {On : Bool} {S1 : ByteArray} {S R S' : Nat → Pi}
theorem Pp.RS.code (h : Pp.RS w W b c ba kd A B On S1 S R) (h1 : PAt W' b S') (f : Frm b W W') : Pp.RS w W' b c ba kd A B On S1 S' R := ⟨h.1.code h1 f, h.2.1.frm h.2.2.1 f, h.2.2⟩
theorem Pp.RS.ref (h : Pp.RS w W b c ba kd A B On S1 S R) (h1 : QAt W' c S') (f : Frm c W W') : Pp.RS w W' b c ba kd A B On S1 S S' := ⟨h.1.ref h1 f, h.2.1.frm h.2.2.2 f, h.2.2⟩
theorem Pp.RS.below (h : Pp.RS w W b c ba kd A B On S1 S R) (f : Below W.heap.size W W') : Pp.RS w W' b c ba kd A B On S1 S R := ⟨h.1.below f, h.2.1.below f, h.2.2⟩
theorem Pp.RS.small (h : Pp.RS w W b c ba kd A B On S1 S R) : ∀ n, n < 8 → (S n).tx.size ≤ 12 := h.1.2.1.small
end
theorem Pp.ofV_no {S : Nat → Pi} {z : Int} (h : Pp.pipE S z ≠ 0) : Pp.ofV S z = #[.int .i64 0, .int .i64 0, .int .i64 0, errV (Pp.pipE S z)] := if_neg h
theorem Pp.ofV_yes {S : Nat → Pi} {n : Nat} (h : Pp.pipE S (n : Int) = 0) : Pp.ofV S (n : Int) = #[.int .i64 ((S n).tx.size : Int), .int .i64 ((S n).reads : Int), .int .i64 ((S n).writes : Int), .nilIface] := by
  unfold Pp.ofV
  rw [if_pos h, Int.toNat_natCast]
theorem Pp.hy_sha (S : Nat → Pi) (A : Int) (On : Bool) : Pp.opE S A On = 0 → (Pp.tim (S A.toNat) On : Int) + 1 = ((Pp.tim (S A.toNat) On + 1 : Nat) : Int) := fun _ => by omega
theorem Pp.hy_dro (S : Nat → Pi) (A : Int) (On : Bool) : Pp.opE S A On = 0 → (Pp.tim (S A.toNat) On : Int) + (-1) = ((Pp.tim (S A.toNat) On - 1 : Nat) : Int) := fun h => by
  obtain ⟨n, rfl, _, _, t0⟩ := Pp.opE_ok h
  rw [Int.toNat_natCast]
  omega
theorem Pp.PI.cap {k : Nat} {S : Nat → Pi} (h : Pp.PI k S) (hk : k < 1000) (A : Int) (On : Bool) (h8 : Pp.opE S A On = 0) : Pp.tim (S A.toNat) On + 1 < 2 ^ 61 := by
  obtain ⟨n, rfl, n8, _, _⟩ := Pp.opE_ok h8
  rw [Int.toNat_natCast]
  have := h.tim hk On n n8
  omega
set_option maxRecDepth 100000 in
set_option maxHeartbeats 400000 in
theorem ps_far (a0 : Option Addr) (n0 c0 : Nat) (w : World) (h : 120 < n0) :
    Calls Try.prog 3 #[.slice a0 n0 c0] w fun e w' => e = .returned (.bool true) ∧ Below w.heap.size w w' := by
  have d : decide ((n0 : Int) ≤ 120) = false := by simp; omega
  go_enter Try.func3, Try.ntmps3
  go_wp2_with fail
  refine (flows_any _).mono ?_
  rintro e W1 ⟨rfl, b1⟩
  have S1 := Hid.intro b1
  clear b1
  go_wp2_with fail
  refine (light_any _ _ _ _ _).mono ?_
  rintro e W4 ⟨rfl, hW⟩
  subst W4
  rw [d]
  go_wp2_with fail
  go_ret
  exact ⟨rfl, S1.out⟩
set_option maxRecDepth 100000 in
set_option maxHeartbeats 8000000 in
theorem ps_near (a0 : Option Addr) (b0 o0 n0 c0 : Nat) (ax : Nat → Act8) (w : World) (hn : n0 ≤ 120) (ha : 0 < n0 → a0 = some ⟨b0, o0, none⟩) (hc : ∀ i, i < n0 → ∀ j, j < 8 → w.cell? ⟨b0, o0 + i * 8 + j, none⟩ = some ((ax i).cell j)) :
    Calls Try.prog 3 #[.slice a0 n0 c0] w fun e w' => e = .returned (.bool true) ∧ Below w.heap.size w w' := by
  have d : decide ((n0 : Int) ≤ 120) = true := by simp; omega
  have H0 := Hid.intro hc
  have HA := Hid.intro ha
  clear hc ha
  go_enter Try.func3, Try.ntmps3
  go_wp2_with fail
  refine (flows_any _).mono ?_
  rintro e W1 ⟨rfl, b1⟩
  have B1 := Hid.intro b1
  clear b1
  go_wp2_with fail
  refine (light_any _ _ _ _ _).mono ?_
  rintro e W4 ⟨rfl, hW⟩
  subst W4
  rw [d]
  clear d
  go_upto_region 5 with (refine Pp.wp_buildS rfl rfl ?_)
  refine wp_gen (fun W' => PAt W' W1.heap.size Pp.nul ∧ Below W1.heap.size W1 W') (pzero_alloc W1) ?_
  rintro W2 ⟨f2, b2⟩
  have F2 := Hid.intro f2
  have B2 := Hid.intro b2
  clear f2 b2
  go_upto_region 6 with fail
  refine wp_gen (fun W' => PX w W' W1.heap.size W2.heap.size Pp.nul Pp.nul) (by
    have bb := (Below.refl W2.heap.size W2).alloc (Nat.le_refl _) (.cells Pp.zR 37)
    exact ⟨(B1.out.trans (B2.out.mono B1.out.size)).trans (bb.mono (Nat.le_trans B1.out.size B2.out.size)), F2.out.below bb F2.out.lt, QAt.zero (heap_alloc_new W2 _), B1.out.size, Nat.le_trans B1.out.size B2.out.size, Nat.ne_of_lt F2.out.lt⟩) ?_
  rintro W3 hx
  have G0 := Hid.intro hx
  clear hx B1 B2 F2
  generalize W1.heap.size = b at *
  generalize W2.heap.size = c at *
  go_wp2_with fail
  go_loopw [6, 7, 8, 9, 10, 11, 12, 13, 14, 15, 16, 17, 18, 19, 20, 21, 22, 23, 24, 25] (fun i _ _ _ _ _ _ _ _ _ _ _ _ _ _ _ _ _ _ _ wr => ∃ (j : Nat) (S : Nat → Pi), i = .int .i64 j ∧ j ≤ n0 ∧ Hid (Pp.PI j S) ∧ Hid (PX w wr b c S S)) (fun i _ _ _ _ _ _ _ _ _ _ _ _ _ _ _ _ _ _ _ _ => n0 - (intOf i).toNat)
  case atStart => exact ⟨0, Pp.nul, rfl, by omega, Hid.intro Pp.PI.nul, G0⟩
  case round =>
    clear G0
    obtain ⟨j, S, rfl, hj, HP, G⟩ := hrel
    by_cases hlt : j < n0
    · have hltI : (j : Int) < (n0 : Int) := by omega
      have HJ : Hid (j < 900) := Hid.intro (by omega)
      obtain ⟨kd, A, B, C, K, On, S1, T1, hax⟩ : ∃ kd A B C K On S1 T1, ax j = ⟨kd, A, B, C, K, On, S1, T1⟩ := ⟨_, _, _, _, _, _, _, _, rfl⟩
      have bl : b0 < w.heap.size := World.block_lt_of_cell? _ _ (H0.out j hlt 0 (by omega))
      have hae := HA.out (by omega)
      subst hae
      have cl : ∀ i, i < 8 → wr.cell? ⟨b0, o0 + j * 8 + i, none⟩ = some ((⟨kd, A, B, C, K, On, S1, T1⟩ : Act8).cell i) := fun i hi => by
        rw [← hax]; exact (G.out.1.cell (p := ⟨b0, o0 + j * 8 + i, none⟩) bl).trans (H0.out j hlt i hi)
      have c0' : wr.cell? ⟨b0, o0 + j * 8, none⟩ = some (.string kd) := cl 0 (by omega)
      have c1 : wr.cell? ⟨b0, o0 + j * 8 + 1, none⟩ = some (.int .i64 A) := cl 1 (by omega)
      have c2 : wr.cell? ⟨b0, o0 + j * 8 + 2, none⟩ = some (.int .i64 B) := cl 2 (by omega)
      have c3 : wr.cell? ⟨b0, o0 + j * 8 + 3, none⟩ = some (.int .i64 C) := cl 3 (by omega)
      have c4 : wr.cell? ⟨b0, o0 + j * 8 + 4, none⟩ = some (.int .u64 K) := cl 4 (by omega)
      have c5 : wr.cell? ⟨b0, o0 + j * 8 + 5, none⟩ = some (.bool On) := cl 5 (by omega)
      have c6 : wr.cell? ⟨b0, o0 + j * 8 + 6, none⟩ = some (.string S1) := cl 6 (by omega)
      have c7 : wr.cell? ⟨b0, o0 + j * 8 + 7, none⟩ = some (.string T1) := cl 7 (by omega)
      clear cl hax bl
      go_upto_region 10 with fail
      refine wp_gen (fun W' => Pp.RS w W' b c wr.heap.size kd A B On S1 S S) ⟨G.out.below ((Below.refl _ _).alloc (Nat.le_refl _) _), ⟨C, K, T1, heap_alloc_new wr _⟩, Nat.ne_of_gt G.out.size.1, Nat.ne_of_gt G.out.size.2⟩ ?_
      rintro W1 hG1
      have G1 := Hid.intro hG1
      clear c0' c1 c2 c3 c4 c5 c6 c7 G hG1
      generalize wr.heap.size = ba at *
      have x0 := G1.out.2.1.kind
      have x6 := G1.out.2.1.cells.2.2.2
      by_cases big : 100 < (S1.size : Int)
      · go_wp2_with fail
        go_ret
        exact ⟨rfl, G1.out.1.1⟩
      · have HL : Hid (S1.size ≤ 100) := Hid.intro (by omega)
        go_upto_block 2 with fail
        go_cut [8, 9, 10, 11, 12, 13, 14, 15, 16, 17, 18, 19, 20] from 39 to 240 (fun ok _ _ _ _ _ _ _ _ _ _ _ _ wx => ∃ S2, ok = .bool true ∧ Hid (Pp.PI (j + 1) S2) ∧ Hid (Pp.RS w wx b c ba kd A B On S1 S2 S2))
        case first =>
          by_cases m0 : (kd.toList == [109, 97, 107, 101]) = true
          · as_aux_lemma =>
              go_wp2_with fail
              refine (pmake_any b S _ G1.out.1.2.1).mono ?_
              rintro e W3 ⟨m3, E3, rfl, f3, h3, r3⟩
              have G3 := Hid.intro (G1.out.code h3 r3)
              have F3 := Hid.intro f3
              clear h3 r3 f3 G1
              go_wp2_with fail
              refine (qmake_any c S _ G3.out.1.2.2.1 (HP.out.sm (by have := HJ.out; omega)) HP.out.2).mono ?_
              rintro e W5 ⟨m5, E5, rfl, f5, h5, r5⟩
              obtain ⟨rfl, rfl⟩ := F3.out.unique f5
              have G5 := Hid.intro (G3.out.ref h5 r5)
              have P5 := Hid.intro (HP.out.mak (n := m3) (E := E3))
              have SA := Hid.intro (same_any E3 F3.out.nn)
              clear h5 r5 f5 G3 F3
              generalize Pp.makF S m3 E3 = S2 at *
              generalize errV E3 = ev at *
              obtain ⟨kk1, kk2, kk3, kk4⟩ := G5.out.2.1.cells
              go_wp2_with (go_at_call 9; refine (SA.out _).mono ?_; rintro e w6 ⟨rfl, hw6⟩; subst w6)
              go_meet
              case rel => exact ⟨S2, rfl, P5, G5⟩
          · have m0' : (kd.toList == [109, 97, 107, 101]) = false := by simpa using m0
            clear m0
            by_cases m1 : (kd.toList == [115, 104, 97, 114, 101]) = true
            · as_aux_lemma =>
                have K0 := Hid.intro G1.out.2.1.cells
                go_wp2_with fail
                go_region_held3 (fun w' => w'.cell? ⟨ba, 1, none⟩ = some (.int .i64 A) ∧ w'.cell? ⟨ba, 2, none⟩ = some (.int .i64 B) ∧ w'.cell? ⟨ba, 5, none⟩ = some (.bool On) ∧ w'.cell? ⟨ba, 6, none⟩ = some (.string S1)) (first | exact K0.out | exact K4.out | exact K5.out | exact K6.out) ((first | (go_at_call 10; refine (pshare_any b A On S _ G1.out.1.2.1.drew (HP.out.tim (by have := HJ.out; omega) On)).mono ?_; rintro e w4 ⟨rfl, u4, f4⟩; have f4' : Frm b W1 w4 := ⟨f4.os, f4.tape, f4.output, f4.size, f4.block⟩; have C4 := Hid.intro (G1.out.code u4 f4'); have K4 := Hid.intro C4.out.2.1.cells; clear u4 f4 f4') | (go_at_call 11; refine (qturn_any c A On 1 (Pp.tim (S A.toNat) On + 1) S _ C4.out.1.2.2.1 (HP.out.sm (by have := HJ.out; omega)) (HP.out.cap (by have := HJ.out; omega) A On) (Pp.hy_sha S A On)).mono ?_; rintro e w5 ⟨rfl, u5, f5⟩; rw [Pp.tur_sha] at u5; have C5 := Hid.intro (C4.out.ref u5 f5); have K5 := Hid.intro C5.out.2.1.cells; clear u5 f5) | (go_at_call 9; refine (same_any _ (Pp.opE_nn S A On) _).mono ?_; rintro e w6 ⟨rfl, hw6⟩; subst w6; have K6 := K5)))
                have G5 := C5
                have P5 := Hid.intro (HP.out.sha A On)
                clear C4 C5 K0 K4 K5 K6 G1
                generalize Pp.opE S A On = ee at *
                generalize Pp.shaF S A On = S2 at *
                obtain ⟨kk1, kk2, kk3, kk4⟩ := G5.out.2.1.cells
                go_wp2_with fail
                go_meet
                case rel => exact ⟨S2, rfl, P5, G5⟩
            · have m1' : (kd.toList == [115, 104, 97, 114, 101]) = false := by simpa using m1
              clear m1
              by_cases m2 : (kd.toList == [100, 114, 111, 112]) = true
              · as_aux_lemma =>
                  have K0 := Hid.intro G1.out.2.1.cells
                  go_wp2_with fail
                  go_region_held3 (fun w' => w'.cell? ⟨ba, 1, none⟩ = some (.int .i64 A) ∧ w'.cell? ⟨ba, 2, none⟩ = some (.int .i64 B) ∧ w'.cell? ⟨ba, 5, none⟩ = some (.bool On) ∧ w'.cell? ⟨ba, 6, none⟩ = some (.string S1)) (first | exact K0.out | exact K4.out | exact K5.out | exact K6.out) ((first | (go_at_call 12; refine (pdrop_any b A On S _ G1.out.1.2.1.drew (HP.out.tim (by have := HJ.out; omega) On)).mono ?_; rintro e w4 ⟨rfl, u4, f4⟩; have f4' : Frm b W1 w4 := ⟨f4.os, f4.tape, f4.output, f4.size, f4.block⟩; have C4 := Hid.intro (G1.out.code u4 f4'); have K4 := Hid.intro C4.out.2.1.cells; clear u4 f4 f4') | (go_at_call 11; refine (qturn_any c A On (-1) (Pp.tim (S A.toNat) On - 1) S _ C4.out.1.2.2.1 (HP.out.sm (by have := HJ.out; omega)) (fun h => Nat.lt_of_le_of_lt (Nat.le_trans (Nat.sub_le _ 1) (Nat.le_succ _)) (HP.out.cap (by have := HJ.out; omega) A On h)) (Pp.hy_dro S A On)).mono ?_; rintro e w5 ⟨rfl, u5, f5⟩; rw [Pp.tur_dro] at u5; have C5 := Hid.intro (C4.out.ref u5 f5); have K5 := Hid.intro C5.out.2.1.cells; clear u5 f5) | (go_at_call 9; refine (same_any _ (Pp.opE_nn S A On) _).mono ?_; rintro e w6 ⟨rfl, hw6⟩; subst w6; have K6 := K5)))
                  have G5 := C5
                  have P5 := Hid.intro (HP.out.dro A On)
                  clear C4 C5 K0 K4 K5 K6 G1
                  generalize Pp.opE S A On = ee at *
                  generalize Pp.droF S A On = S2 at *
                  obtain ⟨kk1, kk2, kk3, kk4⟩ := G5.out.2.1.cells
                  go_wp2_with fail
                  go_meet
                  case rel => exact ⟨S2, rfl, P5, G5⟩
              · have m2' : (kd.toList == [100, 114, 111, 112]) = false := by simpa using m2
                clear m2
                by_cases m3 : (kd.toList == [114, 101, 97, 100]) = true
                · as_aux_lemma =>
                    have K1 := G1.out.2.1.cells
                    go_wp2_with fail
                    refine (pread_any b A B S _ G1.out.1.2.1).mono ?_
                    rintro e W3 ⟨rfl, h3, r3⟩
                    have G3 := Hid.intro (G1.out.code h3 r3)
                    clear h3 r3 K1
                    have K3 := G3.out.2.1.cells
                    go_wp2_with fail
                    refine (qread_any c A B S _ G3.out.1.2.2.1 (HP.out.sm (by have := HJ.out; omega)) G1.out.small).mono ?_
                    rintro e W5 ⟨rfl, h5, r5⟩
                    have G5 := Hid.intro (G3.out.ref h5 r5)
                    have P5 := Hid.intro (HP.out.rea A B)
                    have SA := Hid.intro (same_any (Pp.reaE S A B) (Pp.reaE_nn S A B))
                    clear h5 r5 G3 K3 G1
                    generalize Pp.reaF S A B = S2 at *
                    generalize Pp.reaT S A B = rv at *
                    generalize Pp.reaE S A B = ee at *
                    generalize errV ee = ev at *
                    obtain ⟨kk1, kk2, kk3, kk4⟩ := G5.out.2.1.cells
                    go_wp2_with (go_at_call 9; refine (SA.out _).mono ?_; rintro e w6 ⟨rfl, hw6⟩; subst w6)
                    go_meet
                    case rel => exact ⟨S2, rfl, P5, G5⟩
                · have m3' : (kd.toList == [114, 101, 97, 100]) = false := by simpa using m3
                  clear m3
                  as_aux_lemma =>
                    have K1 := G1.out.2.1.cells
                    go_wp2_with fail
                    refine (pwrite_any b A S1 S _ G1.out.1.2.1 (by have := HL.out; omega)).mono ?_
                    rintro e W3 ⟨rfl, h3, r3⟩
                    have G3 := Hid.intro (G1.out.code h3 r3)
                    clear h3 r3 K1
                    have K3 := G3.out.2.1.cells
                    go_wp2_with fail
                    refine (qwrite_any c A S1 S _ G3.out.1.2.2.1 (HP.out.sm (by have := HJ.out; omega)) G1.out.small (by have := HL.out; omega)).mono ?_
                    rintro e W5 ⟨rfl, h5, r5⟩
                    have G5 := Hid.intro (G3.out.ref h5 r5)
                    have P5 := Hid.intro (HP.out.wri A S1)
                    have SA := Hid.intro (same_any (Pp.wriE S A S1) (Pp.wriE_nn S A S1))
                    clear h5 r5 G3 K3 G1
                    generalize Pp.wriF S A S1 = S2 at *
                    generalize Pp.wriK S A S1 = rv at *
                    generalize Pp.wriE S A S1 = ee at *
                    generalize errV ee = ev at *
                    obtain ⟨kk1, kk2, kk3, kk4⟩ := G5.out.2.1.cells
                    go_wp2_with (go_at_call 9; refine (SA.out _).mono ?_; rintro e w6 ⟨rfl, hw6⟩; subst w6)
                    go_meet
                    case rel => exact ⟨S2, rfl, P5, G5⟩
        case rest =>
          obtain ⟨S2, rfl, P5, G5⟩ := hcut
          clear G1 HP x0 x6
          obtain ⟨kk1, kk2, kk3, kk4⟩ := G5.out.2.1.cells
          go_wp2_with fail
          as_aux_lemma =>
            refine (pof_any b A S2 _ G5.out.1.2.1).mono ?_
            rintro e W6 ⟨rfl, _, b6⟩
            have G6 := Hid.intro (G5.out.below b6)
            clear b6 G5 kk1 kk2 kk3 kk4
            obtain ⟨kk1, kk2, kk3, kk4⟩ := G6.out.2.1.cells
            by_cases pz : Pp.pipE S2 A = 0
            · obtain ⟨n, rfl, n8, _⟩ := Pp.pipE_ok pz
              have n8i : (n : Int) < 8 := by omega
              have PZ := Hid.intro pz
              rw [Pp.ofV_yes pz]
              clear pz
              go_wp2_with fail
              refine (qis_any c n S2 _ G6.out.1.2.2.1 (P5.out.sm (by have := HJ.out; omega))).mono ?_
              rintro e W7 ⟨rfl, q, hW7⟩
              subst W7
              rw [PZ.out]
              have G7 := Hid.intro (G6.out.below (Pp.below_drewN _ W6 q))
              clear kk1 kk2 kk3 kk4 G6
              generalize W6.drewN q = W7 at *
              go_wp2_with (go_at_call 9; refine (same_nil _).mono ?_; rintro e w6 ⟨rfl, hw6⟩; subst w6)
              refine (ppipes_any b S2 _ G7.out.1.2.1).mono ?_
              rintro e W8 ⟨rfl, hW⟩
              subst W8
              go_wp2_with fail
              refine (qpipes_any c S2 _ G7.out.1.2.2.1 (P5.out.sm (by have := HJ.out; omega))).mono ?_
              rintro e W8 ⟨rfl, q2, hW8⟩
              subst W8
              have G8 := Hid.intro (G7.out.below (Pp.below_drewN _ W7 q2))
              clear G7
              generalize W7.drewN q2 = W8 at *
              generalize Pp.cnt S2 8 = cn
              have K8 := G8.out.2.1.cells
              have r1 := G8.out.1.2.2.1.tx n n8
              have r2 := G8.out.1.2.2.1.reads n n8
              have r3 := G8.out.1.2.2.1.writes n n8
              generalize (S2 n).tx = tx at *
              generalize (S2 n).reads = rd at *
              generalize (S2 n).writes = wt at *
              obtain ⟨k1, k2, k3, k4⟩ := K8
              go_upto_region 33 with fail
              go_big_quiet (fail)
              have G9 := Hid.intro (G8.out.1.below (Pp.below_drewN _ W8 nq))
              clear k1 k2 k3 k4 r1 r2 r3 G8
              go_wp2_with fail
              go_roundw
              case rel => exact ⟨j + 1, S2, by go_num, by omega, P5, G9⟩
              case measure => simp [intOf]; omega
            · have p0 : 0 < Pp.pipE S2 A := by have := Pp.pipE_nn S2 A; omega
              have EV := Hid.intro (errV_ne pz)
              have NN := Hid.intro (Pp.pipE_nn S2 A)
              have SE := Hid.intro (same_err (Pp.pipE S2 A) p0)
              have QI := Hid.intro (qis_any c A S2 W6 G6.out.1.2.2.1 (P5.out.sm (by have := HJ.out; omega)))
              rw [Pp.ofV_no pz, EV.out]
              have p1 : (Pp.pipE S2 A == 0) = false := by simpa using pz
              generalize Pp.pipE S2 A = pe at *
              clear pz
              go_wp2_with fail
              refine QI.out.mono ?_
              rintro e W7 ⟨rfl, q, hW7⟩
              subst W7
              have G7 := Hid.intro (G6.out.below (Pp.below_drewN _ W6 q))
              clear kk1 kk2 kk3 kk4 G6 QI
              generalize W6.drewN q = W7 at *
              go_wp2_with (go_at_call 9; refine (SE.out _).mono ?_; rintro e w6 ⟨rfl, hw6⟩; subst w6)
              refine (ppipes_any b S2 _ G7.out.1.2.1).mono ?_
              rintro e W8 ⟨rfl, hW⟩
              subst W8
              go_wp2_with fail
              refine (qpipes_any c S2 _ G7.out.1.2.2.1 (P5.out.sm (by have := HJ.out; omega))).mono ?_
              rintro e W8 ⟨rfl, q2, hW8⟩
              subst W8
              have G8 := Hid.intro (G7.out.below (Pp.below_drewN _ W7 q2))
              clear G7
              generalize W7.drewN q2 = W8 at *
              generalize Pp.cnt S2 8 = cn
              go_upto_region 33 with fail
              go_big_quiet (fail)
              have G9 := Hid.intro (G8.out.1.below (Pp.below_drewN _ W8 nq))
              clear G8
              go_wp2_with fail
              go_roundw
              case rel => exact ⟨j + 1, S2, by go_num, by omega, P5, G9⟩
              case measure => simp [intOf]; omega
    · have hltI : ¬ (j : Int) < (n0 : Int) := by omega
      obtain rfl : j = n0 := by omega
      go_wp2_with fail
      go_ret
      exact ⟨rfl, G.out.1⟩
theorem ps_any (a0 : Option Addr) (n0 c0 : Nat) (w : World) (h : IsActs0 w a0 n0) :
    Calls Try.prog 3 #[.slice a0 n0 c0] w fun e w' => e = .returned (.bool true) ∧ Below w.heap.size w w' := by
  by_cases hn : n0 ≤ 120
  · by_cases h0 : 0 < n0
    · obtain ⟨b0, o0, ax, ha, hc⟩ := h.2 h0
      exact ps_near a0 b0 o0 n0 c0 ax w hn (fun _ => ha) hc
    · exact ps_near a0 0 0 n0 c0 (fun _ => ⟨⟨#[]⟩, 0, 0, 0, 0, false, ⟨#[]⟩, ⟨#[]⟩⟩) w hn (fun h => absurd h h0) (fun i hi => absurd hi (by omega))
  · exact ps_far a0 n0 c0 w (by omega)
end Go.Proofs.Ytddjjfapbbeahaa

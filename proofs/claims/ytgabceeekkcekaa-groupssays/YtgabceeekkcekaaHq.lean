/- The walk of the law GroupsSays. -/
import Derived.Test.YtgabceeekkcekaaHo
import Derived.Deep.RegionHeld3
import Derived.Deep.CutRange
import Derived.Deep.CutBlock
import Derived.Deep.DeepCutAuto
namespace Go.Proofs.Ytgabceeekkcekaa
open Go.RowKit Go.Shelf

set_option maxRecDepth 100000 in
set_option maxHeartbeats 400000 in
theorem gs_far (a0 : Option Addr) (n0 c0 : Nat) (w : World) (h : 100 < n0) :
    Calls Try.prog 4 #[.slice a0 n0 c0] w fun e w' => e = .returned (.bool true) ∧ Below w.heap.size w w' := by
  have d : decide ((n0 : Int) ≤ 100) = false := by simp; omega
  go_enter Try.func4, Try.ntmps4
  go_wp2_with fail
  refine (trees_any _).mono ?_
  rintro e W1 ⟨rfl, hb⟩
  have HB := Hid.intro hb
  clear hb
  go_wp2_with fail
  refine (light_any _ _ _ _ _).mono ?_
  rintro e W2 ⟨rfl, rfl⟩
  rw [d]
  go_wp2
  go_ret
  exact ⟨rfl, HB.out⟩

theorem natmax1 (n : Nat) : (if (0 : Int) > (n : Int) then (0 : Int) else (n : Int)) = n := if_neg (by omega)
theorem natmax2 (n : Nat) : (if (0 : Int) ≤ (n : Int) then (n : Int) else (0 : Int)) = n := if_pos (by omega)
theorem natmax3 (n : Nat) : (if (n : Int) < (0 : Int) then (0 : Int) else (n : Int)) = n := if_neg (by omega)
theorem natge (n : Nat) : decide ((0 : Int) ≤ (n : Int)) = true := decide_eq_true (by omega)
section
attribute [local go_sem] natmax1 natmax2 natmax3 natge
set_option maxRecDepth 100000 in
set_option maxHeartbeats 8000000 in
theorem gs_near (b0 o0 n0 c0 : Nat) (ax : Nat → Act8) (w : World) (h0 : ∀ i, i < n0 → ∀ j, j < 8 → w.cell? ⟨b0, o0 + i * 8 + j, none⟩ = some ((ax i).cell j)) (hn : n0 ≤ 100) :
    Calls Try.prog 4 #[.slice (some ⟨b0, o0, none⟩) n0 c0] w fun e w' => e = .returned (.bool true) ∧ Below w.heap.size w w' := by
  have d : decide ((n0 : Int) ≤ 100) = true := by simp; omega
  have H0 : Hid (∀ i, i < n0 → ∀ j, j < 8 → w.cell? ⟨b0, o0 + i * 8 + j, none⟩ = some ((ax i).cell j)) := h0
  clear h0
  go_enter Try.func4, Try.ntmps4
  go_wp2_with fail
  refine (trees_any _).mono ?_
  rintro e W1 ⟨rfl, hb1⟩
  have HB := Hid.intro hb1
  clear hb1
  go_wp2_with fail
  refine (light_any _ _ _ _ _).mono ?_
  rintro e W2 ⟨rfl, hW2⟩
  subst W2
  rw [d]
  go_wp2_with fail
  refine (new_any _).mono ?_
  rintro e W2 ⟨rfl, hT2, hb2⟩
  have H2 := Hid.intro (And.intro hT2 hb2)
  clear hT2 hb2
  go_wp2_with fail
  refine (newTree_any _).mono ?_
  rintro e W3 ⟨rfl, hU3, hb3⟩
  have S0 := Hid.intro (sx_start H2.out.1 HB.out H2.out.2 hU3 hb3)
  clear hU3 hb3 H2 HB d
  generalize W1.heap.size = b at *
  generalize W2.heap.size = m at *
  go_wp2_with fail
  go_loopw [6] (fun i wr => ∃ (k : Nat) (t : Nat → Gp) (Wy : Nat → List (Fin 10)) (h : Nat → Bool) (G : Nat → Nat → Int), i = .int .i64 k ∧ k ≤ n0 ∧ Hid (Sx w wr b m t Wy k h G)) (fun i _ => n0 - (intOf i).toNat)
  case atStart => exact ⟨0, t0, W0, _, _, rfl, by omega, S0⟩
  case round =>
    clear S0
    obtain ⟨k, t, Wy, h, G, rfl, hk, S⟩ := hrel
    by_cases hlt : k < n0
    · have hltI : (k : Int) < (n0 : Int) := by omega
      obtain ⟨kd, P, Q, R, K, On, S1, T1, hax⟩ : ∃ kd A B C K On S1 T1, ax k = ⟨kd, A, B, C, K, On, S1, T1⟩ := ⟨_, _, _, _, _, _, _, _, rfl⟩
      have bl : b0 < w.heap.size := World.block_lt_of_cell? _ _ (H0.out k hlt 0 (by omega))
      have cl : ∀ j, j < 8 → wr.cell? ⟨b0, o0 + k * 8 + j, none⟩ = some ((⟨kd, P, Q, R, K, On, S1, T1⟩ : Act8).cell j) := fun j hj => by
        rw [← hax]; exact (S.out.bel.cell (p := ⟨b0, o0 + k * 8 + j, none⟩) bl).trans (H0.out k hlt j hj)
      have c0' : wr.cell? ⟨b0, o0 + k * 8, none⟩ = some (.string kd) := cl 0 (by omega)
      have c1 : wr.cell? ⟨b0, o0 + k * 8 + 1, none⟩ = some (.int .i64 P) := cl 1 (by omega)
      have c2 : wr.cell? ⟨b0, o0 + k * 8 + 2, none⟩ = some (.int .i64 Q) := cl 2 (by omega)
      have c3 : wr.cell? ⟨b0, o0 + k * 8 + 3, none⟩ = some (.int .i64 R) := cl 3 (by omega)
      have c4 : wr.cell? ⟨b0, o0 + k * 8 + 4, none⟩ = some (.int .u64 K) := cl 4 (by omega)
      have c5 : wr.cell? ⟨b0, o0 + k * 8 + 5, none⟩ = some (.bool On) := cl 5 (by omega)
      have c6 : wr.cell? ⟨b0, o0 + k * 8 + 6, none⟩ = some (.string S1) := cl 6 (by omega)
      have c7 : wr.cell? ⟨b0, o0 + k * 8 + 7, none⟩ = some (.string T1) := cl 7 (by omega)
      clear cl hax bl
      go_upto_region 10 with fail
      have hmw : m < wr.heap.size := S.out.uat.lt
      have hbm : b < m := S.out.lt
      refine wp_gen (fun W' => Sx w W' b m t Wy k h G ∧ W'.heap[wr.heap.size]? = some (.cells #[.string kd, .int .i64 P, .int .i64 Q, .int .i64 R, .int .u64 K, .bool On, .string S1, .string T1] 36 (0, 0))) ⟨S.out.alloc _, heap_alloc_new wr _⟩ ?_
      rintro W3 ⟨hS3, hbx⟩
      clear c0' c1 c2 c3 c4 c5 c6 c7 S
      generalize wr.heap.size = ba at *
      have S3 := Hid.intro hS3
      have BX := Hid.intro hbx
      have HBA : Hid (ba < W3.heap.size ∧ ba ≠ b ∧ ba ≠ m) := ⟨(Array.getElem?_eq_some_iff.1 hbx).1, by omega, by omega⟩
      have x0 : W3.cell? ⟨ba, 0, none⟩ = some (.string kd) := by rw [heap_cell BX.out]; rfl
      have x1 : W3.cell? ⟨ba, 1, none⟩ = some (.int .i64 P) := by rw [heap_cell BX.out]; rfl
      have x2 : W3.cell? ⟨ba, 2, none⟩ = some (.int .i64 Q) := by rw [heap_cell BX.out]; rfl
      have x3 : W3.cell? ⟨ba, 3, none⟩ = some (.int .i64 R) := by rw [heap_cell BX.out]; rfl
      have x4 : W3.cell? ⟨ba, 4, none⟩ = some (.int .u64 K) := by rw [heap_cell BX.out]; rfl
      clear hS3 hbx
      go_upto_block 2 with fail
      go_cut [8, 9, 10, 11, 12, 13, 14, 15, 16] from 40 to 199 (fun s8 _ _ _ _ _ _ _ _ wc => s8 = .bool true ∧ ∃ t' Wy' h' G', Hid (Sx w wc b m t' Wy' (k + 1) h' G'))
      case first =>
        by_cases k1 : (kd.toList == [97, 100, 100]) = true
        · as_aux_lemma =>
          go_wp2_with fail
          refine (add_code b P _ S3.out.tat S3.out.tree).mono ?_
          rintro e W4 ⟨n4, k4, t4, rfl, ha4, ht4, hf4⟩
          have y1 : W4.cell? ⟨ba, 1, none⟩ = some (.int .i64 P) := (World.cell?_of_block (hf4.block ba HBA.out.1 HBA.out.2.1)).trans x1
          have P4 := Hid.intro (And.intro ha4 (And.intro ht4 hf4))
          clear ha4 ht4 hf4 x0 x1 x2 x3 x4
          go_wp2_with fail
          refine (radd_code m P _ (S3.out.uat' P4.out.2.2) S3.out.tree S3.out.rel S3.out.lim).mono ?_
          rintro e W5 ⟨n5, k5, t5, rfl, ha5, hk5, hf5, Wy5, h5, G5, hu5, hT5, hR5, hl5⟩
          obtain ⟨rfl, rfl, rfl⟩ := addA_unique P4.out.1 ha5
          have P5 := Hid.intro (And.intro hk5 (S3.out.step P4.out.2.2 P4.out.2.1 hf5 hu5 (hT5.mono (show k ≤ k + 1 by omega)) hR5 hl5))
          clear ha5 hk5 hf5 hu5 hT5 hR5 hl5 y1
          go_wp2_with (go_at_call 9; refine (same_any _ P5.out.1 _).mono ?_; rintro e w' ⟨rfl, rfl⟩)
          go_meet
          case rel => exact ⟨rfl, _, _, _, _, P5.out.2⟩
        · have k1' : (kd.toList == [97, 100, 100]) = false := by simpa using k1
          clear k1
          by_cases k2 : (kd.toList == [114, 101, 109, 111, 118, 101]) = true
          · as_aux_lemma =>
            go_wp2_with fail
            go_region_held3 (fun w' => w'.cell? ⟨ba, 1, none⟩ = some (.int .i64 P)) (go_keep) ((first | (go_at_call 25; refine (remove_code b P _ S3.out.tat.drew S3.out.tree (by omega)).mono ?_; rintro e w4 ⟨rfl, ht4, hf4⟩; have y1 : w4.cell? ⟨ba, 1, none⟩ = some (.int .i64 P) := (World.cell?_of_block (hf4.block ba HBA.out.1 HBA.out.2.1)).trans x1; have P4 : Hid (TAt w4 b (remT t Wy P) ∧ Frm b W3 w4) := ⟨ht4, ((Frm.refl b W3).drew).trans hf4⟩; clear ht4 hf4) | (go_at_call 26; refine (rremove_code m P _ (S3.out.uat' P4.out.2) S3.out.rel).mono ?_; rintro e w5 ⟨rfl, hu5, hf5⟩; have z1 : w5.cell? ⟨ba, 1, none⟩ = some (.int .i64 P) := (World.cell?_of_block (hf5.block ba (Nat.lt_of_lt_of_le HBA.out.1 P4.out.2.size) HBA.out.2.2)).trans y1; have P5 : Hid (UAt w5 m (remH t Wy P h) G ∧ Frm m w4 w5) := ⟨hu5, hf5⟩; clear hu5 hf5) | (go_at_call 9; refine (same_any _ (remE_ge t Wy P) _).mono ?_; rintro e w' ⟨rfl, rfl⟩)))
            go_wp2_with fail
            go_meet
            case rel => exact ⟨rfl, _, _, _, _, S3.out.step P4.out.2 P4.out.1 P5.out.2 P5.out.1 ((rem_tree S3.out.tree S3.out.rel S3.out.lim P).1.mono (show k ≤ k + 1 by omega)) (rem_tree S3.out.tree S3.out.rel S3.out.lim P).2.1 (rem_tree S3.out.tree S3.out.rel S3.out.lim P).2.2⟩
          · have k2' : (kd.toList == [114, 101, 109, 111, 118, 101]) = false := by simpa using k2
            clear k2
            by_cases k3 : (kd.toList == [108, 105, 109, 105, 116]) = true
            · as_aux_lemma =>
              go_wp2_with fail
              go_region_held3 (fun w' => w'.cell? ⟨ba, 1, none⟩ = some (.int .i64 P) ∧ w'.cell? ⟨ba, 2, none⟩ = some (.int .i64 Q) ∧ w'.cell? ⟨ba, 3, none⟩ = some (.int .i64 R)) (go_keep) ((first | (go_at_call 27; refine (limit_code b P Q R _ S3.out.tat.drew).mono ?_; rintro e w4 ⟨rfl, ht4, hf4⟩; have y1 : w4.cell? ⟨ba, 1, none⟩ = some (.int .i64 P) := (World.cell?_of_block (hf4.block ba HBA.out.1 HBA.out.2.1)).trans x1; have y2 : w4.cell? ⟨ba, 2, none⟩ = some (.int .i64 Q) := (World.cell?_of_block (hf4.block ba HBA.out.1 HBA.out.2.1)).trans x2; have y3 : w4.cell? ⟨ba, 3, none⟩ = some (.int .i64 R) := (World.cell?_of_block (hf4.block ba HBA.out.1 HBA.out.2.1)).trans x3; have P4 : Hid (TAt w4 b (limT t P Q R) ∧ Frm b W3 w4) := ⟨ht4, ((Frm.refl b W3).drew).trans hf4⟩; clear ht4 hf4) | (go_at_call 28; refine (rlimit_code m P Q R _ (S3.out.uat' P4.out.2) S3.out.rel).mono ?_; rintro e w5 ⟨rfl, hu5, hf5⟩; have z1 : w5.cell? ⟨ba, 1, none⟩ = some (.int .i64 P) := (World.cell?_of_block (hf5.block ba (Nat.lt_of_lt_of_le HBA.out.1 P4.out.2.size) HBA.out.2.2)).trans y1; have z2 : w5.cell? ⟨ba, 2, none⟩ = some (.int .i64 Q) := (World.cell?_of_block (hf5.block ba (Nat.lt_of_lt_of_le HBA.out.1 P4.out.2.size) HBA.out.2.2)).trans y2; have z3 : w5.cell? ⟨ba, 3, none⟩ = some (.int .i64 R) := (World.cell?_of_block (hf5.block ba (Nat.lt_of_lt_of_le HBA.out.1 P4.out.2.size) HBA.out.2.2)).trans y3; have P5 : Hid (UAt w5 m h (limG t P Q R G) ∧ Frm m w4 w5) := ⟨hu5, hf5⟩; clear hu5 hf5) | (go_at_call 9; refine (same_any _ (limE_ge t P Q R) _).mono ?_; rintro e w' ⟨rfl, rfl⟩)))
              go_wp2_with fail
              go_meet
              case rel => exact ⟨rfl, _, _, _, _, S3.out.step P4.out.2 P4.out.1 P5.out.2 P5.out.1 ((lim_tree S3.out.tree S3.out.rel S3.out.lim P Q R).1.mono (show k ≤ k + 1 by omega)) (lim_tree S3.out.tree S3.out.rel S3.out.lim P Q R).2.1 (lim_tree S3.out.tree S3.out.rel S3.out.lim P Q R).2.2⟩
            · have k3' : (kd.toList == [108, 105, 109, 105, 116]) = false := by simpa using k3
              clear k3
              by_cases k4 : (kd.toList == [99, 104, 97, 114, 103, 101]) = true
              · as_aux_lemma =>
                go_wp2_with fail
                go_region_held3 (fun w' => w'.cell? ⟨ba, 1, none⟩ = some (.int .i64 P) ∧ w'.cell? ⟨ba, 2, none⟩ = some (.int .i64 Q) ∧ w'.cell? ⟨ba, 3, none⟩ = some (.int .i64 R)) (go_keep) ((first | (go_at_call 29; refine (charge_any b P Q R t Wy _ S3.out.tat.drew S3.out.tree.ways (S3.out.tree.small (by omega))).mono ?_; rintro e w4 ⟨rfl, ht4, hf4⟩; have y1 : w4.cell? ⟨ba, 1, none⟩ = some (.int .i64 P) := (World.cell?_of_block (hf4.block ba HBA.out.1 HBA.out.2.1)).trans x1; have y2 : w4.cell? ⟨ba, 2, none⟩ = some (.int .i64 Q) := (World.cell?_of_block (hf4.block ba HBA.out.1 HBA.out.2.1)).trans x2; have y3 : w4.cell? ⟨ba, 3, none⟩ = some (.int .i64 R) := (World.cell?_of_block (hf4.block ba HBA.out.1 HBA.out.2.1)).trans x3; have P4 : Hid (TAt w4 b (chgT t Wy P Q R) ∧ Frm b W3 w4) := ⟨ht4, ((Frm.refl b W3).drew).trans hf4⟩; clear ht4 hf4) | (go_at_call 30; refine (rcharge_any m P Q R t Wy k h G _ (S3.out.uat' P4.out.2) S3.out.tree (by omega) S3.out.rel S3.out.lim).mono ?_; rintro e w5 ⟨rfl, hu5, hf5⟩; have z1 : w5.cell? ⟨ba, 1, none⟩ = some (.int .i64 P) := (World.cell?_of_block (hf5.block ba (Nat.lt_of_lt_of_le HBA.out.1 P4.out.2.size) HBA.out.2.2)).trans y1; have z2 : w5.cell? ⟨ba, 2, none⟩ = some (.int .i64 Q) := (World.cell?_of_block (hf5.block ba (Nat.lt_of_lt_of_le HBA.out.1 P4.out.2.size) HBA.out.2.2)).trans y2; have z3 : w5.cell? ⟨ba, 3, none⟩ = some (.int .i64 R) := (World.cell?_of_block (hf5.block ba (Nat.lt_of_lt_of_le HBA.out.1 P4.out.2.size) HBA.out.2.2)).trans y3; have P5 : Hid (UAt w5 m h (chgG t Wy P Q R G) ∧ Frm m w4 w5) := ⟨hu5, hf5⟩; clear hu5 hf5) | (go_at_call 9; refine (same_any _ (chgE_ge t Wy P Q R) _).mono ?_; rintro e w' ⟨rfl, rfl⟩)))
                go_wp2_with fail
                go_meet
                case rel => exact ⟨rfl, _, _, _, _, S3.out.step P4.out.2 P4.out.1 P5.out.2 P5.out.1 ((chg_tree S3.out.tree S3.out.rel S3.out.lim P Q R).1) (chg_tree S3.out.tree S3.out.rel S3.out.lim P Q R).2.1 (chg_tree S3.out.tree S3.out.rel S3.out.lim P Q R).2.2⟩
              · have k4' : (kd.toList == [99, 104, 97, 114, 103, 101]) = false := by simpa using k4
                clear k4
                by_cases k5 : (kd.toList == [117, 110, 99, 104, 97, 114, 103, 101]) = true
                · as_aux_lemma =>
                  go_wp2_with fail
                  go_region_held3 (fun w' => w'.cell? ⟨ba, 1, none⟩ = some (.int .i64 P) ∧ w'.cell? ⟨ba, 2, none⟩ = some (.int .i64 Q) ∧ w'.cell? ⟨ba, 3, none⟩ = some (.int .i64 R)) (go_keep) ((first | (go_at_call 31; refine (uncharge_any b P Q R t _ S3.out.tat.drew (S3.out.tree.small (by omega))).mono ?_; rintro e w4 ⟨rfl, ht4, hf4⟩; have y1 : w4.cell? ⟨ba, 1, none⟩ = some (.int .i64 P) := (World.cell?_of_block (hf4.block ba HBA.out.1 HBA.out.2.1)).trans x1; have y2 : w4.cell? ⟨ba, 2, none⟩ = some (.int .i64 Q) := (World.cell?_of_block (hf4.block ba HBA.out.1 HBA.out.2.1)).trans x2; have y3 : w4.cell? ⟨ba, 3, none⟩ = some (.int .i64 R) := (World.cell?_of_block (hf4.block ba HBA.out.1 HBA.out.2.1)).trans x3; have P4 : Hid (TAt w4 b (uncT t P Q R) ∧ Frm b W3 w4) := ⟨ht4, ((Frm.refl b W3).drew).trans hf4⟩; clear ht4 hf4) | (go_at_call 32; refine (runcharge_any m P Q R t Wy k h G _ (S3.out.uat' P4.out.2) S3.out.tree (by omega) S3.out.rel).mono ?_; rintro e w5 ⟨rfl, hu5, hf5⟩; have z1 : w5.cell? ⟨ba, 1, none⟩ = some (.int .i64 P) := (World.cell?_of_block (hf5.block ba (Nat.lt_of_lt_of_le HBA.out.1 P4.out.2.size) HBA.out.2.2)).trans y1; have z2 : w5.cell? ⟨ba, 2, none⟩ = some (.int .i64 Q) := (World.cell?_of_block (hf5.block ba (Nat.lt_of_lt_of_le HBA.out.1 P4.out.2.size) HBA.out.2.2)).trans y2; have z3 : w5.cell? ⟨ba, 3, none⟩ = some (.int .i64 R) := (World.cell?_of_block (hf5.block ba (Nat.lt_of_lt_of_le HBA.out.1 P4.out.2.size) HBA.out.2.2)).trans y3; have P5 : Hid (UAt w5 m h (uncG t Wy P Q R G) ∧ Frm m w4 w5) := ⟨hu5, hf5⟩; clear hu5 hf5) | (go_at_call 9; refine (same_any _ (uncE_ge t P Q R) _).mono ?_; rintro e w' ⟨rfl, rfl⟩)))
                  go_wp2_with fail
                  go_meet
                  case rel => exact ⟨rfl, _, _, _, _, S3.out.step P4.out.2 P4.out.1 P5.out.2 P5.out.1 ((unc_trees S3.out.tree S3.out.rel S3.out.lim P Q R).1) (unc_trees S3.out.tree S3.out.rel S3.out.lim P Q R).2.1 (unc_trees S3.out.tree S3.out.rel S3.out.lim P Q R).2.2⟩
                · have k5' : (kd.toList == [117, 110, 99, 104, 97, 114, 103, 101]) = false := by simpa using k5
                  clear k5
                  by_cases k6 : (kd.toList == [108, 97, 99, 107, 115]) = true
                  · as_aux_lemma =>
                    go_wp2_with fail
                    refine (lacks_code b P Q R _ S3.out.tat S3.out.tree (by omega)).mono ?_
                    rintro e W4 ⟨hcase, hb4⟩
                    have S4 := Hid.intro (S3.out.below (hb4.mono S3.out.uat.lt))
                    have HBA4 := Hid.intro (Nat.lt_of_lt_of_le HBA.out.1 hb4.size)
                    have y1 : W4.cell? ⟨ba, 1, none⟩ = some (.int .i64 P) := (hb4.cell (p := ⟨ba, 1, none⟩) HBA.out.1).trans x1
                    have y2 : W4.cell? ⟨ba, 2, none⟩ = some (.int .i64 Q) := (hb4.cell (p := ⟨ba, 2, none⟩) HBA.out.1).trans x2
                    have y3 : W4.cell? ⟨ba, 3, none⟩ = some (.int .i64 R) := (hb4.cell (p := ⟨ba, 3, none⟩) HBA.out.1).trans x3
                    clear hb4 x0 x1 x2 x3 x4
                    rcases hcase with ⟨hno, rfl⟩ | ⟨x, hyes, rfl⟩
                    · go_wp2_with fail
                      refine (rlacks_code m P Q R _ S4.out.uat S4.out.tree (by omega) S4.out.rel S4.out.lim).mono ?_
                      rintro e W5 ⟨hcase2, hb5⟩
                      have S5 := Hid.intro (S4.out.below (hb5.mono S4.out.uat.lt))
                      have HBA5 := Hid.intro (Nat.lt_of_lt_of_le HBA4.out hb5.size)
                      have z1 : W5.cell? ⟨ba, 1, none⟩ = some (.int .i64 P) := (hb5.cell (p := ⟨ba, 1, none⟩) HBA4.out).trans y1
                      have z2 : W5.cell? ⟨ba, 2, none⟩ = some (.int .i64 Q) := (hb5.cell (p := ⟨ba, 2, none⟩) HBA4.out).trans y2
                      clear hb5 y1 y2 y3
                      rcases hcase2 with ⟨_, rfl⟩ | ⟨x', h', rfl⟩
                      · go_wp2_with fail
                        go_region_held3 (fun w' => w'.cell? ⟨ba, 1, none⟩ = some (.int .i64 P) ∧ w'.cell? ⟨ba, 2, none⟩ = some (.int .i64 Q)) (go_keep) ((first | (go_at_call 35; refine (under_code b P Q _ S5.out.tat.drew S5.out.tree.ways).mono ?_; rintro e w6 ⟨rfl, hb6⟩; have a1 : w6.cell? ⟨ba, 1, none⟩ = some (.int .i64 P) := (hb6.cell (p := ⟨ba, 1, none⟩) HBA5.out).trans z1; have a2 : w6.cell? ⟨ba, 2, none⟩ = some (.int .i64 Q) := (hb6.cell (p := ⟨ba, 2, none⟩) HBA5.out).trans z2; have P6 : Hid (Sx w w6 b m t Wy k h G ∧ ba < w6.heap.size) := ⟨S5.out.below ((Below.refl _ W5).drew.trans (hb6.mono S5.out.uat.lt)), Nat.lt_of_lt_of_le HBA5.out hb6.size⟩; clear hb6) | (go_at_call 36; refine (runder_code m P Q _ P6.out.1.uat P6.out.1.tree P6.out.1.rel).mono ?_; rintro e w7 ⟨rfl, hb7⟩; have a1' : w7.cell? ⟨ba, 1, none⟩ = some (.int .i64 P) := (hb7.cell (p := ⟨ba, 1, none⟩) P6.out.2).trans a1; have a2' : w7.cell? ⟨ba, 2, none⟩ = some (.int .i64 Q) := (hb7.cell (p := ⟨ba, 2, none⟩) P6.out.2).trans a2; have P7 : Hid (Sx w w7 b m t Wy k h G) := P6.out.1.below (hb7.mono P6.out.1.uat.lt); clear hb7)))
                        go_wp2_with fail
                        go_meet
                        case rel => exact ⟨rfl, _, _, _, _, P7.out.mono (by omega)⟩
                      · rw [hno] at h'; cases h'
                    · have hx0 : (0 : Int) ≤ (x.val : Int) := by omega
                      go_wp2_with fail
                      refine (rlacks_code m P Q R _ S4.out.uat S4.out.tree (by omega) S4.out.rel S4.out.lim).mono ?_
                      rintro e W5 ⟨hcase2, hb5⟩
                      have S5 := Hid.intro (S4.out.below (hb5.mono S4.out.uat.lt))
                      have HBA5 := Hid.intro (Nat.lt_of_lt_of_le HBA4.out hb5.size)
                      have z1 : W5.cell? ⟨ba, 1, none⟩ = some (.int .i64 P) := (hb5.cell (p := ⟨ba, 1, none⟩) HBA4.out).trans y1
                      have z2 : W5.cell? ⟨ba, 2, none⟩ = some (.int .i64 Q) := (hb5.cell (p := ⟨ba, 2, none⟩) HBA4.out).trans y2
                      clear hb5 y1 y2 y3
                      rcases hcase2 with ⟨h', rfl⟩ | ⟨x', h', rfl⟩
                      · rw [hyes] at h'; cases h'
                      · obtain rfl : x = x' := by rw [hyes] at h'; exact Option.some.inj h'
                        clear hyes h'
                        have hx1 : ¬ (x.val : Int) < 0 := by omega
                        have hx2 : decide ((x.val : Int) < 0) = false := by simp
                        go_wp2_with fail
                        go_region_held3 (fun w' => w'.cell? ⟨ba, 1, none⟩ = some (.int .i64 P) ∧ w'.cell? ⟨ba, 2, none⟩ = some (.int .i64 Q)) (go_keep) ((first | (go_at_call 35; refine (under_code b P Q _ S5.out.tat.drew S5.out.tree.ways).mono ?_; rintro e w6 ⟨rfl, hb6⟩; have a1 : w6.cell? ⟨ba, 1, none⟩ = some (.int .i64 P) := (hb6.cell (p := ⟨ba, 1, none⟩) HBA5.out).trans z1; have a2 : w6.cell? ⟨ba, 2, none⟩ = some (.int .i64 Q) := (hb6.cell (p := ⟨ba, 2, none⟩) HBA5.out).trans z2; have P6 : Hid (Sx w w6 b m t Wy k h G ∧ ba < w6.heap.size) := ⟨S5.out.below ((Below.refl _ W5).drew.trans (hb6.mono S5.out.uat.lt)), Nat.lt_of_lt_of_le HBA5.out hb6.size⟩; clear hb6) | (go_at_call 36; refine (runder_code m P Q _ P6.out.1.uat P6.out.1.tree P6.out.1.rel).mono ?_; rintro e w7 ⟨rfl, hb7⟩; have a1' : w7.cell? ⟨ba, 1, none⟩ = some (.int .i64 P) := (hb7.cell (p := ⟨ba, 1, none⟩) P6.out.2).trans a1; have a2' : w7.cell? ⟨ba, 2, none⟩ = some (.int .i64 Q) := (hb7.cell (p := ⟨ba, 2, none⟩) P6.out.2).trans a2; have P7 : Hid (Sx w w7 b m t Wy k h G) := P6.out.1.below (hb7.mono P6.out.1.uat.lt); clear hb7)))
                        go_wp2_with fail
                        go_meet
                        case rel => exact ⟨rfl, _, _, _, _, P7.out.mono (by omega)⟩
                  · have k6' : (kd.toList == [108, 97, 99, 107, 115]) = false := by simpa using k6
                    clear k6
                    obtain ⟨TO, hTO⟩ : ∃ TO, wrap64 (K : Int) = TO := ⟨_, rfl⟩
                    go_wp2_with fail
                    rw [hTO]
                    clear hTO x4
                    as_aux_lemma =>
                    go_region_held3 (fun w' => w'.cell? ⟨ba, 1, none⟩ = some (.int .i64 P) ∧ w'.cell? ⟨ba, 2, none⟩ = some (.int .i64 Q) ∧ w'.cell? ⟨ba, 3, none⟩ = some (.int .i64 R)) (go_keep) ((first | (go_at_call 37; refine (move_any b P TO Q R t Wy _ S3.out.tat.drew S3.out.tree.ways (S3.out.tree.small (by omega))).mono ?_; rintro e w4 ⟨rfl, ht4, hf4⟩; have y1 : w4.cell? ⟨ba, 1, none⟩ = some (.int .i64 P) := (World.cell?_of_block (hf4.block ba HBA.out.1 HBA.out.2.1)).trans x1; have y2 : w4.cell? ⟨ba, 2, none⟩ = some (.int .i64 Q) := (World.cell?_of_block (hf4.block ba HBA.out.1 HBA.out.2.1)).trans x2; have y3 : w4.cell? ⟨ba, 3, none⟩ = some (.int .i64 R) := (World.cell?_of_block (hf4.block ba HBA.out.1 HBA.out.2.1)).trans x3; have P4 : Hid (TAt w4 b (movT t Wy P TO Q R) ∧ Frm b W3 w4) := ⟨ht4, ((Frm.refl b W3).drew).trans hf4⟩; clear ht4 hf4) | (go_at_call 38; refine (rmove_fix m P TO Q R t Wy k h G _ (S3.out.uat' P4.out.2) S3.out.tree (by omega) S3.out.rel S3.out.lim).mono ?_; rintro e w5 ⟨rfl, hu5, hf5⟩; have z1 : w5.cell? ⟨ba, 1, none⟩ = some (.int .i64 P) := (World.cell?_of_block (hf5.block ba (Nat.lt_of_lt_of_le HBA.out.1 P4.out.2.size) HBA.out.2.2)).trans y1; have z2 : w5.cell? ⟨ba, 2, none⟩ = some (.int .i64 Q) := (World.cell?_of_block (hf5.block ba (Nat.lt_of_lt_of_le HBA.out.1 P4.out.2.size) HBA.out.2.2)).trans y2; have z3 : w5.cell? ⟨ba, 3, none⟩ = some (.int .i64 R) := (World.cell?_of_block (hf5.block ba (Nat.lt_of_lt_of_le HBA.out.1 P4.out.2.size) HBA.out.2.2)).trans y3; have P5 : Hid ((∃ G', UAt w5 m h G' ∧ Rel (movT t Wy P TO Q R) Wy h G') ∧ Frm m w4 w5) := ⟨hu5, hf5⟩; clear hu5 hf5) | (go_at_call 9; refine (same_any _ (movE_ge t Wy P TO Q R) _).mono ?_; rintro e w' ⟨rfl, rfl⟩)))
                    go_wp2_with fail
                    go_meet
                    case rel =>
                      obtain ⟨G', hu5, hr5⟩ := P5.out.1
                      exact ⟨rfl, _, _, _, _, S3.out.step P4.out.2 P4.out.1 P5.out.2 hu5 (mov_trees S3.out.tree S3.out.lim P TO Q R).1 hr5 (mov_trees S3.out.tree S3.out.lim P TO Q R).2⟩
      case rest =>
        clear S3 BX HBA x0 x1 x2 x3 x4
        as_aux_lemma =>
        obtain ⟨rfl, t', Wy', h', G', HC⟩ := hcut
        go_wp2_with fail
        · refine (asTree_any b m t' Wy' (k + 1) h' G' _ HC.out.tat HC.out.uat HC.out.tree (by omega) HC.out.rel).mono ?_
          rintro e W5 ⟨rfl, hb5⟩
          have HS5 := Hid.intro (HC.out.below (hb5.mono HC.out.uat.lt))
          clear hb5
          go_wp2_with fail
          go_roundw
          case rel => exact ⟨k + 1, t', Wy', h', G', by go_num, by omega, HS5.out⟩
          case measure => simp [intOf]; omega
        · go_roundw
          case rel => exact ⟨k + 1, t', Wy', h', G', by go_num, by omega, HC.out⟩
          case measure => simp [intOf]; omega
    · have hkn : k = n0 := by omega
      subst hkn
      go_wp2_with fail
      refine (asTree_any b m t Wy k h G _ S.out.tat S.out.uat S.out.tree (by omega) S.out.rel).mono ?_
      rintro e W5 ⟨rfl, hb5⟩
      have HB5 := Hid.intro (S.out.bel.trans (hb5.mono S.out.bel.size))
      clear hb5
      go_wp2_with fail
      go_ret
      exact ⟨rfl, HB5.out⟩
end
end Go.Proofs.Ytgabceeekkcekaa

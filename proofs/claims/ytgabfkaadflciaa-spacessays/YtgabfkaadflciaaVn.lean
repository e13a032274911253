/- The law SpacesSays. -/
import Derived.Test.YtgabfkaadflciaaVm
import Derived.Deep.CutRange
import Derived.Deep.CutBlock
import Derived.Deep.DeepCutAuto
namespace Go.Proofs.Ytgabfkaadflciaa
open Go.RowKit
open Sp (T)

/-- What the law has in its hands: both tables are t. -/
structure SX (w W : World) (b r : Nat) (t : T) : Prop where
  bel : Below w.heap.size w W
  le : w.heap.size ≤ b
  le' : w.heap.size ≤ r
  ne : b ≠ r
  code : Tb true W b t
  ref : Tb false W r t
  inv : ∃ d, Sp.Inv t d
section
variable {w W W' W4 W5 : World} {b r : Nat} {t t' : T}
theorem SX.below (h : SX w W b r t) (k : Below W.heap.size W W') : SX w W' b r t := ⟨h.bel.trans (k.mono h.bel.size), h.le, h.le', h.ne, h.code.below k, h.ref.below k, h.inv⟩
theorem SX.drew (h : SX w W b r t) : SX w W.drew b r t := ⟨h.bel.drew, h.le, h.le', h.ne, h.code.drew, h.ref.drew, h.inv⟩
theorem SX.ref' (h : SX w W b r t) (k : Frm b W W') : Tb false W' r t := h.ref.same (k.block r h.ref.lt (Ne.symm h.ne))
theorem SX.step (h : SX w W b r t) (f4 : Tb true W4 b t') (k4 : Frm b W W4) (f5 : Tb false W5 r t') (k5 : Frm r W4 W5) (i : ∃ d, Sp.Inv t' d) : SX w W5 b r t' :=
  ⟨k5.below (k4.below h.bel h.le h.bel.size) h.le' (Nat.le_trans h.bel.size k4.size), h.le, h.le', h.ne, f4.same (k5.block b f4.lt h.ne), f5, i⟩
end
set_option maxRecDepth 100000 in
set_option maxHeartbeats 400000 in
theorem ss_far (a0 : Option Addr) (n0 c0 : Nat) (w : World) (h : 100 < n0) :
    Calls Try.prog 11 #[.slice a0 n0 c0] w fun e w' => e = .returned (.bool true) ∧ Below w.heap.size w w' := by
  have d : decide ((n0 : Int) ≤ 100) = false := by simp; omega
  go_enter Try.func11, Try.ntmps11
  go_wp2_with fail
  refine (tables_any _).mono ?_
  rintro e W1 ⟨rfl, hb⟩
  have HB := Hid.intro hb
  clear hb
  go_wp2_with fail
  refine (light_any _ _ _ _ _).mono ?_
  rintro e W2 ⟨rfl, rfl⟩
  rw [d]
  go_wp2
  go_ret
  exact ⟨rfl, HB.out⟩

set_option maxRecDepth 100000 in
set_option maxHeartbeats 8000000 in
theorem ss_near (a0 : Option Addr) (n0 c0 : Nat) (w : World) (h0 : IsActs0 w a0 n0) (hn : n0 ≤ 100) :
    Calls Try.prog 11 #[.slice a0 n0 c0] w fun e w' => e = .returned (.bool true) ∧ Below w.heap.size w w' := by
  have d : decide ((n0 : Int) ≤ 100) = true := by simp; omega
  have H0 := Hid.intro h0
  clear h0
  go_enter Try.func11, Try.ntmps11
  go_wp2_with fail
  refine (tables_any _).mono ?_
  rintro e W1 ⟨rfl, hb1⟩
  have HB := Hid.intro hb1
  clear hb1
  go_wp2_with fail
  refine (light_any _ _ _ _ _).mono ?_
  rintro e W2 ⟨rfl, hW2⟩
  subst W2
  rw [d]
  go_wp2_with fail
  refine (new_any _).mono ?_
  rintro e W2 ⟨rfl, f2, b2, l2⟩
  have H2 := Hid.intro (And.intro f2 (And.intro b2 l2))
  clear f2 b2 l2
  go_wp2_with fail
  refine (rnew_any _).mono ?_
  rintro e W3 ⟨rfl, f3, b3, l3⟩
  have S0 : Hid (SX w W3 W1.heap.size W2.heap.size Sp.t0) := Hid.intro ⟨(HB.out.trans (H2.out.2.1.mono HB.out.size)).trans (b3.mono (Nat.le_trans HB.out.size (Nat.le_of_lt H2.out.2.2))), HB.out.size, Nat.le_trans HB.out.size (Nat.le_of_lt H2.out.2.2), by have := H2.out.2.2; omega, H2.out.1.same (b3.block _ H2.out.2.2), f3, _, Sp.inv0⟩
  clear f3 b3 l3 H2 HB d
  generalize W1.heap.size = b at *
  generalize W2.heap.size = r at *
  go_wp2_with fail
  go_loopw [6] (fun i wr => ∃ (k : Nat) (t : T), i = .int .i64 k ∧ k ≤ n0 ∧ Hid (SX w wr b r t)) (fun i _ => n0 - (intOf i).toNat)
  case atStart => exact ⟨0, Sp.t0, rfl, by omega, S0⟩
  case round =>
    clear S0
    obtain ⟨k, t, rfl, hk, S⟩ := hrel
    by_cases hlt : k < n0
    · have hltI : (k : Int) < (n0 : Int) := by omega
      obtain ⟨b0, o0, ax, ha, hc⟩ := H0.out.2 (by omega)
      subst ha
      obtain ⟨kd, P, Q, R, K, On, S1, T1, hax⟩ : ∃ kd A B C K On S1 T1, ax k = ⟨kd, A, B, C, K, On, S1, T1⟩ := ⟨_, _, _, _, _, _, _, _, rfl⟩
      have bl : b0 < w.heap.size := World.block_lt_of_cell? _ _ (hc k hlt 0 (by omega))
      have cl : ∀ j, j < 8 → wr.cell? ⟨b0, o0 + k * 8 + j, none⟩ = some ((⟨kd, P, Q, R, K, On, S1, T1⟩ : Act8).cell j) := fun j hj => by
        rw [← hax]; exact (S.out.bel.cell (p := ⟨b0, o0 + k * 8 + j, none⟩) bl).trans (hc k hlt j hj)
      have c0' : wr.cell? ⟨b0, o0 + k * 8, none⟩ = some (.string kd) := cl 0 (by omega)
      have c1 : wr.cell? ⟨b0, o0 + k * 8 + 1, none⟩ = some (.int .i64 P) := cl 1 (by omega)
      have c2 : wr.cell? ⟨b0, o0 + k * 8 + 2, none⟩ = some (.int .i64 Q) := cl 2 (by omega)
      have c3 : wr.cell? ⟨b0, o0 + k * 8 + 3, none⟩ = some (.int .i64 R) := cl 3 (by omega)
      have c4 : wr.cell? ⟨b0, o0 + k * 8 + 4, none⟩ = some (.int .u64 K) := cl 4 (by omega)
      have c5 : wr.cell? ⟨b0, o0 + k * 8 + 5, none⟩ = some (.bool On) := cl 5 (by omega)
      have c6 : wr.cell? ⟨b0, o0 + k * 8 + 6, none⟩ = some (.string S1) := cl 6 (by omega)
      have c7 : wr.cell? ⟨b0, o0 + k * 8 + 7, none⟩ = some (.string T1) := cl 7 (by omega)
      clear cl hax bl hc
      go_upto_region 10 with fail
      have hbw := Hid.intro S.out.code.lt
      have hrw := Hid.intro S.out.ref.lt
      refine wp_gen (fun W' => SX w W' b r t ∧ W'.heap[wr.heap.size]? = some (.cells #[.string kd, .int .i64 P, .int .i64 Q, .int .i64 R, .int .u64 K, .bool On, .string S1, .string T1] 36 (0, 0))) ⟨S.out.below ((Below.refl _ _).alloc (Nat.le_refl _) _), heap_alloc_new wr _⟩ ?_
      rintro W3 ⟨hS3, hbx⟩
      clear c0' c1 c2 c3 c4 c5 c6 c7 S
      have HBA : Hid (wr.heap.size < W3.heap.size ∧ wr.heap.size ≠ b ∧ wr.heap.size ≠ r) := ⟨(Array.getElem?_eq_some_iff.1 hbx).1, by have := hbw.out; omega, by have := hrw.out; omega⟩
      clear hbw hrw
      generalize wr.heap.size = ba at *
      have S3 := Hid.intro hS3
      obtain ⟨d, hI⟩ := hS3.inv
      have HI := Hid.intro hI
      have x0 := act_cells hbx 0 _ rfl
      have x1 := act_cells hbx 1 _ rfl
      have x2 := act_cells hbx 2 _ rfl
      clear hS3 hbx hI
      go_upto_block 2 with fail
      go_cut [8, 9, 10, 11, 12, 13, 14, 15, 16] from 40 to 111 (fun s8 _ _ _ _ _ _ _ _ wc => s8 = .bool true ∧ ∃ t', Hid (SX w wc b r t'))
      case first =>
        by_cases k1 : (kd.toList == [97, 100, 100]) = true
        · as_aux_lemma =>
          go_wp2_with fail
          refine (add_any b P t d _ S3.out.code HI.out).mono ?_
          rintro e W4 ⟨rfl, t4, f4⟩
          have y1 : W4.cell? ⟨ba, 1, none⟩ = some (.int .i64 P) := (World.cell?_of_block (f4.block ba HBA.out.1 HBA.out.2.1)).trans x1
          have P4 := Hid.intro (And.intro t4 f4)
          clear t4 f4 x0 x1 x2
          go_wp2_with fail
          refine (radd_any r P t d _ (S3.out.ref' P4.out.2) HI.out).mono ?_
          rintro e W5 ⟨rfl, t5, f5⟩
          have P5 := Hid.intro (S3.out.step P4.out.1 P4.out.2 t5 f5 (HI.out.add P))
          clear t5 f5 y1
          go_wp2_with (go_at_call 15; refine (same_any _ (Sp.addE_ge t P) _).mono ?_; rintro e w' ⟨rfl, rfl⟩)
          go_meet
          case rel => exact ⟨rfl, _, P5.out⟩
        · have k1' : (kd.toList == [97, 100, 100]) = false := by simpa using k1
          clear k1
          by_cases k2 : (kd.toList == [100, 114, 111, 112]) = true
          · as_aux_lemma =>
            go_wp2_with fail
            go_region_held3 (fun w' => w'.cell? ⟨ba, 1, none⟩ = some (.int .i64 P)) (go_keep) ((first | (go_at_call 66; refine (drop_any b P t  _ S3.out.code.drew ).mono ?_; rintro e w4 ⟨rfl, t4, f4⟩; have y1 : w4.cell? ⟨ba, 1, none⟩ = some (.int .i64 P) := (World.cell?_of_block (f4.block ba HBA.out.1 HBA.out.2.1)).trans x1; have P4 : Hid (Tb true w4 b (Sp.dropT t P) ∧ Frm b W3 w4) := ⟨t4, ((Frm.refl b W3).drew).trans f4⟩; clear t4 f4) | (go_at_call 67; refine (rdrop_any r P t d _ (S3.out.ref' P4.out.2) HI.out).mono ?_; rintro e w5 ⟨rfl, t5, f5⟩; have z1 : w5.cell? ⟨ba, 1, none⟩ = some (.int .i64 P) := (World.cell?_of_block (f5.block ba (Nat.lt_of_lt_of_le HBA.out.1 P4.out.2.size) HBA.out.2.2)).trans y1; have P5 : Hid (Tb false w5 r (Sp.dropT t P) ∧ Frm r w4 w5) := ⟨t5, f5⟩; clear t5 f5) | (go_at_call 15; refine (same_any _ (Sp.dropE_ge t P) _).mono ?_; rintro e w' ⟨rfl, rfl⟩)))
            go_wp2_with fail
            go_meet
            case rel => exact ⟨rfl, _, S3.out.step P4.out.1 P4.out.2 P5.out.1 P5.out.2 ⟨d, HI.out.drop P⟩⟩
          · have k2' : (kd.toList == [100, 114, 111, 112]) = false := by simpa using k2
            clear k2
            by_cases k3 : (kd.toList == [101, 110, 116, 101, 114]) = true
            · as_aux_lemma =>
              go_wp2_with fail
              refine (enter_any b P Q t d _ S3.out.code HI.out).mono ?_
              rintro e W4 ⟨rfl, t4, f4⟩
              have y1 : W4.cell? ⟨ba, 1, none⟩ = some (.int .i64 P) := (World.cell?_of_block (f4.block ba HBA.out.1 HBA.out.2.1)).trans x1
              have y2 : W4.cell? ⟨ba, 2, none⟩ = some (.int .i64 Q) := (World.cell?_of_block (f4.block ba HBA.out.1 HBA.out.2.1)).trans x2
              have P4 := Hid.intro (And.intro t4 f4)
              clear t4 f4 x0 x1 x2
              go_wp2_with fail
              refine (renter_any r P Q t d _ (S3.out.ref' P4.out.2) HI.out).mono ?_
              rintro e W5 ⟨rfl, t5, f5⟩
              have P5 := Hid.intro (S3.out.step P4.out.1 P4.out.2 t5 f5 ⟨d, HI.out.enter P Q⟩)
              clear t5 f5 y1 y2
              go_wp2_with (go_at_call 15; refine (same_any _ (Sp.entE_ge t P Q) _).mono ?_; rintro e w' ⟨rfl, rfl⟩)
              go_meet
              case rel => exact ⟨rfl, _, P5.out⟩
            · have k3' : (kd.toList == [101, 110, 116, 101, 114]) = false := by simpa using k3
              clear k3
              as_aux_lemma =>
              go_wp2_with fail
              go_region_held3 (fun w' => w'.cell? ⟨ba, 2, none⟩ = some (.int .i64 Q)) (go_keep) ((first | (go_at_call 70; refine (leave_any b Q t d _ S3.out.code.drew HI.out).mono ?_; rintro e w4 ⟨rfl, t4, f4⟩; have y2 : w4.cell? ⟨ba, 2, none⟩ = some (.int .i64 Q) := (World.cell?_of_block (f4.block ba HBA.out.1 HBA.out.2.1)).trans x2; have P4 : Hid (Tb true w4 b (Sp.leaT t Q) ∧ Frm b W3 w4) := ⟨t4, ((Frm.refl b W3).drew).trans f4⟩; clear t4 f4) | (go_at_call 71; refine (rleave_any r Q t d _ (S3.out.ref' P4.out.2) HI.out).mono ?_; rintro e w5 ⟨rfl, t5, f5⟩; have z2 : w5.cell? ⟨ba, 2, none⟩ = some (.int .i64 Q) := (World.cell?_of_block (f5.block ba (Nat.lt_of_lt_of_le HBA.out.1 P4.out.2.size) HBA.out.2.2)).trans y2; have P5 : Hid (Tb false w5 r (Sp.leaT t Q) ∧ Frm r w4 w5) := ⟨t5, f5⟩; clear t5 f5) | (go_at_call 15; refine (same_any _ (Sp.inE_ge t Q) _).mono ?_; rintro e w' ⟨rfl, rfl⟩)))
              go_wp2_with fail
              go_meet
              case rel => exact ⟨rfl, _, S3.out.step P4.out.1 P4.out.2 P5.out.1 P5.out.2 ⟨d, HI.out.leave Q⟩⟩
      case rest =>
        clear S3 HI HBA x0 x1 x2
        as_aux_lemma =>
        obtain ⟨rfl, t', HC⟩ := hcut
        go_wp2_with fail
        · obtain ⟨d', hI'⟩ := HC.out.inv
          refine (asTable_any b r t' d' _ HC.out.code HC.out.ref hI').mono ?_
          rintro e W5 ⟨rfl, hb5⟩
          have HS5 := Hid.intro (HC.out.below hb5)
          clear hb5 hI'
          go_wp2_with fail
          go_roundw
          case rel => exact ⟨k + 1, t', by go_num, by omega, HS5.out⟩
          case measure => simp [intOf]; omega
        · go_roundw
          case rel => exact ⟨k + 1, t', by go_num, by omega, HC.out⟩
          case measure => simp [intOf]; omega
    · have hkn : k = n0 := by omega
      subst hkn
      go_wp2_with fail
      obtain ⟨d', hI'⟩ := S.out.inv
      refine (asTable_any b r t d' _ S.out.code S.out.ref hI').mono ?_
      rintro e W5 ⟨rfl, hb5⟩
      have HB5 := Hid.intro (S.out.bel.trans (hb5.mono S.out.bel.size))
      clear hb5 hI'
      go_wp2_with fail
      go_ret
      exact ⟨rfl, HB5.out⟩

theorem ss_any (a : Option Addr) (len cap : Nat) (w : World) (h : IsActs0 w a len) :
    Calls Try.prog 11 #[.slice a len cap] w fun e w' => e = .returned (.bool true) ∧ Below w.heap.size w w' := by
  by_cases hf : 100 < len
  · exact ss_far a len cap w hf
  · exact ss_near a len cap w h (by omega)
end Go.Proofs.Ytgabfkaadflciaa

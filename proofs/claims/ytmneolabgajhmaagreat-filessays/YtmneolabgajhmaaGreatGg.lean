/- FilesSays: the law. -/
import Derived.Test.YtmneolabgajhmaaGreatGc
import Derived.Test.YtmneolabgajhmaaGreatGd
import Derived.Test.YtmneolabgajhmaaGreatGe
import Derived.Test.YtmneolabgajhmaaGreatGf
import Derived.Test.YtmneolabgajhmaaGreatZg
import Derived.Test.YtmneolabgajhmaaGreatBt
import Derived.Deep.RegionHeld3
import Derived.Deep.CutRange
import Derived.Deep.CutBlock
namespace Go.Proofs.YtmneolabgajhmaaGreat
open Go.RowKit
open Fx (Fi)
open Tr (Fo Nd RN)
open Pp (Pi)

set_option maxRecDepth 100000 in
set_option maxHeartbeats 4000000 in
theorem fs_far (a0 : Option Addr) (n0 c0 : Nat) (w : World) (h : 110 < n0) :
    Calls Tryz.prog 3 #[.slice a0 n0 c0] w fun e w' => e = .returned (.bool true) ∧ Below w.heap.size w w' := by
  have d : decide ((n0 : Int) ≤ 110) = false := by simp; omega
  go_enter Tryz.func3, Tryz.ntmps3
  go_wp2_with fail
  refine (opens_any _).mono ?_
  rintro e W1 ⟨rfl, b1⟩
  have S1 := Hid.intro b1
  clear b1
  go_wp2_with fail
  refine (light_any _ _ _ _ _).mono ?_
  rintro e W4 ⟨rfl, hW⟩
  subst W4
  rw [d]
  go_wp2_with fail
  go_ret
  exact ⟨rfl, S1.out⟩
theorem Fx.ofV_yes {T : Nat → Fi} {n : Nat} (h : Fx.filE T (n : Int) = 0) : Fx.ofV T (n : Int) = #[.int .i64 ((T n).kind : Int), .int .i64 ((T n).num : Int), .int .i64 ((T n).pos : Int), .int .i64 ((T n).refs : Int), .nilIface] := by unfold Fx.ofV; rw [if_pos h, Int.toNat_natCast]
theorem Fx.ofV_no {T : Nat → Fi} {z : Int} (h : Fx.filE T z ≠ 0) : Fx.ofV T z = #[.int .i64 0, .int .i64 0, .int .i64 0, .int .i64 0, .iface 90 (.int .i64 (Fx.filE T z))] := by unfold Fx.ofV; rw [if_neg h, errV_ne h]
theorem Fx.ofV_ex (T : Nat → Fi) (z : Int) : ∃ v0 v1 v2 v3 : Int, Fx.ofV T z = #[.int .i64 v0, .int .i64 v1, .int .i64 v2, .int .i64 v3, errV (Fx.filE T z)] ∧ (∀ n : Nat, z = n → Fx.filE T z = 0 → v0 = ((T n).kind : Int) ∧ v1 = ((T n).num : Int) ∧ v2 = ((T n).pos : Int) ∧ v3 = ((T n).refs : Int)) ∧ (Fx.filE T z ≠ 0 → v0 = 0 ∧ v1 = 0 ∧ v2 = 0 ∧ v3 = 0) := by
  by_cases h : Fx.filE T z = 0
  · obtain ⟨n, rfl, _, _⟩ := Fx.filE_ok h
    refine ⟨_, _, _, _, (by rw [Fx.ofV_yes h, h, errV_zero]), fun k e _ => ?_, fun e => absurd h e⟩
    have : k = n := by omega
    subst this
    exact ⟨rfl, rfl, rfl, rfl⟩
  · exact ⟨0, 0, 0, 0, by rw [Fx.ofV_no h, errV_ne h], fun _ _ e => absurd e h, fun _ => ⟨rfl, rfl, rfl, rfl⟩⟩
theorem Fx.kinds {kd : ByteArray} {l l' : List UInt8} (h : (kd.toList == l) = true) (d : (l == l') = false) : (kd.toList == l') = false := by
  have : kd.toList = l := by simpa using h
  rw [this]; exact d
theorem Fx.boxed {W : World} {bx : Nat} {z0 z1 z2 z3 z4 : Value} {Ty : TypeId} (h : W.heap[bx]? = some (.cells #[z0, z1, z2, z3, z4] Ty (0, 0))) (v0 v1 v2 v3 v4 : Value) :
    (((((W.setCell ⟨bx, 0, none⟩ v0).setCell ⟨bx, 1, none⟩ v1).setCell ⟨bx, 2, none⟩ v2).setCell ⟨bx, 3, none⟩ v3).setCell ⟨bx, 4, none⟩ v4).drew.heap[bx]? = some (.cells #[v0, v1, v2, v3, v4] Ty (0, 0)) ∧ Frm bx W (((((W.setCell ⟨bx, 0, none⟩ v0).setCell ⟨bx, 1, none⟩ v1).setCell ⟨bx, 2, none⟩ v2).setCell ⟨bx, 3, none⟩ v3).setCell ⟨bx, 4, none⟩ v4).drew := by
  have k := blk_set (blk_set (blk_set (blk_set (blk_set h 0 v0) 1 v1) 2 v2) 3 v3) 4 v4
  have e : ((((#[z0, z1, z2, z3, z4].setIfInBounds 0 v0).setIfInBounds 1 v1).setIfInBounds 2 v2).setIfInBounds 3 v3).setIfInBounds 4 v4 = #[v0, v1, v2, v3, v4] := by simp
  rw [e] at k
  have f := (((((Frm.refl bx W).setCell 0 v0).setCell 1 v1).setCell 2 v2).setCell 3 v3).setCell 4 v4
  generalize ((((W.setCell ⟨bx, 0, none⟩ v0).setCell ⟨bx, 1, none⟩ v1).setCell ⟨bx, 2, none⟩ v2).setCell ⟨bx, 3, none⟩ v3).setCell ⟨bx, 4, none⟩ v4 = V at *
  exact ⟨k, f.drew⟩
set_option maxRecDepth 100000 in
set_option maxHeartbeats 16000000 in
theorem fs_near (a0 : Option Addr) (b0 o0 n0 c0 : Nat) (ax : Nat → Act8) (w : World) (hn : n0 ≤ 110) (ha : 0 < n0 → a0 = some ⟨b0, o0, none⟩) (hc : ∀ i, i < n0 → ∀ j, j < 8 → w.cell? ⟨b0, o0 + i * 8 + j, none⟩ = some ((ax i).cell j)) :
    Calls Tryz.prog 3 #[.slice a0 n0 c0] w fun e w' => e = .returned (.bool true) ∧ Below w.heap.size w w' := by
  have d : decide ((n0 : Int) ≤ 110) = true := by simp; omega
  have H0 := Hid.intro hc
  have HA := Hid.intro ha
  clear hc ha
  go_enter Tryz.func3, Tryz.ntmps3
  go_wp2_with fail
  refine (opens_any _).mono ?_
  rintro e W1 ⟨rfl, b1⟩
  have S1 := Hid.intro b1
  clear b1
  go_wp2_with fail
  refine (light_any _ _ _ _ _).mono ?_
  rintro e W4 ⟨rfl, hW⟩
  subst W4
  rw [d]
  clear d
  go_wp2_with fail
  have HC3 : Hid (∀ i, i < n0 → ∀ j, j < 8 → W1.cell? ⟨b0, o0 + i * 8 + j, none⟩ = some ((ax i).cell j)) := Hid.intro (fun i hi j hj => (S1.out.cell (p := ⟨b0, o0 + i * 8 + j, none⟩) (World.block_lt_of_cell? _ _ (H0.out i hi j hj))).trans (H0.out i hi j hj))
  refine (lightT_any a0 b0 o0 n0 c0 60 ax _ (by omega) HA.out HC3.out).mono ?_
  rintro e W4 ⟨v, rfl, hv, hW⟩
  subst W4
  rcases hv with rfl | ⟨rfl, hlt⟩
  · go_wp2_with fail
    go_ret
    exact ⟨rfl, S1.out⟩
  · have HLT := Hid.intro hlt
    clear hlt
    go_wp2_with fail
    refine (tnew_any _).mono ?_
    rintro e W2 ⟨rfl, f2, b2⟩
    have S2 : Hid (Below w.heap.size w W2 ∧ FAt W2 W1.heap.size Tr.f0 ∧ w.heap.size ≤ W1.heap.size) := Hid.intro ⟨S1.out.trans (b2.mono S1.out.size), f2, S1.out.size⟩
    clear f2 b2
    generalize W1.heap.size = b at *
    go_upto_region 6 with fail
    refine wp_gen (fun W' => Below w.heap.size w W' ∧ FAt W' b Tr.f0 ∧ FR ⟨W2.heap.size, fun _ => False⟩ W' W2.heap.size Tr.f0 (fun _ => RN.no) (.slice none 0 0) ∧ w.heap.size ≤ b ∧ b < W2.heap.size ∧ w.heap.size ≤ W2.heap.size) (by
      have bb := (Below.refl W2.heap.size W2).alloc (Nat.le_refl _) (.cells Tryz.zeroCells34 34)
      exact ⟨S2.out.1.trans (bb.mono S2.out.1.size), S2.out.2.1.below bb, Fx.fr_zero W2, S2.out.2.2, S2.out.2.1.lt, S2.out.1.size⟩) ?_
    intro W3 h3
    have S3 := Hid.intro h3
    clear h3 S2 HC3 S1
    generalize W2.heap.size = c at *
    go_wp2_with fail
    refine (tplant_any b Tr.f0 _ S3.out.2.1 (by decide)).mono ?_
    rintro e W4 ⟨TT, E, G, rfl, hp, h4, f4⟩
    obtain ⟨rfl, rfl, rfl⟩ := Tr.pla_first hp
    have S4 : Hid (Below w.heap.size w W4 ∧ FAt W4 b Tr.g1 ∧ FR ⟨c, fun _ => False⟩ W4 c Tr.f0 (fun _ => RN.no) (.slice none 0 0) ∧ w.heap.size ≤ b ∧ b < c ∧ w.heap.size ≤ c) := Hid.intro ⟨f4.below S3.out.1 S3.out.2.2.2.1 S3.out.1.size, h4, S3.out.2.2.1.frm f4 S3.out.2.2.2.2.1, S3.out.2.2.2⟩
    clear hp h4 f4 S3
    rw [errV_zero]
    go_wp2_with fail
    refine (rplant_any ⟨c, fun _ => False⟩ c Tr.f0 _ _ _ S4.out.2.2.1 (by decide)).mono ?_
    rintro e W5 ⟨TT, E, G, rfl, hp, h5, f5⟩
    obtain ⟨rfl, rfl, rfl⟩ := Tr.pla_first hp
    have S5 : Hid (Below w.heap.size w W5 ∧ FAt W5 b Tr.g1 ∧ (∃ R rv, FR ⟨c, fun _ => False⟩ W5 c Tr.g1 R rv) ∧ w.heap.size ≤ b ∧ b < c ∧ w.heap.size ≤ c) := Hid.intro ⟨S4.out.1.trans (f5.mono S4.out.2.2.2.2.2), S4.out.2.1.same (f5.block b S4.out.2.2.2.2.1), h5, S4.out.2.2.2⟩
    clear hp h5 f5 S4
    go_upto_region 9 with (refine Pp.wp_buildS rfl rfl ?_)
    refine wp_gen (fun W' => PAt W' W5.heap.size Pp.nul ∧ Below W5.heap.size W5 W') (pzero_alloc W5) ?_
    rintro W6 h6
    have S6 := Hid.intro h6
    clear h6
    go_upto_region 10 with fail
    refine wp_gen (fun W' => QAt W' W6.heap.size Pp.nul ∧ Below W6.heap.size W6 W') ⟨QAt.zero (heap_alloc_new W6 _), (Below.refl W6.heap.size W6).alloc (Nat.le_refl _) _⟩ ?_
    rintro W7 h7
    have S7 := Hid.intro h7
    clear h7
    go_wp2_with fail
    refine (xnew_any b W5.heap.size _).mono ?_
    rintro e W8 ⟨rfl, x8, b8⟩
    have S8 := Hid.intro (And.intro x8 b8)
    clear x8 b8
    obtain ⟨ZO, hZO⟩ : ∃ A, Fx.nwO (.pointer (some ⟨c, 0, none⟩)) (.pointer (some ⟨W6.heap.size, 0, none⟩)) = A := ⟨_, rfl⟩
    have Z0 : Hid (OAt (W8.alloc (.cells ZO 61)) W8.heap.size c W6.heap.size Fx.nul) := Hid.intro (by rw [← hZO]; exact OAt.new (heap_alloc_new W8 _))
    go_upto_region 12 with (refine Fx.wp_buildO rfl _ _ _ _ rfl rfl rfl ?_; rw [hZO])
    refine wp_gen (fun W' => OAt W' W8.heap.size c W6.heap.size Fx.nul ∧ Below W8.heap.size W8 W') ⟨Z0.out, (Below.refl W8.heap.size W8).alloc (Nat.le_refl _) _⟩ ?_
    rintro W9 ⟨o9, b9⟩
    obtain ⟨B, g0⟩ := GY.start S5.out.1 S5.out.2.1 S5.out.2.2.1 S5.out.2.2.2.2.1 S6.out.1 S6.out.2 S7.out.1 S7.out.2 S8.out.1 S8.out.2 o9 b9
    have G0 := Hid.intro g0
    have LW : Hid (∀ V, Six W7.heap.size b W5.heap.size W8.heap.size c W6.heap.size w V → Below w.heap.size w V) := Hid.intro (fun V hV => by
      have s5 := S5.out.1.size
      have s6 := S6.out.2.size
      have s7 := S7.out.2.size
      have s8 := S8.out.2.size
      exact hV.behind (Below.refl _ _) (by omega) S5.out.2.2.2.1 (by omega) (by omega) S5.out.2.2.2.2.2 (by omega) (Nat.le_refl _))
    have LB := Hid.intro S5.out.2.2.2.1
    clear S5 S6 S7 S8 o9 b9 g0 Z0 hZO
    generalize W7.heap.size = t at *
    generalize W5.heap.size = p at *
    generalize W8.heap.size = m at *
    generalize W6.heap.size = q at *
    go_wp2_with fail
    go_loopw [10, 11, 12, 13, 14, 15, 16, 17, 18, 19] (fun i _ _ _ _ _ _ _ _ _ wr => ∃ (j : Nat) (T : Nat → Fi) (F : Fo) (S : Nat → Pi), i = .int .i64 j ∧ j ≤ n0 ∧ Hid (WJ j T F S) ∧ Hid (GY w wr t b p m c q B T F S T F S)) (fun i _ _ _ _ _ _ _ _ _ _ => n0 - (intOf i).toNat)
    case atStart => exact ⟨0, Fx.nul, Tr.g1, Pp.nul, rfl, by omega, Hid.intro WJ.start, G0⟩
    case round =>
      clear G0
      obtain ⟨j, T, F, S, rfl, hj, HP, G⟩ := hrel
      by_cases hlt : j < n0
      · have hltI : (j : Int) < (n0 : Int) := by omega
        have HJ : Hid (j < 900) := Hid.intro (by omega)
        have hl := HLT.out j hlt
        obtain ⟨kd, A, B', C, K, On, S1, T1, hax⟩ : ∃ kd A B C K On S1 T1, ax j = ⟨kd, A, B, C, K, On, S1, T1⟩ := ⟨_, _, _, _, _, _, _, _, rfl⟩
        rw [hax] at hl
        have HL : Hid (S1.size < 2 ^ 59) := Hid.intro (by have : (S1.size : Int) ≤ 60 := hl.1; omega)
        have bl : b0 < w.heap.size := World.block_lt_of_cell? _ _ (H0.out j hlt 0 (by omega))
        have hae := HA.out (by omega)
        subst hae
        have cl : ∀ i, i < 8 → wr.cell? ⟨b0, o0 + j * 8 + i, none⟩ = some ((⟨kd, A, B', C, K, On, S1, T1⟩ : Act8).cell i) := fun i hi => by
          rw [← hax]; exact ((LW.out wr G.out.1).cell (p := ⟨b0, o0 + j * 8 + i, none⟩) bl).trans (H0.out j hlt i hi)
        have c0' : wr.cell? ⟨b0, o0 + j * 8, none⟩ = some (.string kd) := cl 0 (by omega)
        have c1 : wr.cell? ⟨b0, o0 + j * 8 + 1, none⟩ = some (.int .i64 A) := cl 1 (by omega)
        have c2 : wr.cell? ⟨b0, o0 + j * 8 + 2, none⟩ = some (.int .i64 B') := cl 2 (by omega)
        have c3 : wr.cell? ⟨b0, o0 + j * 8 + 3, none⟩ = some (.int .i64 C) := cl 3 (by omega)
        have c4 : wr.cell? ⟨b0, o0 + j * 8 + 4, none⟩ = some (.int .u64 K) := cl 4 (by omega)
        have c5 : wr.cell? ⟨b0, o0 + j * 8 + 5, none⟩ = some (.bool On) := cl 5 (by omega)
        have c6 : wr.cell? ⟨b0, o0 + j * 8 + 6, none⟩ = some (.string S1) := cl 6 (by omega)
        have c7 : wr.cell? ⟨b0, o0 + j * 8 + 7, none⟩ = some (.string T1) := cl 7 (by omega)
        clear cl hax bl hl
        go_upto_region 16 with fail
        refine wp_gen (fun W' => GY w W' t b p m c q B T F S T F S ∧ ActAt W' wr.heap.size (acA kd A B' C K On S1 T1)) ⟨G.out.below ((Below.refl _ _).alloc (Nat.le_refl _) _), heap_alloc_new wr _⟩ ?_
        rintro W1 ⟨g1, a1⟩
        have G1 := Hid.intro g1
        have A1 := Hid.intro a1
        have NE := Hid.intro G.out.size
        clear c0' c1 c2 c3 c4 c5 c6 c7 G g1 a1
        generalize wr.heap.size = ba at *
        have GG : Hid (GY W1 W1 t b p m c q B T F S T F S) := Hid.intro ⟨Six.refl _ _ _ _ _ _ _, G1.out.2⟩
        have TO : Hid (∀ V T2 F2 S2, GY W1 V t b p m c q B T2 F2 S2 T2 F2 S2 → GY w V t b p m c q B T2 F2 S2 T2 F2 S2 ∧ ActAt V ba (acA kd A B' C K On S1 T1)) := Hid.intro (fun V T2 F2 S2 h => ⟨⟨G1.out.1.trans h.1, h.2⟩, (h.1.block ba (Array.getElem?_eq_some_iff.1 A1.out).1 (Nat.ne_of_gt NE.out.1) (Nat.ne_of_gt NE.out.2.1) (Nat.ne_of_gt NE.out.2.2.1) (Nat.ne_of_gt NE.out.2.2.2.1) (Nat.ne_of_gt NE.out.2.2.2.2.1) (Nat.ne_of_gt NE.out.2.2.2.2.2)).trans A1.out⟩)
        have x0 := act_cells A1.out 0 (.string kd) rfl
        have x1 := act_cells A1.out 1 (.int .i64 A) rfl
        have x2 := act_cells A1.out 2 (.int .i64 B') rfl
        have x3 := act_cells A1.out 3 (.int .i64 C) rfl
        have x4 := act_cells A1.out 4 (.int .u64 K) rfl
        have x5 := act_cells A1.out 5 (.bool On) rfl
        have x6 := act_cells A1.out 6 (.string S1) rfl
        have x7 := act_cells A1.out 7 (.string T1) rfl
        go_upto_region 17 with fail
        go_cut [72] from 65 to 71 (fun v wx => ∃ u : Bool, v = .bool u ∧ wx = W1 ∧ Hid (u = true → ((kd.toList == [109, 97, 107, 101]) = true) ∨ ((kd.toList == [109, 97, 107, 101]) = false ∧ (kd.toList == [114, 101, 109, 111, 118, 101]) = true)))
        case first =>
          by_cases m0 : (kd.toList == [109, 97, 107, 101]) = true
          · go_wp2_with fail
            go_meet
            case rel => exact ⟨true, rfl, rfl, Hid.intro (fun _ => .inl m0)⟩
          · have m0' : (kd.toList == [109, 97, 107, 101]) = false := by simpa using m0
            clear m0
            by_cases m1 : (kd.toList == [114, 101, 109, 111, 118, 101]) = true
            · go_wp2_with fail
              go_meet
              case rel => exact ⟨true, rfl, rfl, Hid.intro (fun _ => .inr ⟨m0', m1⟩)⟩
            · have m1' : (kd.toList == [114, 101, 109, 111, 118, 101]) = false := by simpa using m1
              clear m1
              go_wp2_with fail
              go_meet
              case rel => exact ⟨false, rfl, rfl, Hid.intro (fun e => by cases e)⟩
        obtain ⟨u, rfl, hwc, HU⟩ := hcut
        subst wc
        go_upto_if 72 with fail
        go_cut [12] from 73 to 80 (fun ok wx => ∃ T2 F2 S2, ok = .bool true ∧ Hid (WJ (j + 1) T2 F2 S2) ∧ Hid (GY w wx t b p m c q B T2 F2 S2 T2 F2 S2 ∧ ActAt wx ba (acA kd A B' C K On S1 T1)))
        case first =>
          cases u
          · as_aux_lemma =>
                clear HU
                go_wp2_with fail
                refine (opened_any W1 W1 t b p m c q j B T F S kd A B' C K On S1 T1 GG.out HP.out HJ.out HL.out).mono ?_
                rintro e W2 ⟨rfl, T2, F2, S2, g2, p2⟩
                have G2 := Hid.intro (TO.out W2 T2 F2 S2 g2)
                have P2 := Hid.intro p2
                clear g2 p2
                go_wp2_with fail
                go_meet
                case rel => exact ⟨T2, F2, S2, rfl, P2, G2⟩
          · as_aux_lemma =>
                have YG : Hid (Calls Tryz.prog 11 #[.pointer (some ⟨b, 0, none⟩), .pointer (some ⟨c, 0, none⟩), .agg (acA kd A B' C K On S1 T1)] W1 fun e w' => OP W1 t b p m c q B j e w') := Hid.intro (by
                  rcases HU.out rfl with m0 | ⟨m0, m1⟩
                  · exact ygrown_make W1 W1 t b p m c q j B T F S kd A B' C K On S1 T1 GG.out HP.out HJ.out (Fx.kinds m0 (by decide)) m0
                  · exact ygrown_remove W1 W1 t b p m c q j B T F S kd A B' C K On S1 T1 GG.out HP.out HJ.out (Fx.kinds m1 (by decide)) m0 (Fx.kinds m1 (by decide)) m1)
                clear HU
                go_wp2_with fail
                refine YG.out.mono ?_
                rintro e W2 ⟨rfl, T2, F2, S2, g2, p2⟩
                have G2 := Hid.intro (TO.out W2 T2 F2 S2 g2)
                have P2 := Hid.intro p2
                clear g2 p2
                go_wp2_with fail
                go_meet
                case rel => exact ⟨T2, F2, S2, rfl, P2, G2⟩
        case rest =>
          obtain ⟨T2, F2, S2, rfl, P2, G2⟩ := hcut
          clear G1 A1 GG TO HP x0 x1 x2 x3 x4 x5 x6 x7
          have x1 := act_cells G2.out.2 1 (.int .i64 A) rfl
          go_wp2_with fail
          refine (xof_any t b p A T2 _ G2.out.1.2.1.1).mono ?_
          rintro e W3 ⟨rfl, nq, hW3⟩
          subst W3
          have G3 : Hid (GY w (wc.drewN nq) t b p m c q B T2 F2 S2 T2 F2 S2 ∧ ActAt (wc.drewN nq) ba (acA kd A B' C K On S1 T1)) := Hid.intro ⟨G2.out.1.below (Pp.below_drewN _ _ nq), G2.out.2.below (Pp.below_drewN _ _ nq)⟩
          clear G2 x1
          generalize wc.drewN nq = W3 at *
          have x1 := act_cells G3.out.2 1 (.int .i64 A) rfl
          obtain ⟨v0, v1, v2, v3, hV, hYN⟩ := Fx.ofV_ex T2 A
          have HYN := Hid.intro hYN
          obtain ⟨pe, hpe⟩ : ∃ pe, Fx.filE T2 A = pe := ⟨_, rfl⟩
          obtain ⟨ev, hev⟩ : ∃ ev, errV pe = ev := ⟨_, rfl⟩
          have SE : Hid (∀ W, Calls Tryz.prog 15 #[ev, .int .i64 pe] W fun e w' => e = .returned (.bool true) ∧ w' = W) := Hid.intro (fun W => by rw [← hev]; exact same_any pe (by rw [← hpe]; exact Fx.filE_nn T2 A) W)
          have OI : Hid (Calls Tryz.prog 14 #[.pointer (some ⟨m, 0, none⟩), .int .i64 A] W3 fun e w' => e = .returned (.int .i64 pe) ∧ w' = W3) := Hid.intro (by
            have := ois_any m c q A T2 W3 G3.out.1.2.2.1.1
            rw [hpe] at this
            exact this)
          obtain ⟨tb, htb⟩ : ∃ tb, (pe == 0) = tb := ⟨_, rfl⟩
          have HTB : Hid (tb = true ↔ Fx.filE T2 A = 0) := Hid.intro (by rw [hpe, ← htb]; simp)
          rw [hV, hpe, hev]
          clear hV hYN hev hpe
          go_wp2_with fail
          refine OI.out.mono ?_
          rintro e W4 ⟨rfl, hW⟩
          subst W4
          go_upto_region 23 with fail
          refine wp_gen (fun W' => Below W3.heap.size W3 W' ∧ GY w W' t b p m c q B T2 F2 S2 T2 F2 S2 ∧ ActAt W' ba (acA kd A B' C K On S1 T1) ∧ W'.heap[W3.heap.size]? = some (.cells #[.int .i64 0, .int .i64 0, .int .i64 0, .int .i64 0, .bool false] 58 (0, 0))) (by
            have bb := (Below.refl W3.heap.size W3).alloc (Nat.le_refl _) (.cells #[.int .i64 0, .int .i64 0, .int .i64 0, .int .i64 0, .bool false] 58)
            exact ⟨bb, G3.out.1.below bb, G3.out.2.below bb, heap_alloc_new W3 _⟩) ?_
          rintro W4 ⟨b4, g4, a4, o4⟩
          have G4 := Hid.intro g4
          have A4 := Hid.intro (And.intro a4 o4)
          have KB : Hid (∀ V, Below W3.heap.size W4 V → GY w V t b p m c q B T2 F2 S2 T2 F2 S2 ∧ ActAt V ba (acA kd A B' C K On S1 T1)) := Hid.intro (fun V hV => ⟨G3.out.1.below (b4.trans hV), G3.out.2.below (b4.trans hV)⟩)
          clear G3 x1 b4 g4 a4 o4 OI
          generalize W3.heap.size = bx at *
          go_upto_if 97 with fail
          clear htb
          go_cut [98] from 99 to 104 (fun _ wx => Hid (GY w wx t b p m c q B T2 F2 S2 T2 F2 S2 ∧ ActAt wx ba (acA kd A B' C K On S1 T1) ∧ ∃ u : Bool, wx.heap[bx]? = some (.cells #[.int .i64 v0, .int .i64 v1, .int .i64 v2, .int .i64 v3, .bool u] 58 (0, 0))))
          case first =>
            cases tb
            · as_aux_lemma =>
              obtain ⟨rfl, rfl, rfl, rfl⟩ := HYN.out.2 (fun h => absurd (HTB.out.2 h) (by decide))
              go_wp2_with fail
              go_meet
              case rel => exact ⟨G4.out, A4.out.1, false, A4.out.2⟩
            · as_aux_lemma =>
              obtain ⟨n, rfl, n24, _⟩ := Fx.filE_ok (HTB.out.1 rfl)
              obtain ⟨h0, h1, h2, h3⟩ := HYN.out.1 n rfl (HTB.out.1 rfl)
              have n24i : (n : Int) < 24 := by omega
              have x1 := act_cells A4.out.1 1 (.int .i64 (n : Int)) rfl
              have a0 := G4.out.2.2.1.1.kind n n24
              have a1 := G4.out.2.2.1.1.num n n24
              have a2 := G4.out.2.2.1.1.pos n n24
              have a3 := G4.out.2.2.1.1.refs n n24
              have a4 := G4.out.2.2.1.1.wr n n24
              have bf := frozen_blk A4.out.2
              have z0 := act_cells A4.out.2 0 (.int .i64 0) rfl
              have z1 := act_cells A4.out.2 1 (.int .i64 0) rfl
              have z2 := act_cells A4.out.2 2 (.int .i64 0) rfl
              have z3 := act_cells A4.out.2 3 (.int .i64 0) rfl
              have z4 := act_cells A4.out.2 4 (.bool false) rfl
              rw [← h0] at a0
              rw [← h1] at a1
              rw [← h2] at a2
              rw [← h3] at a3
              clear h0 h1 h2 h3
              generalize (T2 n).wr = wr0 at *
              go_upto_region 24 with fail
              go_region
              have X5 := Hid.intro (Fx.boxed A4.out.2 (.int .i64 v0) (.int .i64 v1) (.int .i64 v2) (.int .i64 v3) (.bool wr0))
              generalize (((((W4.setCell ⟨bx, 0, none⟩ (.int .i64 v0)).setCell ⟨bx, 1, none⟩ (.int .i64 v1)).setCell ⟨bx, 2, none⟩ (.int .i64 v2)).setCell ⟨bx, 3, none⟩ (.int .i64 v3)).setCell ⟨bx, 4, none⟩ (.bool wr0)).drew = W5 at *
              obtain ⟨o5, f5⟩ := X5.out
              have G5 := Hid.intro (KB.out W5 ⟨f5.os, f5.tape, f5.output, f5.size, fun k hk => f5.block k (Nat.lt_trans hk (Array.getElem?_eq_some_iff.1 A4.out.2).1) (Nat.ne_of_lt hk)⟩)
              have O5 := Hid.intro o5
              clear x1 a0 a1 a2 a3 a4 bf z0 z1 z2 z3 z4 X5 f5 G4 o5
              first
                | (go_wp2_with fail; go_meet)
                | go_meet
              case rel => exact ⟨G5.out.1, G5.out.2, wr0, O5.out⟩
          case rest =>
            obtain ⟨g5, a5, u5, o5⟩ := hcut.out
            have G5 := Hid.intro (And.intro g5 a5)
            have z0 := act_cells o5 0 (.int .i64 v0) rfl
            have z1 := act_cells o5 1 (.int .i64 v1) rfl
            have z2 := act_cells o5 2 (.int .i64 v2) rfl
            have z3 := act_cells o5 3 (.int .i64 v3) rfl
            clear g5 a5 o5 hcut G4 A4 KB HYN HTB HU H0 HLT HL LB
            as_aux_lemma =>
              go_upto_region 27 with (go_at_call 15; refine (SE.out _).mono ?_; rintro e w6 ⟨rfl, hw6⟩; subst w6)
              clear z0 z1 z2 z3 SE
              generalize wc = W5 at *
              have K5 : Hid (∀ nq, GY w (W5.drewN nq) t b p m c q B T2 F2 S2 T2 F2 S2) := Hid.intro (fun nq => G5.out.1.below (Pp.below_drewN _ _ nq))
              have cl24 := Fx.cnt_le T2 24
              have XO : Hid (∀ nq, Calls Tryz.prog 16 #[.pointer (some ⟨t, 0, none⟩)] (W5.drewN nq) fun e w' => e = .returned (.int .i64 (Fx.cnt T2 24 : Int)) ∧ w' = W5.drewN nq) := Hid.intro (fun nq => xopen_any t b p T2 _ (K5.out nq).2.1.1)
              have OO : Hid (∀ nq, Calls Tryz.prog 17 #[.pointer (some ⟨m, 0, none⟩)] (W5.drewN nq) fun e w' => e = .returned (.int .i64 (Fx.cnt T2 24 : Int)) ∧ w' = W5.drewN nq) := Hid.intro (fun nq => oopen_any m c q T2 _ (K5.out nq).2.2.1.1)
              have XR : Hid (∀ nq, Calls Tryz.prog 20 #[.pointer (some ⟨t, 0, none⟩), .int .i64 B'] (W5.drewN nq) fun e w' => e = .returned (.bool (decide (B' ≤ 24 - (Fx.cnt T2 24 : Int)))) ∧ w' = W5.drewN nq) := Hid.intro (fun nq => xroom_any t b p B' T2 _ (K5.out nq).2.1.1)
              have PP : Hid (∀ nq, Calls Tryz.prog 18 #[.pointer (some ⟨p, 0, none⟩)] (W5.drewN nq) fun e w' => e = .returned (.int .i64 (Pp.cnt S2 8 : Int)) ∧ w' = W5.drewN nq) := Hid.intro (fun nq => ppipes_any p S2 _ (K5.out nq).2.1.2.2.1)
              have QP : Hid (∀ nq, Calls Tryz.prog 19 #[.pointer (some ⟨q, 0, none⟩)] (W5.drewN nq) fun e w' => e = .returned (.int .i64 (Pp.cnt S2 8 : Int)) ∧ ∃ mq, w' = (W5.drewN nq).drewN mq) := Hid.intro (fun nq => qpipes_any q S2 _ (K5.out nq).2.2.1.2.2.1 (P2.out.pi.sm (by have := HJ.out; omega)))
              obtain ⟨cn, hcn⟩ : ∃ cn : Int, (Fx.cnt T2 24 : Int) = cn := ⟨_, rfl⟩
              obtain ⟨pn, hpn⟩ : ∃ pn : Int, (Pp.cnt S2 8 : Int) = pn := ⟨_, rfl⟩
              rw [hcn] at XO OO XR
              rw [hpn] at PP QP
              have hw : IntKind.i64.wrap (24 - cn) = 24 - cn := IntWalk.i64_in _ ⟨by omega, by omega⟩
              have x2 := act_cells G5.out.2 2 (.int .i64 B') rfl
              by_cases b1 : B' < 1
              · have rm : decide (B' ≤ 24 - cn) = true := decide_eq_true (by omega)
                rw [rm] at XR
                clear rm hcn hpn cl24
                go_big_quiet (first | (go_at_call 16; exact Calls.quiet_of_same (XO.out _)) | (go_at_call 17; exact Calls.quiet_of_same (OO.out _)) | (go_at_call 18; exact Calls.quiet_of_same (PP.out _)) | (go_at_call 19; exact Calls.quiet_of (QP.out _)) | (go_at_call 20; exact Calls.quiet_of_same (XR.out _)))
                go_wp2_with fail
                go_roundw
                case rel => exact ⟨j + 1, T2, F2, S2, by go_num, by omega, P2, Hid.intro (K5.out _)⟩
                case measure => simp [intOf]; omega
              · have b1' : decide (B' < 1) = false := decide_eq_false b1
                obtain ⟨rb, hrb⟩ : ∃ rb, decide (B' ≤ 24 - cn) = rb := ⟨_, rfl⟩
                rw [hrb] at XR
                clear hcn hpn cl24
                go_big_quiet (first | (go_at_call 16; exact Calls.quiet_of_same (XO.out _)) | (go_at_call 17; exact Calls.quiet_of_same (OO.out _)) | (go_at_call 18; exact Calls.quiet_of_same (PP.out _)) | (go_at_call 19; exact Calls.quiet_of (QP.out _)) | (go_at_call 20; exact Calls.quiet_of_same (XR.out _)))
                go_wp2_with fail
                go_roundw
                case rel => exact ⟨j + 1, T2, F2, S2, by go_num, by omega, P2, Hid.intro (K5.out _)⟩
                case measure => simp [intOf]; omega
      · have hltI : ¬ (j : Int) < (n0 : Int) := by omega
        obtain rfl : j = n0 := by omega
        have HL : Hid (GS w wr b c B F F) := Hid.intro ⟨LW.out wr G.out.1, G.out.2.1.2.1, G.out.2.2.1.2.1, LB.out, G.out.2.2.2.bb⟩
        go_wp2_with fail
        refine (asForest_any w wr b c B 24 F HL.out HP.out.pf).mono ?_
        rintro e W8 ⟨rfl, g8⟩
        have G8 := Hid.intro g8
        clear g8
        go_wp2_with fail
        go_ret
        exact ⟨rfl, G8.out.1⟩
end Go.Proofs.YtmneolabgajhmaaGreat

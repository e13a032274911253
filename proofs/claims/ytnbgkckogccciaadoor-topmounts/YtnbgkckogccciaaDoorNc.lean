/- TopMounts: the acts. -/
import Derived.Test.YtnbgkckogccciaaDoorNb
namespace Go.Proofs.YtnbgkckogccciaaDoor
open Go.RowKit
open Tr (Fo Nd)
open Mo (Wh Mt Tb)

set_option maxRecDepth 100000 in
set_option maxHeartbeats 8000000 in
theorem tm_near (a0 : Option Addr) (b0 o0 n0 c0 : Nat) (ax : Nat → Act8) (w : World) (hn : n0 ≤ 80) (ha : 0 < n0 → a0 = some ⟨b0, o0, none⟩) (hc : ∀ i, i < n0 → ∀ j, j < 8 → w.cell? ⟨b0, o0 + i * 8 + j, none⟩ = some ((ax i).cell j)) :
    Calls Tryd.prog 4 #[.slice a0 n0 c0] w fun e w' => e = .returned (.bool true) ∧ Below w.heap.size w w' := by
  have d : decide ((n0 : Int) ≤ 80) = true := by simp; omega
  have H0 := Hid.intro hc
  have HA := Hid.intro ha
  clear hc ha
  go_enter Tryd.func4, Tryd.ntmps4
  go_wp2_with fail
  refine (tnew_any _).mono ?_
  rintro e W1 ⟨rfl, f1, b1⟩
  have S1 := Hid.intro (And.intro f1 b1)
  clear f1 b1
  go_wp2_with fail
  refine (tplant_any w.heap.size Tr.f0 _ S1.out.1 (by decide)).mono ?_
  rintro e W2 ⟨TT, E, G, rfl, hp, h2, k2⟩
  obtain ⟨rfl, rfl, rfl⟩ := Tr.pla_first hp
  have S2 := Hid.intro (And.intro h2 (k2.below S1.out.2 (Nat.le_refl _) S1.out.2.size))
  clear hp h2 k2 S1
  rw [errV_zero]
  go_wp2_with fail
  refine (tplant_any w.heap.size Tr.g1 _ S2.out.1 (by decide)).mono ?_
  rintro e W3 ⟨TT, E, G, rfl, hp, h3, k3⟩
  obtain ⟨rfl, rfl, rfl⟩ := Tr.pla_second hp
  have S3 := Hid.intro (And.intro h3 (k3.below S2.out.2 (Nat.le_refl _) S2.out.2.size))
  clear hp h3 k3 S2
  rw [errV_zero]
  go_wp2_with fail
  refine (new_yes w.heap.size 0 Tr.g2 0 _ S3.out.1 Mo.g2_root.1 (Mo.hi_g2.hb (fun _ _ => Nat.le_refl _)) (by decide)).mono ?_
  rintro e W4 ⟨b, rfl, lb, t4, f4, k4⟩
  have S4 : Hid (TX w W4 w.heap.size b b Mo.T0 (.slice none 0 0) (Tr.hol Tr.g2 (0 : Nat)) ∨ (Below w.heap.size w W4 ∧ FAt W4 w.heap.size (Tr.hol Tr.g2 (0 : Nat)) ∧ (∀ base, TAt W4 base b w.heap.size Mo.T0 (.slice none 0 0)) ∧ w.heap.size ≤ b)) := Hid.intro (.inr ⟨k4.below S3.out.2 (Nat.le_refl _) S3.out.2.size, f4, t4, Nat.le_trans S3.out.2.size lb⟩)
  clear t4 f4 k4 S3 lb
  go_wp2_with fail
  refine (light_any _ _ _ _ _).mono ?_
  rintro e W5 ⟨rfl, hW⟩
  subst W5
  rw [d]
  clear d
  go_wp2_with fail
  have S5 : Hid (Below w.heap.size w W4 ∧ FAt W4 w.heap.size (Tr.hol Tr.g2 (0 : Nat)) ∧ (∀ base, TAt W4 base b w.heap.size Mo.T0 (.slice none 0 0)) ∧ w.heap.size ≤ b) := Hid.intro (by
    rcases S4.out with h | h
    · exact absurd rfl h.ne
    · exact h)
  clear S4
  have HC3 : Hid (∀ i, i < n0 → ∀ j, j < 8 → W4.cell? ⟨b0, o0 + i * 8 + j, none⟩ = some ((ax i).cell j)) := Hid.intro (fun i hi j hj => (S5.out.1.cell (p := ⟨b0, o0 + i * 8 + j, none⟩) (World.block_lt_of_cell? _ _ (H0.out i hi j hj))).trans (H0.out i hi j hj))
  refine (lightT_any a0 b0 o0 n0 c0 60 ax _ (by omega) HA.out HC3.out).mono ?_
  rintro e W5 ⟨v, rfl, hv, hW⟩
  subst W5
  rcases hv with rfl | ⟨rfl, hlt⟩
  · go_wp2_with fail
    go_ret
    exact ⟨rfl, S5.out.1⟩
  · have HLT := Hid.intro hlt
    clear hlt HC3
    obtain ⟨f, hf⟩ : ∃ f, w.heap.size = f := ⟨_, rfl⟩
    have HF := Hid.intro hf
    rw [hf] at S5 ⊢
    clear hf
    go_wp2_with fail
    refine (copy_any f b f 1 Mo.T0 _ _ _ (S5.out.2.2.1 f) S5.out.2.1 (Mo.hi_g2.hb (fun _ _ => Nat.zero_le _) |>.hol (k := 0) _) (by decide)).mono ?_
    rintro e W6 ⟨bc, v6, rfl, lc, t6, f6, k6⟩
    have S6 : Hid (TX w W6 f b bc Mo.T0 v6 (Mo.hoA (Tr.hol Tr.g2 (0 : Nat)) Mo.T0)) := Hid.intro (by
      have e := HF.out
      have lt := (S5.out.2.2.1 f).lt
      have r := t6.row
      refine ⟨by rw [e]; exact k6.below S5.out.1 (Nat.le_refl _) (by have := S5.out.1.size; omega), by omega, by rw [e]; exact S5.out.2.2.2, by have := S5.out.1.size; omega, by omega, f6, by rw [e]; exact (S5.out.2.2.1 f).ofF S5.out.2.1 k6, ⟨t6.blk, ?_, t6.six⟩⟩
      rw [e]
      exact World.ownsRow.mono r (by have := S5.out.1.size; omega))
    clear lc t6 f6 k6 S5
    generalize b = bt at *
    go_wp2_with fail
    refine (mounts_any _ bt f Mo.T0 _ _ S6.out.t0).mono ?_
    rintro e W7 ⟨v7, rfl, r7, b7⟩
    have S7 := Hid.intro (S6.out.below b7)
    obtain ⟨va7, vc7, hv7⟩ := r7.sl
    subst hv7
    rw [show Mo.T0.ms.length = 0 from rfl]
    clear b7 r7 S6
    go_wp2_with fail
    go_loopw [12] (fun i wr => ∃ (k : Nat) (T : Tb) (v : Value) (F : Fo), i = .int .i64 k ∧ k ≤ n0 ∧ Hid (TX w wr f bt bc T v F) ∧ Hid (Mo.MI F T)) (fun i _ => n0 - (intOf i).toNat)
    case atStart => exact ⟨0, Mo.T0, v6, _, rfl, by omega, S7, Hid.intro Mo.mi_start⟩
    case round =>
      clear S7
      obtain ⟨k, T, v, F, rfl, hk, S, M⟩ := hrel
      by_cases hlt : k < n0
      · have hltI : (k : Int) < (n0 : Int) := by omega
        have hl := HLT.out k hlt
        obtain ⟨kd, P, Q, R, K, On, S1, T1, hax⟩ : ∃ kd A B C K On S1 T1, ax k = ⟨kd, A, B, C, K, On, S1, T1⟩ := ⟨_, _, _, _, _, _, _, _, rfl⟩
        have bl : b0 < w.heap.size := World.block_lt_of_cell? _ _ (H0.out k hlt 0 (by omega))
        have hae := HA.out (by omega)
        subst hae
        have cl : ∀ j, j < 8 → wr.cell? ⟨b0, o0 + k * 8 + j, none⟩ = some ((⟨kd, P, Q, R, K, On, S1, T1⟩ : Act8).cell j) := fun j hj => by
          rw [← hax]; exact (S.out.bel.cell (p := ⟨b0, o0 + k * 8 + j, none⟩) bl).trans (H0.out k hlt j hj)
        have c0' : wr.cell? ⟨b0, o0 + k * 8, none⟩ = some (.string kd) := cl 0 (by omega)
        have c1 : wr.cell? ⟨b0, o0 + k * 8 + 1, none⟩ = some (.int .i64 P) := cl 1 (by omega)
        have c2 : wr.cell? ⟨b0, o0 + k * 8 + 2, none⟩ = some (.int .i64 Q) := cl 2 (by omega)
        have c3 : wr.cell? ⟨b0, o0 + k * 8 + 3, none⟩ = some (.int .i64 R) := cl 3 (by omega)
        have c4 : wr.cell? ⟨b0, o0 + k * 8 + 4, none⟩ = some (.int .u64 K) := cl 4 (by omega)
        have c5 : wr.cell? ⟨b0, o0 + k * 8 + 5, none⟩ = some (.bool On) := cl 5 (by omega)
        have c6 : wr.cell? ⟨b0, o0 + k * 8 + 6, none⟩ = some (.string S1) := cl 6 (by omega)
        have c7 : wr.cell? ⟨b0, o0 + k * 8 + 7, none⟩ = some (.string T1) := cl 7 (by omega)
        clear cl hax bl hl
        go_upto_region 19 with fail
        have hbw := Hid.intro (And.intro S.out.fo.lt (And.intro S.out.t0.lt (And.intro S.out.tc.lt (fun g e => (S.out.tc.row.lt g e).2))))
        refine wp_gen (fun W' => TX w W' f bt bc T v F ∧ W'.heap[wr.heap.size]? = some (.cells #[.string kd, .int .i64 P, .int .i64 Q, .int .i64 R, .int .u64 K, .bool On, .string S1, .string T1] 38 (0, 0))) ⟨S.out.below ((Below.refl _ _).alloc (Nat.le_refl _) _), heap_alloc_new wr _⟩ ?_
        rintro W3 ⟨hS3, hbx⟩
        clear c0' c1 c2 c3 c4 c5 c6 c7 S
        have KF : Hid (∀ W', Below W3.heap.size W3 W' → W'.cell? ⟨wr.heap.size, 1, none⟩ = some (.int .i64 P) ∧ W'.cell? ⟨wr.heap.size, 6, none⟩ = some (.string S1) ∧ W'.cell? ⟨wr.heap.size, 7, none⟩ = some (.string T1)) := Hid.intro (fun W' kb => by
          have h := (kb.block _ (Array.getElem?_eq_some_iff.1 hbx).1).trans hbx
          exact ⟨act_cells h 1 _ rfl, act_cells h 6 _ rfl, act_cells h 7 _ rfl⟩)
        clear hbw
        generalize wr.heap.size = ba at *
        have S3 := Hid.intro hS3
        have x0 := act_cells hbx 0 _ rfl
        have x1 := act_cells hbx 1 _ rfl
        have x2 := act_cells hbx 2 _ rfl
        have x6 := act_cells hbx 6 _ rfl
        have x7 := act_cells hbx 7 _ rfl
        have SZ := Hid.intro M.out.ok.sz
        clear hS3 hbx
        go_upto_block 2 with fail
        go_cut [14, 15, 16, 17, 18, 19] from 80 to 148 (fun _ _ _ _ _ _ wc => ∃ T' v' F', Hid (TX w wc f bt bc T' v' F') ∧ Hid (Mo.MI F' T'))
        case first =>
          by_cases k1 : (kd.toList == [109, 97, 107, 101]) = true
          · as_aux_lemma =>
            go_wp2_with fail
            refine (tmake_any f P S1 Q F _ S3.out.fo SZ.out).mono ?_
            rintro e W4 ⟨K4, E4, G4, rfl, m4, f4, k4⟩
            have S4 := Hid.intro (S3.out.forest f4 k4)
            have M4 := Hid.intro (M.out.mak m4)
            clear m4 f4 k4 x0 x1 x2 x6 x7
            go_wp2_with fail
            go_meet
            case rel => exact ⟨_, _, _, S4, M4⟩
          · have k1' : (kd.toList == [109, 97, 107, 101]) = false := by simpa using k1
            clear k1
            by_cases k2 : (kd.toList == [114, 101, 109, 111, 118, 101]) = true
            · as_aux_lemma =>
              go_wp2_with fail
              refine (tremove_any f P S1 F _ S3.out.fo SZ.out M.out.ok.kid).mono ?_
              rintro e W4 ⟨E4, G4, rfl, m4, f4, k4⟩
              have S4 := Hid.intro (S3.out.forest f4 k4)
              have M4 := Hid.intro (M.out.rem m4)
              clear m4 f4 k4 x0 x1 x2 x6 x7
              go_wp2_with fail
              go_meet
              case rel => exact ⟨_, _, _, S4, M4⟩
            · have k2' : (kd.toList == [114, 101, 109, 111, 118, 101]) = false := by simpa using k2
              clear k2
              by_cases k3 : (kd.toList == [98, 105, 110, 100]) = true
              · as_aux_lemma =>
                go_wp2_with fail
                refine (raw_any _ bc f T v F S1 _ S3.out.tc S3.out.fo SZ.out).mono ?_
                rintro e W4 ⟨x, E, rfl, _, b4⟩
                go_upto_region 26 with fail
                refine wp_gen (fun W' => WB W' W4.heap.size x ∧ Below W3.heap.size W3 W') ⟨heap_alloc_new W4 _, b4.alloc b4.size _⟩ ?_
                rintro W5 ⟨p5, b5⟩
                have S5 := Hid.intro (S3.out.below b5)
                have P5 := Hid.intro p5
                obtain ⟨_, _, z7⟩ := KF.out W5 b5
                clear p5 b4 b5 x0 x1 x2 x6 x7
                generalize W4.heap.size = px at *
                go_wp2_with fail
                refine (walk_any _ bc f T v F T1 _ S5.out.tc S5.out.fo SZ.out).mono ?_
                rintro e W6 ⟨y, E2, rfl, _, b6⟩
                go_upto_region 27 with fail
                refine wp_gen (fun W' => WB W' W6.heap.size y ∧ Below W5.heap.size W5 W') ⟨heap_alloc_new W6 _, b6.alloc b6.size _⟩ ?_
                rintro W7 ⟨p7, b7⟩
                have S7 := Hid.intro (S5.out.below b7)
                have P7 : Hid (WB W7 px x ∧ WB W7 W6.heap.size y) := Hid.intro ⟨P5.out.below b7, p7⟩
                clear p7 b6 b7 z7
                generalize W6.heap.size = py at *
                by_cases e1 : E = 0
                · by_cases e2 : E2 = 0
                  · subst e1 e2
                    rw [errV_zero]
                    have q0 := P7.out.1.c0
                    have q1 := P7.out.1.c1
                    have q2 := P7.out.2.c0
                    have q3 := P7.out.2.c1
                    go_wp2_with fail
                    refine (bind_any w.heap.size bc f 26 T v F x y _ S7.out.tc S7.out.fo M.out.hb (by decide) S7.out.bel.size).mono ?_
                    rintro e W8 ⟨v8, rfl, t8, f8, o8, _⟩
                    have S8 := Hid.intro (S7.out.tab f8 t8 o8)
                    have M8 := Hid.intro (M.out.bin x y)
                    clear t8 f8 o8 q0 q1 q2 q3
                    go_wp2_with fail
                    go_meet
                    case rel => exact ⟨_, _, _, S8, M8⟩
                  · subst e1
                    rw [errV_zero, errV_ne e2]
                    go_wp2_with fail
                    go_meet
                    case rel => exact ⟨_, _, _, S7, M⟩
                · rw [errV_ne e1]
                  go_wp2_with fail
                  go_meet
                  case rel => exact ⟨_, _, _, S7, M⟩
              · have k3' : (kd.toList == [98, 105, 110, 100]) = false := by simpa using k3
                clear k3
                by_cases k4 : (kd.toList == [117, 110, 98, 105, 110, 100]) = true
                · as_aux_lemma =>
                  go_wp2_with fail
                  refine (raw_any _ bc f T v F S1 _ S3.out.tc S3.out.fo SZ.out).mono ?_
                  rintro e W4 ⟨x, E, rfl, _, b4⟩
                  go_upto_region 31 with fail
                  refine wp_gen (fun W' => WB W' W4.heap.size x ∧ Below W3.heap.size W3 W') ⟨heap_alloc_new W4 _, b4.alloc b4.size _⟩ ?_
                  rintro W5 ⟨p5, b5⟩
                  have S5 := Hid.intro (S3.out.below b5)
                  have q0 := p5.c0
                  have q1 := p5.c1
                  clear p5 b4 b5 x0 x1 x2 x6 x7
                  generalize W4.heap.size = px at *
                  by_cases e1 : E = 0
                  · subst e1
                    rw [errV_zero]
                    go_wp2_with fail
                    refine (unbind_any w.heap.size bc f 26 T v F x _ S5.out.tc S5.out.fo M.out.hb (by decide)).mono ?_
                    rintro e W8 ⟨E8, T8, F8, v8, rfl, u8, t8, f8, o8, _⟩
                    have S8 := Hid.intro (S5.out.tab f8 t8 o8)
                    have M8 := Hid.intro (M.out.unb u8)
                    clear u8 t8 f8 o8 q0 q1
                    go_wp2_with fail
                    go_meet
                    case rel => exact ⟨_, _, _, S8, M8⟩
                  · rw [errV_ne e1]
                    go_wp2_with fail
                    go_meet
                    case rel => exact ⟨_, _, _, S5, M⟩
                · have k4' : (kd.toList == [117, 110, 98, 105, 110, 100]) = false := by simpa using k4
                  clear k4
                  by_cases k5 : (kd.toList == [112, 105, 118, 111, 116]) = true
                  · as_aux_lemma =>
                    by_cases e0 : Tr.rootE F P = 0
                    · go_wp2_with fail
                      refine (pivot_yes w.heap.size bc f 26 T v F P _ S3.out.tc S3.out.fo e0 M.out.hb (by decide)).mono ?_
                      rintro e W8 ⟨rfl, t8, f8, o8⟩
                      have S8 := Hid.intro (S3.out.tab f8 t8 (BF_BV o8))
                      have M8 := Hid.intro (M.out.piv e0)
                      clear t8 f8 o8 x0 x1 x2 x6 x7
                      go_wp2_with fail
                      go_meet
                      case rel => exact ⟨_, _, _, S8, M8⟩
                    · go_wp2_with fail
                      refine (pivot_no w.heap.size bc f T v F P _ S3.out.tc S3.out.fo e0).mono ?_
                      rintro e W8 ⟨rfl, b8⟩
                      have S8 := Hid.intro (S3.out.below b8)
                      clear b8 x0 x1 x2 x6 x7
                      go_wp2_with fail
                      go_meet
                      case rel => exact ⟨_, _, _, S8, M⟩
                  · have k5' : (kd.toList == [112, 105, 118, 111, 116]) = false := by simpa using k5
                    clear k5
                    as_aux_lemma =>
                    go_wp2_with fail
                    go_meet
                    case rel => exact ⟨_, _, _, S3, M⟩
        case rest =>
          clear S3 M KF SZ x0 x1 x2 x6 x7
          as_aux_lemma =>
          obtain ⟨T', v', F', SC, MC⟩ := hcut
          go_wp2_with fail
          refine (mounts_any _ bt f Mo.T0 _ _ SC.out.t0).mono ?_
          rintro e W4 ⟨v4, rfl, r4, b4⟩
          have S4 := Hid.intro (SC.out.below b4)
          obtain ⟨va4, vc4, hv4⟩ := r4.sl
          subst hv4
          rw [show Mo.T0.ms.length = 0 from rfl]
          clear b4 r4 SC
          go_wp2_with fail
          refine (root_any _ bt f Mo.T0 _ _ S4.out.t0).mono ?_
          rintro e W5 ⟨rfl, b5⟩
          have S5 := Hid.intro (S4.out.below b5)
          rw [show Mo.T0.rt = (0, 0) from rfl]
          clear b5 S4
          go_wp2_with fail
          refine (mounts_any _ bc f T' _ _ S5.out.tc).mono ?_
          rintro e W6 ⟨v6', rfl, r6, b6⟩
          have S6 := Hid.intro (S5.out.below b6)
          obtain ⟨va6, vc6, hv6⟩ := r6.sl
          subst hv6
          have six := MC.out.six
          have six' : ¬ 6 < (T'.ms.length : Int) := by omega
          clear b6 r6 S5
          go_wp2_with fail
          go_roundw
          case rel => exact ⟨k + 1, T', v', F', by go_num, by omega, S6, MC⟩
          case measure => simp [intOf]; omega
      · have hkn : k = n0 := by omega
        subst hkn
        go_wp2_with fail
        refine (close_any w.heap.size bc f 26 T v F _ S.out.tc S.out.fo M.out.hb (by decide)).mono ?_
        rintro e W4 ⟨rfl, f4, o4⟩
        have H4 : Hid (Mo.HI (Mo.leA F T) (Mo.tc Mo.T0)) := Hid.intro (Mo.leA_HI M.out.hi M.out.rg)
        have T4 : Hid (TAt W4 w.heap.size bt f Mo.T0 (.slice none 0 0) ∧ FAt W4 f (Mo.leA F T) ∧ Below w.heap.size w W4) := Hid.intro ⟨S.out.t0.same (o4.block bt S.out.t0.lt (fun c => by
          rcases c with c | c
          · exact S.out.ne c
          · exact (S.out.t0.ne S.out.fo).1 c)) (fun g e => by cases e), f4, o4.behind S.out.bel (fun n c => by
            rcases c with c | c
            · rw [c]; exact S.out.lc
            · rw [c]; exact S.out.lf) S.out.bel.size⟩
        have LT := Hid.intro (And.intro S.out.lt S.out.lf)
        clear f4 o4 S M
        go_wp2_with fail
        refine (close_any w.heap.size bt f 26 Mo.T0 _ _ _ T4.out.1 T4.out.2.1 (H4.out.hb (fun n _ => Nat.le_trans (Mo.tc_le Mo.T0 (by decide) n) (by decide))) (by decide)).mono ?_
        rintro e W5 ⟨rfl, f5, o5⟩
        have H5 : Hid (Mo.HI (Mo.leA (Mo.leA F T) Mo.T0) (fun _ => 0)) := Hid.intro (Mo.leA_HI (H4.out.congr (fun n _ => by omega)) Mo.rg0)
        have T5 : Hid (FAt W5 f (Mo.leA (Mo.leA F T) Mo.T0) ∧ Below w.heap.size w W5) := Hid.intro ⟨f5, o5.behind T4.out.2.2 (fun n c => by
            rcases c with c | c
            · rw [c]; exact LT.out.1
            · rw [c]; exact LT.out.2) T4.out.2.2.size⟩
        clear f5 o5 T4 H4
        generalize Mo.leA (Mo.leA F T) Mo.T0 = G at *
        go_wp2_with fail
        go_loopw [20, 21, 22] (fun i _ _ wr => ∃ n : Nat, i = .int .i64 n ∧ n ≤ 40 ∧ Hid (FAt wr f G ∧ Below w.heap.size w wr)) (fun i _ _ _ => (40 - intOf i).toNat)
        case atStart => exact ⟨0, rfl, by omega, T5⟩
        case round =>
          clear T5
          obtain ⟨n, rfl, hn40, R⟩ := hrel
          by_cases hlt2 : n < 40
          · have hltI : (n : Int) < 40 := by omega
            have HD := H5.out.hd n hlt2
            go_wp2_with fail
            refine (tof_any f n G _ R.out.1).mono ?_
            rintro e W6 ⟨rfl, b6⟩
            have S6 : Hid (FAt W6 f G ∧ Below w.heap.size w W6) := Hid.intro ⟨R.out.1.below b6, R.out.2.trans (b6.mono R.out.2.size)⟩
            clear b6
            obtain ⟨q1, q2, q4, hO⟩ : ∃ q1 q2 q4 : Int, ofA G (n : Int) = #[.int .i64 q1, .int .i64 q2, .int .i64 0, .int .i64 q4] := by
              unfold ofA
              split
              · rw [Int.toNat_natCast, HD]
                exact ⟨_, _, _, rfl⟩
              · exact ⟨_, _, _, rfl⟩
            rw [hO]
            have A7 : Hid (∀ o, FAt (W6.alloc o) f G ∧ Below w.heap.size w (W6.alloc o)) := Hid.intro (fun o => by
              have bb : Below W6.heap.size W6 (W6.alloc o) := (Below.refl _ _).alloc (Nat.le_refl _) _
              exact ⟨S6.out.1.below bb, S6.out.2.trans (bb.mono S6.out.2.size)⟩)
            clear hO HD
            by_cases e0 : Tr.nodeE G (n : Int) = 0
            · rw [e0, errV_zero]
              clear e0
              go_wp2_with fail
              go_roundw
              case rel => exact ⟨n + 1, by go_num, by omega, Hid.intro (A7.out _)⟩
              case measure => simp [intOf]; omega
            · rw [errV_ne e0]
              clear e0
              go_wp2_with fail
              go_roundw
              case rel => exact ⟨n + 1, by go_num, by omega, Hid.intro (A7.out _)⟩
              case measure => simp [intOf]; omega
          · have hltI : ¬ (n : Int) < 40 := by omega
            go_wp2_with fail
            go_ret
            exact ⟨rfl, R.out.2⟩
theorem tm_any (a0 : Option Addr) (n0 c0 : Nat) (w : World) (h : IsActs0 w a0 n0) :
    Calls Tryd.prog 4 #[.slice a0 n0 c0] w fun e w' => e = .returned (.bool true) ∧ Below w.heap.size w w' := by
  by_cases hn : n0 ≤ 80
  · by_cases h0 : 0 < n0
    · obtain ⟨b0, o0, ax, ha, hc⟩ := h.2 h0
      exact tm_near a0 b0 o0 n0 c0 ax w hn (fun _ => ha) hc
    · exact tm_near a0 0 0 n0 c0 (fun _ => ⟨⟨#[]⟩, 0, 0, 0, 0, false, ⟨#[]⟩, ⟨#[]⟩⟩) w hn (fun h => absurd h h0) (fun i hi => absurd hi (by omega))
  · exact tm_far a0 n0 c0 w (by omega)
end Go.Proofs.YtnbgkckogccciaaDoor

/- TopTree: the acts. -/
import Derived.Test.YtfgnhldnmbfnkabWd
import Derived.Test.YtfgnhldnmbfnkabVf
namespace Go.Proofs.Ytfgnhldnmbfnkab
open Go.RowKit
open Tr (Fo Nd)

/-- The forest, behind all that was there before; held k times at most. -/
def TK (w W : World) (b k : Nat) (F : Fo) : Prop := TM w W b F ∧ Tr.Hb F k
theorem TK.step {w W W' : World} {b k l : Nat} {F G : Fo} (h : TK w W b k F) (h1 : FAt W' b G) (h2 : Frm b W W') (h3 : Tr.Ok G) (h4 : Tr.Hb G l) : TK w W' b l G := ⟨h.1.step h1 h2 h3, h4⟩
theorem TK.below {w W W' : World} {b k : Nat} {F : Fo} (h : TK w W b k F) (h1 : Below W.heap.size W W') : TK w W' b k F := ⟨h.1.below h1, h.2⟩
set_option maxRecDepth 100000 in
set_option maxHeartbeats 400000 in
theorem tt_far (a0 : Option Addr) (n0 c0 : Nat) (w : World) (h : 100 < n0) :
    Calls Try.prog 7 #[.slice a0 n0 c0] w fun e w' => e = .returned (.bool true) ∧ Below w.heap.size w w' := by
  have d : decide ((n0 : Int) ≤ 100) = false := by simp; omega
  go_enter Try.func7, Try.ntmps7
  go_wp2_with fail
  refine (tnew_any _).mono ?_
  rintro e W1 ⟨rfl, f1, b1⟩
  have S1 : Hid (TM w W1 w.heap.size Tr.f0) := Hid.intro ⟨b1, f1, Tr.ok0, Nat.le_refl _⟩
  clear f1 b1
  go_wp2_with fail
  refine (tplant_any w.heap.size Tr.f0 _ S1.out.2.1 (by decide)).mono ?_
  rintro e W2 ⟨T, E, G, rfl, hp, h2, f2⟩
  obtain ⟨rfl, rfl, rfl⟩ := Tr.pla_first hp
  have S2 : Hid (TM w W2 w.heap.size Tr.g1) := Hid.intro (S1.out.step h2 f2 Tr.ok_g1)
  clear hp h2 f2
  rw [errV_zero]
  go_wp2_with fail
  refine (light_any _ _ _ _ _).mono ?_
  rintro e W4 ⟨rfl, hW⟩
  subst W4
  rw [d]
  go_wp2_with fail
  go_ret
  exact ⟨rfl, S2.out.1⟩
set_option maxRecDepth 100000 in
set_option maxHeartbeats 4000000 in
theorem tt_near (a0 : Option Addr) (b0 o0 n0 c0 : Nat) (ax : Nat → Act8) (w : World) (hn : n0 ≤ 100) (ha : 0 < n0 → a0 = some ⟨b0, o0, none⟩) (hc : ∀ i, i < n0 → ∀ j, j < 8 → w.cell? ⟨b0, o0 + i * 8 + j, none⟩ = some ((ax i).cell j)) :
    Calls Try.prog 7 #[.slice a0 n0 c0] w fun e w' => e = .returned (.bool true) ∧ Below w.heap.size w w' := by
  have d : decide ((n0 : Int) ≤ 100) = true := by simp; omega
  have H0 := Hid.intro hc
  have HA := Hid.intro ha
  clear hc ha
  go_enter Try.func7, Try.ntmps7
  go_wp2_with fail
  refine (tnew_any _).mono ?_
  rintro e W1 ⟨rfl, f1, b1⟩
  have S1 : Hid (TM w W1 w.heap.size Tr.f0) := Hid.intro ⟨b1, f1, Tr.ok0, Nat.le_refl _⟩
  clear f1 b1
  go_wp2_with fail
  refine (tplant_any w.heap.size Tr.f0 _ S1.out.2.1 (by decide)).mono ?_
  rintro e W2 ⟨T, E, G, rfl, hp, h2, f2⟩
  obtain ⟨rfl, rfl, rfl⟩ := Tr.pla_first hp
  have S3 : Hid (TK w W2 w.heap.size 0 Tr.g1) := Hid.intro ⟨S1.out.step h2 f2 Tr.ok_g1, Tr.hb_g1⟩
  clear hp h2 f2
  rw [errV_zero]
  go_wp2_with fail
  refine (light_any _ _ _ _ _).mono ?_
  rintro e W4 ⟨rfl, hW⟩
  subst W4
  rw [d]
  clear d
  go_wp2_with fail
  have HC3 : Hid (∀ i, i < n0 → ∀ j, j < 8 → W2.cell? ⟨b0, o0 + i * 8 + j, none⟩ = some ((ax i).cell j)) := Hid.intro (fun i hi j hj => (S3.out.1.1.cell (p := ⟨b0, o0 + i * 8 + j, none⟩) (World.block_lt_of_cell? _ _ (H0.out i hi j hj))).trans (H0.out i hi j hj))
  refine (lightT_any a0 b0 o0 n0 c0 60 ax _ (by omega) HA.out HC3.out).mono ?_
  rintro e W4 ⟨v, rfl, hv, hW⟩
  subst W4
  rcases hv with rfl | ⟨rfl, hlt⟩
  · go_wp2_with fail
    go_ret
    exact ⟨rfl, S3.out.1.1⟩
  · have HLT := Hid.intro hlt
    obtain ⟨b, hb⟩ : ∃ b, w.heap.size = b := ⟨_, rfl⟩
    rw [hb] at S3
    clear hlt HC3 S1
    rw [hb]
    have HB := Hid.intro hb
    clear hb
    go_wp2_with fail
    go_loopw [6, 7, 8] (fun i x y wr => ∃ (j : Nat) (F : Fo), i = .int .i64 j ∧ j ≤ n0 ∧ Hid (TK w wr b j F)) (fun i _ _ _ => n0 - (intOf i).toNat)
    case atStart => exact ⟨0, Tr.g1, rfl, by omega, S3⟩
    case round =>
      clear S3
      obtain ⟨j, F, rfl, hj, S⟩ := hrel
      by_cases hlt : j < n0
      · have hltI : (j : Int) < (n0 : Int) := by omega
        have hl := HLT.out j hlt
        obtain ⟨kd, A, B, C, K, On, S1, T1, hax⟩ : ∃ kd A B C K On S1 T1, ax j = ⟨kd, A, B, C, K, On, S1, T1⟩ := ⟨_, _, _, _, _, _, _, _, rfl⟩
        rw [hax] at hl
        have HL : Hid (S1.size < 2 ^ 60) := Hid.intro (by have : (S1.size : Int) ≤ 60 := hl.1; omega)
        have bl : b0 < w.heap.size := World.block_lt_of_cell? _ _ (H0.out j hlt 0 (by omega))
        have hae := HA.out (by omega)
        subst hae
        have cl : ∀ i, i < 8 → wr.cell? ⟨b0, o0 + j * 8 + i, none⟩ = some ((⟨kd, A, B, C, K, On, S1, T1⟩ : Act8).cell i) := fun i hi => by
          rw [← hax]; exact (S.out.1.1.cell (p := ⟨b0, o0 + j * 8 + i, none⟩) bl).trans (H0.out j hlt i hi)
        have c0' : wr.cell? ⟨b0, o0 + j * 8, none⟩ = some (.string kd) := cl 0 (by omega)
        have c1 : wr.cell? ⟨b0, o0 + j * 8 + 1, none⟩ = some (.int .i64 A) := cl 1 (by omega)
        have c2 : wr.cell? ⟨b0, o0 + j * 8 + 2, none⟩ = some (.int .i64 B) := cl 2 (by omega)
        have c3 : wr.cell? ⟨b0, o0 + j * 8 + 3, none⟩ = some (.int .i64 C) := cl 3 (by omega)
        have c4 : wr.cell? ⟨b0, o0 + j * 8 + 4, none⟩ = some (.int .u64 K) := cl 4 (by omega)
        have c5 : wr.cell? ⟨b0, o0 + j * 8 + 5, none⟩ = some (.bool On) := cl 5 (by omega)
        have c6 : wr.cell? ⟨b0, o0 + j * 8 + 6, none⟩ = some (.string S1) := cl 6 (by omega)
        have c7 : wr.cell? ⟨b0, o0 + j * 8 + 7, none⟩ = some (.string T1) := cl 7 (by omega)
        clear cl hax bl hl
        go_upto_region 13 with fail
        refine wp_gen (fun W' => TK w W' b j F ∧ W'.heap[wr.heap.size]? = some (.cells #[.string kd, .int .i64 A, .int .i64 B, .int .i64 C, .int .u64 K, .bool On, .string S1, .string T1] 40 (0, 0))) ⟨S.out.below ((Below.refl _ _).alloc (Nat.le_refl _) _), heap_alloc_new wr _⟩ ?_
        rintro W5 ⟨hS5, hbx⟩
        have S5 := Hid.intro hS5
        clear c0' c1 c2 c3 c4 c5 c6 c7 S hS5
        generalize wr.heap.size = ba at *
        have x0 := act_cells hbx 0 _ rfl
        have x1 := act_cells hbx 1 _ rfl
        have x2 := act_cells hbx 2 _ rfl
        have x6 := act_cells hbx 6 _ rfl
        have x7 := act_cells hbx 7 _ rfl
        have HJ : Hid (j < 1000) := Hid.intro (by omega)
        clear hbx
        by_cases m0 : (kd.toList == [112, 108, 97, 110, 116]) = true
        · go_wp2_with fail
          refine (tplant_any b F _ S5.out.1.2.1 S5.out.1.2.2.1.tr).mono ?_
          rintro e W6 ⟨T, E, G, rfl, hm, h6, f6⟩
          have S6 : Hid (TK w W6 b (j + 1) _) := Hid.intro (S5.out.step h6 f6 (S5.out.1.2.2.1.pla hm) ((S5.out.2.pla hm).mono (Nat.le_succ j)))
          clear hm h6 f6
          go_wp2_with fail
          refine (rooted_any b (j + 1) _ _ S6.out.1.2.1 S6.out.1.2.2.1 S6.out.2 (by omega)).mono ?_
          rintro e W7 ⟨rfl, b7⟩
          have S8 := Hid.intro (S6.out.below b7)
          clear b7
          go_wp2_with fail
          go_roundw
          case rel => exact ⟨j + 1, _, by go_num, by omega, S8⟩
          case measure => simp [intOf]; omega
        · have m0' : (kd.toList == [112, 108, 97, 110, 116]) = false := by simpa using m0
          by_cases m1 : (kd.toList == [109, 97, 107, 101]) = true
          · clear m0
            go_wp2_with fail
            refine (tmake_any b A S1 B F _ S5.out.1.2.1 S5.out.1.2.2.1.sz).mono ?_
            rintro e W6 ⟨KK, E, G, rfl, hm, h6, f6⟩
            have S6 : Hid (TK w W6 b (j + 1) _) := Hid.intro (S5.out.step h6 f6 (S5.out.1.2.2.1.mak hm) ((S5.out.2.mak hm).mono (Nat.le_succ j)))
            clear hm h6 f6
            go_wp2_with fail
            refine (rooted_any b (j + 1) _ _ S6.out.1.2.1 S6.out.1.2.2.1 S6.out.2 (by omega)).mono ?_
            rintro e W7 ⟨rfl, b7⟩
            have S8 := Hid.intro (S6.out.below b7)
            clear b7
            go_wp2_with fail
            go_roundw
            case rel => exact ⟨j + 1, _, by go_num, by omega, S8⟩
            case measure => simp [intOf]; omega
          · have m1' : (kd.toList == [109, 97, 107, 101]) = false := by simpa using m1
            by_cases m2 : (kd.toList == [108, 105, 110, 107]) = true
            · clear m0 m1
              go_wp2_with fail
              refine (tlink_any b A B S1 F _ S5.out.1.2.1 S5.out.1.2.2.1.sz S5.out.1.links).mono ?_
              rintro e W6 ⟨E, G, rfl, hm, h6, f6⟩
              have S6 : Hid (TK w W6 b (j + 1) _) := Hid.intro (S5.out.step h6 f6 (S5.out.1.2.2.1.lin hm) ((S5.out.2.lin hm).mono (Nat.le_succ j)))
              clear hm h6 f6
              go_wp2_with fail
              refine (rooted_any b (j + 1) _ _ S6.out.1.2.1 S6.out.1.2.2.1 S6.out.2 (by omega)).mono ?_
              rintro e W7 ⟨rfl, b7⟩
              have S8 := Hid.intro (S6.out.below b7)
              clear b7
              go_wp2_with fail
              go_roundw
              case rel => exact ⟨j + 1, _, by go_num, by omega, S8⟩
              case measure => simp [intOf]; omega
            · have m2' : (kd.toList == [108, 105, 110, 107]) = false := by simpa using m2
              by_cases m3 : (kd.toList == [114, 101, 109, 111, 118, 101]) = true
              · clear m0 m1 m2
                go_wp2_with fail
                refine (tremove_any b A S1 F _ S5.out.1.2.1 S5.out.1.2.2.1.sz S5.out.1.2.2.1.kid).mono ?_
                rintro e W6 ⟨E, G, rfl, hm, h6, f6⟩
                have S6 : Hid (TK w W6 b (j + 1) _) := Hid.intro (S5.out.step h6 f6 (S5.out.1.2.2.1.rem hm) ((S5.out.2.rem S5.out.1.2.2.1 hm).mono (Nat.le_succ j)))
                clear hm h6 f6
                go_wp2_with fail
                refine (rooted_any b (j + 1) _ _ S6.out.1.2.1 S6.out.1.2.2.1 S6.out.2 (by omega)).mono ?_
                rintro e W7 ⟨rfl, b7⟩
                have S8 := Hid.intro (S6.out.below b7)
                clear b7
                go_wp2_with fail
                go_roundw
                case rel => exact ⟨j + 1, _, by go_num, by omega, S8⟩
                case measure => simp [intOf]; omega
              · have m3' : (kd.toList == [114, 101, 109, 111, 118, 101]) = false := by simpa using m3
                by_cases m4 : (kd.toList == [109, 111, 118, 101]) = true
                · clear m0 m1 m2 m3
                  go_wp2_with fail
                  refine (tmove_any b A S1 B T1 F _ S5.out.1.2.1 S5.out.1.2.2.1.sz S5.out.1.2.2.1.kid S5.out.1.2.2.1.en).mono ?_
                  rintro e W6 ⟨E, G, rfl, hm, h6, f6⟩
                  have S6 : Hid (TK w W6 b (j + 1) _) := Hid.intro (S5.out.step h6 f6 (S5.out.1.2.2.1.mov hm) ((S5.out.2.mov S5.out.1.2.2.1 hm).mono (Nat.le_succ j)))
                  clear hm h6 f6
                  go_wp2_with fail
                  refine (rooted_any b (j + 1) _ _ S6.out.1.2.1 S6.out.1.2.2.1 S6.out.2 (by omega)).mono ?_
                  rintro e W7 ⟨rfl, b7⟩
                  have S8 := Hid.intro (S6.out.below b7)
                  clear b7
                  go_wp2_with fail
                  go_roundw
                  case rel => exact ⟨j + 1, _, by go_num, by omega, S8⟩
                  case measure => simp [intOf]; omega
                · have m4' : (kd.toList == [109, 111, 118, 101]) = false := by simpa using m4
                  by_cases m5 : (kd.toList == [104, 111, 108, 100]) = true
                  · clear m0 m1 m2 m3 m4
                    go_wp2_with fail
                    refine (thold_any b A F _ S5.out.1.2.1 (S5.out.2.lt HJ.out)).mono ?_
                    rintro e W6 ⟨rfl, h6, f6⟩
                    have S6 : Hid (TK w W6 b (j + 1) _) := Hid.intro (S5.out.step h6 f6 (S5.out.1.2.2.1.hol A) (S5.out.2.hol A))
                    clear h6 f6
                    go_wp2_with fail
                    refine (rooted_any b (j + 1) _ _ S6.out.1.2.1 S6.out.1.2.2.1 S6.out.2 (by omega)).mono ?_
                    rintro e W7 ⟨rfl, b7⟩
                    have S8 := Hid.intro (S6.out.below b7)
                    clear b7
                    go_wp2_with fail
                    go_roundw
                    case rel => exact ⟨j + 1, _, by go_num, by omega, S8⟩
                    case measure => simp [intOf]; omega
                  · have m5' : (kd.toList == [104, 111, 108, 100]) = false := by simpa using m5
                    by_cases m6 : (kd.toList == [108, 101, 116]) = true
                    · clear m0 m1 m2 m3 m4 m5
                      go_wp2_with fail
                      refine (tlet_any b A F _ S5.out.1.2.1 (S5.out.2.lt HJ.out)).mono ?_
                      rintro e W6 ⟨rfl, h6, f6⟩
                      have S6 : Hid (TK w W6 b (j + 1) _) := Hid.intro (S5.out.step h6 f6 (S5.out.1.2.2.1.letT A) ((S5.out.2.letT A).mono (Nat.le_succ j)))
                      clear h6 f6
                      go_wp2_with fail
                      refine (rooted_any b (j + 1) _ _ S6.out.1.2.1 S6.out.1.2.2.1 S6.out.2 (by omega)).mono ?_
                      rintro e W7 ⟨rfl, b7⟩
                      have S8 := Hid.intro (S6.out.below b7)
                      clear b7
                      go_wp2_with fail
                      go_roundw
                      case rel => exact ⟨j + 1, _, by go_num, by omega, S8⟩
                      case measure => simp [intOf]; omega
                    · have m6' : (kd.toList == [108, 101, 116]) = false := by simpa using m6
                      by_cases m7 : (kd.toList == [119, 114, 105, 116, 101]) = true
                      · clear m0 m1 m2 m3 m4 m5 m6
                        go_wp2_with fail
                        refine (twrite_any b A B S1 F _ S5.out.1.2.1 HL.out).mono ?_
                        rintro e W6 ⟨rfl, h6, f6⟩
                        have S6 : Hid (TK w W6 b (j + 1) _) := Hid.intro (S5.out.step h6 f6 (S5.out.1.2.2.1.wri A B S1) ((S5.out.2.wri A B S1).mono (Nat.le_succ j)))
                        clear h6 f6
                        go_wp2_with fail
                        refine (rooted_any b (j + 1) _ _ S6.out.1.2.1 S6.out.1.2.2.1 S6.out.2 (by omega)).mono ?_
                        rintro e W7 ⟨rfl, b7⟩
                        have S8 := Hid.intro (S6.out.below b7)
                        clear b7
                        go_wp2_with fail
                        go_roundw
                        case rel => exact ⟨j + 1, _, by go_num, by omega, S8⟩
                        case measure => simp [intOf]; omega
                      · have m7' : (kd.toList == [119, 114, 105, 116, 101]) = false := by simpa using m7
                        clear m0 m1 m2 m3 m4 m5 m6 m7
                        have S6 : Hid (TK w W5 b (j + 1) F) := Hid.intro ⟨S5.out.1, S5.out.2.mono (Nat.le_succ j)⟩
                        go_wp2_with fail
                        refine (rooted_any b (j + 1) _ _ S6.out.1.2.1 S6.out.1.2.2.1 S6.out.2 (by omega)).mono ?_
                        rintro e W7 ⟨rfl, b7⟩
                        have S8 := Hid.intro (S6.out.below b7)
                        clear b7
                        go_wp2_with fail
                        go_roundw
                        case rel => exact ⟨j + 1, _, by go_num, by omega, S8⟩
                        case measure => simp [intOf]; omega
      · have hltI : ¬ (j : Int) < (n0 : Int) := by omega
        clear HLT H0
        go_wp2_with fail
        go_ret
        exact ⟨rfl, S.out.1.1⟩
theorem tt_any (a0 : Option Addr) (n0 c0 : Nat) (w : World) (h : IsActs0 w a0 n0) :
    Calls Try.prog 7 #[.slice a0 n0 c0] w fun e w' => e = .returned (.bool true) ∧ Below w.heap.size w w' := by
  by_cases hn : n0 ≤ 100
  · by_cases h0 : 0 < n0
    · obtain ⟨b0, o0, ax, ha, hc⟩ := h.2 h0
      exact tt_near a0 b0 o0 n0 c0 ax w hn (fun _ => ha) hc
    · exact tt_near a0 0 0 n0 c0 (fun _ => ⟨⟨#[]⟩, 0, 0, 0, 0, false, ⟨#[]⟩, ⟨#[]⟩⟩) w hn (fun k => absurd k h0) (fun i hi => absurd hi (by omega))
  · exact tt_far a0 n0 c0 w (by omega)
end Go.Proofs.Ytfgnhldnmbfnkab

/- The walk of the law TopQuota. -/
import Derived.Test.YtkbfmjdfhacikaaQa
import Derived.Deep.CutRange
import Derived.Deep.CutBlock
import Derived.Handy
namespace Go.Proofs.Ytkbfmjdfhacikaa
open Go.RowKit
open Fr (Un M)

set_option maxRecDepth 100000 in
set_option maxHeartbeats 3000000 in
theorem tu_near (a0 : Option Addr) (n0 c0 : Nat) (q p : Nat) (w : World) (h0 : IsActs0 w a0 n0) (hqp : q ≤ p) (hp1 : 1 ≤ p) (hp2 : p ≤ 100) :
    Calls Try.prog 9 #[.slice a0 n0 c0, .int .i64 q, .int .i64 p] w fun e w' => e = .returned (.bool true) ∧ Below w.heap.size w w' := by
  have H0 := Hid.intro h0
  have hm := h0.1
  unfold maxLen at hm
  clear h0
  go_enter Try.func9, Try.ntmps9
  go_wp2_with fail
  refine (new_any _).mono ?_
  rintro e W1 ⟨rfl, f1, b1, _⟩
  have F1 := Hid.intro f1
  have B1 := Hid.intro b1
  clear f1 b1
  go_wp2_with fail
  refine (addGroup_any w.heap.size 1 0 5 Fr.m0 _ F1.out Fr.inv0).mono ?_
  rintro e W2 ⟨rfl, f2, r2⟩
  have B2 := Hid.intro (r2.below B1.out (Nat.le_refl _) B1.out.size)
  rw [Fr.qt_g1.2] at f2
  have F2 := Hid.intro f2
  clear f2 r2
  rw [Fr.qt_g1.1, errV_zero]
  go_wp2_with fail
  refine (addGroup_any w.heap.size 2 1 5 _ _ F2.out Fr.inv_g1).mono ?_
  rintro e W3 ⟨rfl, f3, r3⟩
  have B3 := Hid.intro (r3.below B2.out (Nat.le_refl _) B2.out.size)
  rw [Fr.qt_g2.2] at f3
  have F3 := Hid.intro f3
  clear f3 r3
  rw [Fr.qt_g2.1, errV_zero]
  go_wp2_with fail
  refine (quota_any w.heap.size 1 q p _ _ F3.out Fr.inv_g2).mono ?_
  rintro e W4 ⟨rfl, m', k4, f4, r4⟩
  have B4 := Hid.intro (r4.below B3.out (Nat.le_refl _) B3.out.size)
  have K4 : Hid (Fr.quotaE Fr.mg 1 q p = 0 ∧ Fr.Qt m' 0 q p (fun _ => false) (fun _ => false) 0 ∧ m'.now = 0) := Hid.intro (by
    rcases Fr.qt_quota k4 with ⟨h1, _, _, _, _, h2, h3⟩ | ⟨_, e⟩
    · exact ⟨h1, h2, h3⟩
    · omega)
  have F4 := Hid.intro f4
  rw [K4.out.1, errV_zero]
  clear k4 f4 r4 F1 F2 F3 B1 B2 B3
  by_cases hfar : 100 < n0
  · have d : decide ((n0 : Int) ≤ 100) = false := by simp; omega
    go_wp2_with fail
    refine (light_any _ _ _ _ _).mono ?_
    rintro e W5 ⟨rfl, hW5⟩
    subst W5
    rw [d]
    go_wp2_with fail
    go_ret
    exact ⟨rfl, B4.out⟩
  · have d : decide ((n0 : Int) ≤ 100) = true := by simp; omega
    go_wp2_with fail
    refine (light_any _ _ _ _ _).mono ?_
    rintro e W5 ⟨rfl, hW5⟩
    subst W5
    rw [d]
    by_cases hq : q = 0
    · subst hq
      go_wp2_with fail
      go_ret
      exact ⟨rfl, B4.out⟩
    · have hq' : ((q : Int) == 0) = false := by simp; omega
      have hq0 : 0 < q := by omega
      go_wp2_with fail
      have S0 : Hid (Below w.heap.size w W4 ∧ Fair W4 w.heap.size m' ∧ Fr.Qt m' 0 q p (fun _ => false) (fun _ => false) 0 ∧ m'.now = 0) := ⟨B4.out, F4.out, K4.out.2⟩
      have hlb : Hid (w.heap.size ≤ w.heap.size) := Nat.le_refl _
      clear B4 F4 K4 hq hq' d
      obtain ⟨b, hb⟩ : ∃ b, w.heap.size = b := ⟨_, rfl⟩
      have HB : Hid (w.heap.size = b) := hb
      rw [hb] at S0 ⊢
      clear hb hlb
      go_loopw [8] (fun i wr => ∃ (k : Nat) (m : M), i = .int .i64 k ∧ k ≤ 6 ∧ Hid (Below b w wr ∧ Fair wr b m ∧ Fr.Qt m k q p (fun _ => false) (fun _ => false) 0 ∧ m.now = 0)) (fun i _ => 6 - (intOf i).toNat)
      case atStart => exact ⟨0, m', rfl, by omega, S0⟩
      case round =>
        clear S0
        obtain ⟨k, m, rfl, hk, S⟩ := hrel
        by_cases hlt : k < 6
        · have hltI : (k : Int) < 6 := by omega
          go_wp2_with fail
          have e3 : Hid (Fr.addTaskE m (k : Int) ((k : Int) % 3) (10 + (k : Int)) = 0 ∧ Fr.Qt (Fr.addTaskM m (k : Int) ((k : Int) % 3) (10 + (k : Int))) (k + 1) q p (fun _ => false) (fun _ => false) 0 ∧ (Fr.addTaskM m (k : Int) ((k : Int) % 3) (10 + (k : Int))).now = m.now) := Hid.intro (by
            have := S.out.2.2.1.add hlt
            rw [show ((k % 3 : Nat) : Int) = (k : Int) % 3 by omega, show ((10 + k : Nat) : Int) = 10 + (k : Int) by omega] at this
            exact this)
          refine (addTask_any b (k : Int) ((k : Int) % 3) (10 + (k : Int)) m _ S.out.2.1 S.out.2.2.1.inv).mono ?_
          rintro e W6 ⟨rfl, f6, r6⟩
          rw [e3.out.1, errV_zero]
          have S6 : Hid (Below b w W6 ∧ Fair W6 b (Fr.addTaskM m (k : Int) ((k : Int) % 3) (10 + (k : Int))) ∧ Fr.Qt (Fr.addTaskM m (k : Int) ((k : Int) % 3) (10 + (k : Int))) (k + 1) q p (fun _ => false) (fun _ => false) 0 ∧ (Fr.addTaskM m (k : Int) ((k : Int) % 3) (10 + (k : Int))).now = 0) :=
            ⟨r6.below S.out.1 (Nat.le_refl _) (by have := S.out.1.size; rw [HB.out] at this; exact this), f6, e3.out.2.1, e3.out.2.2.trans S.out.2.2.2⟩
          clear f6 r6
          go_wp2_with fail
          go_roundw
          case rel => exact ⟨k + 1, _, by go_num, by omega, S6⟩
          case measure => simp [intOf]; omega
        · have hltI : ¬ (k : Int) < 6 := by omega
          obtain rfl : k = 6 := by omega
          have S1 := qs_start (w := w) (by rw [HB.out]; exact S.out.1) (by rw [HB.out]; exact Nat.le_refl _) S.out.2.1
          rw [zeroB6, zeroB3] at S1
          go_wp2_with fail
          refine wp_gen (fun W => QS w W b wr.heap.size m (fun _ => false) (fun _ => false)) S1 ?_
          intro W hS
          have S2 : Hid (QS w W b wr.heap.size m (fun _ => false) (fun _ => false) ∧ Fr.Qt m 6 q p (fun _ => false) (fun _ => false) 0 ∧ m.now ≤ 30 * 0) := ⟨hS, S.out.2.2.1, by rw [S.out.2.2.2]; omega⟩
          clear S1 hS S hltI hlt hk
          generalize wr.heap.size = c at *
          go_loopw [11, 12] (fun u i wr => ∃ (us k : Nat) (m : M) (aw fz : Nat → Bool), u = .int .i64 us ∧ i = .int .i64 k ∧ k ≤ n0 ∧ us ≤ 30 * k ∧ Hid (QS w wr b c m aw fz ∧ Fr.Qt m 6 q p aw fz us ∧ m.now ≤ 30 * k)) (fun _ i _ => n0 - (intOf i).toNat)
          case atStart => exact ⟨0, 0, m, _, _, rfl, rfl, by omega, by omega, S2⟩
          case round =>
            clear S2
            obtain ⟨us, k, m, aw, fz, rfl, rfl, hk, hus, S⟩ := hrel
            by_cases hlt : k < n0
            · have hltI : (k : Int) < (n0 : Int) := by omega
              obtain ⟨b1, o1, ax, ha, hx⟩ := H0.out.2 (by omega)
              subst ha
              obtain ⟨kd, A, B, C, K, On, S1, T1, hax⟩ : ∃ kd A B C K On S1 T1, ax k = ⟨kd, A, B, C, K, On, S1, T1⟩ := ⟨_, _, _, _, _, _, _, _, rfl⟩
              have bl : b1 < w.heap.size := World.block_lt_of_cell? _ _ (hx k hlt 0 (by omega))
              have cl : ∀ j, j < 8 → wr.cell? ⟨b1, o1 + k * 8 + j, none⟩ = some ((⟨kd, A, B, C, K, On, S1, T1⟩ : Act8).cell j) := fun j hj => by
                rw [← hax]; exact (S.out.1.bel.cell (p := ⟨b1, o1 + k * 8 + j, none⟩) bl).trans (hx k hlt j hj)
              have c0' : wr.cell? ⟨b1, o1 + k * 8, none⟩ = some (.string kd) := cl 0 (by omega)
              have c1' : wr.cell? ⟨b1, o1 + k * 8 + 1, none⟩ = some (.int .i64 A) := cl 1 (by omega)
              have c2 : wr.cell? ⟨b1, o1 + k * 8 + 2, none⟩ = some (.int .i64 B) := cl 2 (by omega)
              have c3 : wr.cell? ⟨b1, o1 + k * 8 + 3, none⟩ = some (.int .i64 C) := cl 3 (by omega)
              have c4 : wr.cell? ⟨b1, o1 + k * 8 + 4, none⟩ = some (.int .u64 K) := cl 4 (by omega)
              have c5 : wr.cell? ⟨b1, o1 + k * 8 + 5, none⟩ = some (.bool On) := cl 5 (by omega)
              have c6 : wr.cell? ⟨b1, o1 + k * 8 + 6, none⟩ = some (.string S1) := cl 6 (by omega)
              have c7 : wr.cell? ⟨b1, o1 + k * 8 + 7, none⟩ = some (.string T1) := cl 7 (by omega)
              clear cl hax hx H0 bl hm
              go_upto_region 20 with fail
              refine wp_gen (fun W' => QA w W' b c wr.heap.size m aw fz #[.string kd, .int .i64 A, .int .i64 B, .int .i64 C, .int .u64 K, .bool On, .string S1, .string T1]) (QA.start S.out.1 _) ?_
              intro W3 H3
              have KW := Hid.intro S.out.2
              clear c0' c1' c2 c3 c4 c5 c6 c7 S
              generalize wr.heap.size = ba at *
              have x0 : W3.cell? ⟨ba, 0, none⟩ = some (.string kd) := by rw [cell_blk H3.act]; rfl
              have x1 : W3.cell? ⟨ba, 1, none⟩ = some (.int .i64 A) := by rw [cell_blk H3.act]; rfl
              have x2 : W3.cell? ⟨ba, 2, none⟩ = some (.int .i64 B) := by rw [cell_blk H3.act]; rfl
              have x5 : W3.cell? ⟨ba, 5, none⟩ = some (.bool On) := by rw [cell_blk H3.act]; rfl
              have HA := Hid.intro H3
              clear H3
              by_cases kw : (kd.toList == [119, 97, 107, 101]) = true
              · as_aux_lemma =>
                go_wp2_with fail
                refine (wake_any b A On m _ HA.out.qs.fair KW.out.1.inv).mono ?_
                rintro e W4 ⟨rfl, m4, k4, f4, r4⟩
                have HA4 := Hid.intro (HA.out.frm f4 r4)
                have HN4 : Hid (m4.now = m.now) := Hid.intro (by
                  rcases k4 with ⟨_, k4⟩ | ⟨_, rfl⟩
                  · exact (Fr.look_here k4).1
                  · rfl)
                by_cases he : Fr.taskE m A = 0
                · obtain ⟨x, rfl, hx⟩ := KW.out.1.task he
                  rw [he, errV_zero]
                  have K4 := Hid.intro (KW.out.1.wake hx k4)
                  clear k4 f4 r4 he x0 x1 x2 x5
                  have x1 : W4.cell? ⟨ba, 1, none⟩ = some (.int .i64 (x : Int)) := by rw [cell_blk HA4.out.act]; rfl
                  have x5 : W4.cell? ⟨ba, 5, none⟩ = some (.bool On) := by rw [cell_blk HA4.out.act]; rfl
                  have q1 := HA4.out.qs.awA.cell x hx
                  have g1 := HA4.out.qs.awA.frozen
                  have hxI : (x : Int) < 6 := by omega
                  go_wp2_with fail
                  go_roundw
                  case rel => exact ⟨us, k + 1, m4, Fr.upB' aw x On, fz, rfl, by go_num, by omega, by omega, (HA4.out.setAw x On hx).qs, K4.out, by rw [HN4.out]; have := KW.out.2; omega⟩
                  case measure => simp [intOf]; omega
                · have hm4 : m4 = m := by
                    rcases k4 with ⟨k4, _⟩ | ⟨_, k4⟩
                    · exact absurd k4 he
                    · exact k4
                  rw [errV_ne he]
                  subst m4
                  clear k4 f4 r4 he x0 x1 x2 x5
                  go_wp2_with fail
                  go_roundw
                  case rel => exact ⟨us, k + 1, m, aw, fz, rfl, by go_num, by omega, by omega, HA4.out.qs, KW.out.1, by have := KW.out.2; omega⟩
                  case measure => simp [intOf]; omega
              · have kw' : (kd.toList == [119, 97, 107, 101]) = false := by simpa using kw
                clear kw
                by_cases kf : (kd.toList == [102, 114, 101, 101, 122, 101]) = true
                · as_aux_lemma =>
                  go_wp2_with fail
                  refine (freeze_any b A On m _ HA.out.qs.fair KW.out.1.inv).mono ?_
                  rintro e W4 ⟨rfl, m4, k4, f4, r4⟩
                  have HA4 := Hid.intro (HA.out.frm f4 r4)
                  have HN4 : Hid (m4.now = m.now) := Hid.intro (by
                    rcases k4 with ⟨_, k4⟩ | ⟨_, rfl⟩
                    · exact (Fr.look_here k4).1
                    · rfl)
                  by_cases he : Fr.lowerE m A = 0
                  · obtain ⟨x, hxA, hx⟩ : ∃ x : Nat, A = x ∧ (x = 1 ∨ x = 2) := by
                      rcases KW.out.1.group he with e | e
                      · exact ⟨1, e, .inl rfl⟩
                      · exact ⟨2, e, .inr rfl⟩
                    subst hxA
                    rw [he, errV_zero]
                    have K4 := Hid.intro (KW.out.1.freeze hx k4)
                    clear k4 f4 r4 he x0 x1 x2 x5
                    have x1 : W4.cell? ⟨ba, 1, none⟩ = some (.int .i64 (x : Int)) := by rw [cell_blk HA4.out.act]; rfl
                    have x5 : W4.cell? ⟨ba, 5, none⟩ = some (.bool On) := by rw [cell_blk HA4.out.act]; rfl
                    have q1 := HA4.out.qs.fzA.cell x (by omega)
                    have g1 := HA4.out.qs.fzA.frozen
                    have hxI : (x : Int) < 3 := by omega
                    go_wp2_with fail
                    go_roundw
                    case rel => exact ⟨us, k + 1, m4, aw, Fr.upB' fz x On, rfl, by go_num, by omega, by omega, (HA4.out.setFz x On (by omega)).qs, K4.out, by rw [HN4.out]; have := KW.out.2; omega⟩
                    case measure => simp [intOf]; omega
                  · have hm4 : m4 = m := by
                      rcases k4 with ⟨k4, _⟩ | ⟨_, k4⟩
                      · exact absurd k4 he
                      · exact k4
                    rw [errV_ne he]
                    subst m4
                    clear k4 f4 r4 he x0 x1 x2 x5
                    go_wp2_with fail
                    go_roundw
                    case rel => exact ⟨us, k + 1, m, aw, fz, rfl, by go_num, by omega, by omega, HA4.out.qs, KW.out.1, by have := KW.out.2; omega⟩
                    case measure => simp [intOf]; omega
                · have kf' : (kd.toList == [102, 114, 101, 101, 122, 101]) = false := by simpa using kf
                  clear kf x1 x5
                  as_aux_lemma =>
                  go_wp2_with fail
                  have H4 : Hid (QA w W3 b c ba m aw fz #[.string kd, .int .i64 A, .int .i64 B, .int .i64 C, .int .u64 K, .bool On, .string S1, .string T1] ∧ Fr.Qt m 6 q p aw fz us ∧ m.now ≤ 30 * k + 0) := ⟨HA.out, KW.out.1, by have := KW.out.2; omega⟩
                  clear HA KW x0 x2
                  obtain ⟨lim, hlim⟩ : ∃ lim : Int, (if 30 < B then 30 else B) = lim := ⟨_, rfl⟩
                  have hl30 : lim ≤ 30 := by rw [← hlim]; split <;> omega
                  go_loopw [11, 14] (fun u i wr => ∃ (us j : Nat) (m : M), u = .int .i64 us ∧ i = .int .i64 j ∧ j ≤ 30 ∧ us ≤ 30 * k + j ∧ Hid (QA w wr b c ba m aw fz #[.string kd, .int .i64 A, .int .i64 B, .int .i64 C, .int .u64 K, .bool On, .string S1, .string T1] ∧ Fr.Qt m 6 q p aw fz us ∧ m.now ≤ 30 * k + j)) (fun _ i _ => 30 - (intOf i).toNat)
                  case atStart => exact ⟨us, 0, m, rfl, rfl, by omega, by omega, H4⟩
                  case round =>
                    clear H4 hus
                    obtain ⟨us, j, m, rfl, rfl, hj, hus, S⟩ := hrel
                    have x2 : wr.cell? ⟨ba, 2, none⟩ = some (.int .i64 B) := by rw [cell_blk S.out.1.act]; rfl
                    by_cases hB : (j : Int) < lim
                    · have hj30 : j < 30 := by omega
                      have hnow := S.out.2.2
                      obtain ⟨us1, hus1⟩ : ∃ us1, (if m.now % p = 0 then 0 else us) = us1 := ⟨_, rfl⟩
                      have hus1b : us1 ≤ 30 * k + j := by rw [← hus1]; split <;> omega
                      have HU := Hid.intro hus1
                      have p1 : ((p : Int) == 0) = false := by simp; omega
                      go_wp2_with fail
                      refine (now_any b m _ S.out.1.qs.fair).mono ?_
                      rintro e W4 ⟨rfl, hW4⟩
                      subst W4
                      clear hus1 x2
                      obtain ⟨N, hN⟩ : ∃ N, m.now = N := ⟨_, rfl⟩
                      rw [hN] at hnow ⊢
                      have HN := Hid.intro hN
                      clear hN
                      go_upto_if 123 with fail
                      go_cut [11] from 112 to 188 (fun u wc => u = .int .i64 (us1 : Int) ∧ wc = wr)
                      case first =>
                        by_cases hz : N % p = 0
                        · have z1 : (((N : Int) % (p : Int)) == 0) = true := by simp; omega
                          have z2 : (((N : Int).tmod (p : Int)) == 0) = true := by rw [Int.tmod_eq_emod_of_nonneg (by omega)]; exact z1
                          go_wp2_with fail
                          go_meet
                          case rel => exact ⟨by have := HU.out; rw [HN.out, if_pos hz] at this; rw [← this]; rfl, rfl⟩
                        · have z1 : (((N : Int) % (p : Int)) == 0) = false := by simp; omega
                          have z2 : (((N : Int).tmod (p : Int)) == 0) = false := by rw [Int.tmod_eq_emod_of_nonneg (by omega)]; exact z1
                          go_wp2_with fail
                          go_meet
                          case rel => exact ⟨by have := HU.out; rw [HN.out, if_neg hz] at this; rw [← this], rfl⟩
                      case rest =>
                        obtain ⟨rfl, hwc⟩ := hcut
                        subst wc
                        go_wp2_with fail
                        refine (tick_any b m _ S.out.1.qs.fair S.out.2.1.inv (by rw [HN.out]; omega)).mono ?_
                        rintro e W5 ⟨r, m5, rfl, t5, f5, r5⟩
                        have tk := S.out.2.1.tick hq0 t5
                        rw [HU.out] at tk
                        have T5 := Hid.intro tk
                        have HA5 := Hid.intro (S.out.1.frm f5 r5)
                        have HN5 : Hid (m5.now ≤ 30 * k + (j + 1)) := Hid.intro (by rw [(S.out.2.1.inv.tick t5).2, HN.out]; omega)
                        have hr : -1 ≤ r ∧ r ≤ 5 := by
                          rcases tk.2 with ⟨e, _⟩ | ⟨y, hy, e, _⟩ <;> omega
                        have hmay : Hid (Fr.mayTo q fz us1 aw 6 = decide (0 ≤ r)) := Hid.intro (by
                          rcases tk.2 with ⟨e, hno⟩ | ⟨y, hy, e, ha, hs⟩
                          · rw [Fr.mayTo_false hno, decide_eq_false (by omega)]
                          · rw [Fr.mayTo_true hy ha hs, decide_eq_true (by omega)])
                        have hrun : Hid (∀ x : Nat, r = x → aw x = true ∧ Fr.stop q fz us1 x = false) := Hid.intro (fun x hx => by
                          rcases tk.2 with ⟨e, _⟩ | ⟨y, hy, e, ha, hs⟩
                          · omega
                          · obtain rfl : x = y := by omega
                            exact ⟨ha, hs⟩)
                        clear tk t5 f5 r5 S HU HN
                        have dr1 : decide (r < -1) = false := by simp; omega
                        have dr2 : ¬ 5 < r := by omega
                        go_wp2_with fail
                        go_loopw [16, 17] (fun s i wr => ∃ (x : Nat), s = .bool (Fr.mayTo q fz us1 aw x) ∧ i = .int .i64 x ∧ x ≤ 6 ∧ wr = W5) (fun _ i _ => 6 - (intOf i).toNat)
                        case atStart => exact ⟨0, rfl, rfl, by omega, rfl⟩
                        case round =>
                          obtain ⟨x, rfl, rfl, hx6, hwr⟩ := hrel
                          subst wr
                          by_cases hx : x < 6
                          · have hxI : (x : Int) < 6 := by omega
                            have q1 := HA5.out.qs.fzA.cell 1 (by omega)
                            have q2 := HA5.out.qs.fzA.cell 2 (by omega)
                            have q3 := HA5.out.qs.awA.cell x hx
                            go_upto_region 40 with fail
                            go_cut [19] from 132 to 175 (fun s wc => s = .bool (Fr.stop q fz us1 x) ∧ wc = W5)
                            case first =>
                              have h3 : x % 3 = 0 ∨ x % 3 = 1 ∨ x % 3 = 2 := by omega
                              rcases h3 with e | e | e
                              · have e1 : (x : Int) % 3 = 0 := by omega
                                go_wp2_with fail
                                go_meet
                                case rel => exact ⟨by rw [Fr.stop0 e], rfl⟩
                              · have e1 : (x : Int) % 3 = 1 := by omega
                                cases hf1 : fz 1
                                · rw [hf1] at q1
                                  by_cases hu : q ≤ us1
                                  · have u1 : decide ((q : Int) ≤ (us1 : Int)) = true := by simp; omega
                                    go_wp2_with fail
                                    go_meet
                                    case rel => exact ⟨by rw [Fr.stop1 e, hf1, decide_eq_true hu]; rfl, rfl⟩
                                  · have u1 : decide ((q : Int) ≤ (us1 : Int)) = false := by simp; omega
                                    go_wp2_with fail
                                    go_meet
                                    case rel => exact ⟨by rw [Fr.stop1 e, hf1, decide_eq_false hu]; rfl, rfl⟩
                                · rw [hf1] at q1
                                  go_wp2_with fail
                                  go_meet
                                  case rel => exact ⟨by rw [Fr.stop1 e, hf1]; rfl, rfl⟩
                              · have e1 : (x : Int) % 3 = 2 := by omega
                                cases hf1 : fz 1
                                · rw [hf1] at q1
                                  by_cases hu : q ≤ us1
                                  · have u1 : decide ((q : Int) ≤ (us1 : Int)) = true := by simp; omega
                                    go_wp2_with fail
                                    go_meet
                                    case rel => exact ⟨by rw [Fr.stop2 e, hf1, decide_eq_true hu]; rfl, rfl⟩
                                  · have u1 : decide ((q : Int) ≤ (us1 : Int)) = false := by simp; omega
                                    go_wp2_with fail
                                    go_meet
                                    case rel => exact ⟨by rw [Fr.stop2 e, hf1, decide_eq_false hu]; rfl, rfl⟩
                                · rw [hf1] at q1
                                  go_wp2_with fail
                                  go_meet
                                  case rel => exact ⟨by rw [Fr.stop2 e, hf1]; rfl, rfl⟩
                            case rest =>
                              obtain ⟨rfl, hwc⟩ := hcut
                              subst wc
                              clear q1 q2
                              have hst := Hid.intro (Fr.mayTo_step q fz us1 aw x)
                              have hrx := Hid.intro (hrun.out x)
                              generalize Fr.stop q fz us1 x = sv at *
                              generalize Fr.mayTo q fz us1 aw x = mv at *
                              generalize aw x = ax at *
                              cases ax
                              · have hne : (x : Int) ≠ r := fun e => by have := (hrx.out e.symm).1; cases this
                                have hne' : ((x : Int) == r) = false := by simp; exact hne
                                go_wp2_with fail
                                go_roundw
                                case rel => exact ⟨x + 1, by rw [hst.out]; simp, by go_num, by omega, by first | rfl | trivial⟩
                                case measure => simp [intOf]; omega
                              · cases sv
                                · by_cases hre : (x : Int) = r
                                  · subst hre
                                    go_wp2_with fail
                                    go_roundw
                                    case rel => exact ⟨x + 1, by rw [hst.out]; simp, by go_num, by omega, by first | rfl | trivial⟩
                                    case measure => simp [intOf]; omega
                                  · have hne' : ((x : Int) == r) = false := by simp; exact hre
                                    go_wp2_with fail
                                    go_roundw
                                    case rel => exact ⟨x + 1, by rw [hst.out]; simp, by go_num, by omega, by first | rfl | trivial⟩
                                    case measure => simp [intOf]; omega
                                · have hne : (x : Int) ≠ r := fun e => by have := (hrx.out e.symm).2; cases this
                                  have hne' : ((x : Int) == r) = false := by simp; exact hne
                                  go_wp2_with fail
                                  go_roundw
                                  case rel => exact ⟨x + 1, by rw [hst.out]; simp, by go_num, by omega, by first | rfl | trivial⟩
                                  case measure => simp [intOf]; omega
                          · have hxI : ¬ (x : Int) < 6 := by omega
                            obtain rfl : x = 6 := by omega
                            rw [hmay.out]
                            by_cases hr0 : 0 ≤ r
                            · have hr0' : decide (0 ≤ r) = true := decide_eq_true hr0
                              by_cases hr3 : 0 < r % 3
                              · have hr3' : decide (0 < r.tmod 3) = true := by rw [Int.tmod_eq_emod_of_nonneg hr0]; exact decide_eq_true hr3
                                go_wp2_with fail
                                go_roundw
                                case rel => exact ⟨us1 + 1, j + 1, m5, by go_num, by go_num, by omega, by omega, HA5.out, by have := T5.out.1; unfold Fr.usedTo at this; rw [if_pos ⟨hr0, hr3⟩] at this; exact this, HN5.out⟩
                                case measure => simp [intOf]; omega
                              · have hr3' : decide (0 < r.tmod 3) = false := by rw [Int.tmod_eq_emod_of_nonneg hr0]; exact decide_eq_false hr3
                                go_wp2_with fail
                                go_roundw
                                case rel => exact ⟨us1, j + 1, m5, rfl, by go_num, by omega, by omega, HA5.out, by have := T5.out.1; unfold Fr.usedTo at this; rw [if_neg (fun c => hr3 c.2)] at this; exact this, HN5.out⟩
                                case measure => simp [intOf]; omega
                            · have hr0' : decide (0 ≤ r) = false := decide_eq_false hr0
                              go_wp2_with fail
                              go_roundw
                              case rel => exact ⟨us1, j + 1, m5, rfl, by go_num, by omega, by omega, HA5.out, by have := T5.out.1; unfold Fr.usedTo at this; rw [if_neg (fun c => hr0 c.1)] at this; exact this, HN5.out⟩
                              case measure => simp [intOf]; omega
                    · go_wp2_with fail
                      go_roundw
                      case rel => exact ⟨us, k + 1, m, aw, fz, rfl, by go_num, by omega, by omega, S.out.1.qs, S.out.2.1, by have := S.out.2.2; omega⟩
                      case measure => simp [intOf]; omega
            · have hkn : ¬ (k : Int) < (n0 : Int) := by omega
              go_wp2_with fail
              go_ret
              exact ⟨rfl, S.out.1.bel⟩

end Go.Proofs.Ytkbfmjdfhacikaa

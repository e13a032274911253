/- The walk of the law TopWake. -/
import Derived.Test.YtkbfmjdfhacikaaWw
import Derived.Deep.CutRange
import Derived.Deep.CutBlock
import Derived.Handy
namespace Go.Proofs.Ytkbfmjdfhacikaa
open Go.RowKit
open Fr (Un M)

theorem Hid.and {p q : Prop} (h : p) (k : q) : Hid (p ∧ q) := ⟨h, k⟩
set_option maxRecDepth 100000 in
set_option maxHeartbeats 3000000 in
theorem tw_near (a0 a1 : Option Addr) (n0 n1 c0 c1 : Nat) (w : World) (h0 : IsInts w a0 n0) (h1 : IsActs0 w a1 n1) (hn0 : n0 ≤ 15) (hn1 : n1 ≤ 150) :
    Calls Try.prog 10 #[.slice a0 n0 c0, .slice a1 n1 c1] w fun e w' => e = .returned (.bool true) ∧ Below w.heap.size w w' := by
  have H0 := Hid.intro h0
  have H1 := Hid.intro h1
  clear h0 h1
  have d1 : decide ((n1 : Int) ≤ 150) = true := by simp; omega
  have d0 : decide ((15 : Int) < (n0 : Int)) = false := by simp; omega
  go_enter Try.func10, Try.ntmps10
  go_wp2_with fail
  refine (new_any _).mono ?_
  rintro e W1 ⟨rfl, f1, b1, _⟩
  have F1 := Hid.intro f1
  have B1 := Hid.intro b1
  clear f1 b1
  go_wp2_with fail
  refine (addTask_any w.heap.size 0 0 7 Fr.m0 _ F1.out Fr.inv0).mono ?_
  rintro e W2 ⟨rfl, f2, r2⟩
  have F2 := Hid.intro f2
  have B2 := Hid.intro (r2.below B1.out (Nat.le_refl _) B1.out.size)
  clear f2 r2
  rw [Fr.wk_add0, errV_zero]
  go_wp2_with fail
  refine (wake_any w.heap.size 0 true _ _ F2.out (Fr.inv0.addTask 0 0 7)).mono ?_
  rintro e W3 ⟨rfl, m', k3, f3, r3⟩
  have B3 := Hid.intro (r3.below B2.out (Nat.le_refl _) B2.out.size)
  have K3 := Hid.intro (Fr.wk_start k3).2.1
  have N3 := Hid.intro (Fr.wk_start k3).2.2
  have F3 := Hid.intro f3
  rw [(Fr.wk_start k3).1, errV_zero]
  clear k3 f3 r3
  go_wp2_with fail
  refine (light_any _ _ _ _ _).mono ?_
  rintro e W4 ⟨rfl, hW4⟩
  subst W4
  rw [d1]
  have S0 := ws_start (fun i => if i = 0 then 7 else 0) B3.out (Nat.le_refl _) F3.out
  rw [zero20, zero20w, zeroB20] at S0
  have hlt := F3.out.lt
  go_wp2_with fail
  refine wp_gen (fun W => WS w W w.heap.size W3.heap.size m' (fun i => if i = 0 then 7 else 0) (fun _ => 0) (fun _ => 0) (fun _ => false)) S0 ?_
  intro W hS
  have S := Hid.and hS (And.intro K3.out N3.out)
  clear S0 hS K3 N3 F3 B3 F1 F2 B1 B2 d0 d1
  generalize W3.heap.size = c at *
  generalize w.heap.size = b at *
  go_loopw [10, 11] (fun nn i wr => ∃ (n k : Nat) (m : M) (wt : Nat → Nat), nn = .int .i64 n ∧ i = .int .i64 k ∧ k ≤ n0 ∧ 1 ≤ n ∧ n ≤ k + 1 ∧ Hid (WS w wr b c m wt (fun _ => 0) (fun _ => 0) (fun _ => false) ∧ Fr.Wk m n wt (fun _ => false) (fun _ => 0) (fun _ => 0) ∧ m.now = 0)) (fun _ i _ => n0 - (intOf i).toNat)
  case atStart => exact ⟨1, 0, m', _, rfl, rfl, by omega, by omega, by omega, S⟩
  case round =>
    clear S
    obtain ⟨n, k, m, wt, rfl, rfl, hk, hn1', hnk, S⟩ := hrel
    by_cases hlt' : k < n0
    · have hltI : (k : Int) < (n0 : Int) := by omega
      obtain ⟨b0, o0, z, ha, hz⟩ := H0.out.2 (by omega)
      subst ha
      have bl : b0 < w.heap.size := World.block_lt_of_cell? _ _ (hz k hlt')
      have cz : wr.cell? ⟨b0, o0 + k, none⟩ = some (.int .i64 (z k)) := (S.out.1.bel.cell (p := ⟨b0, o0 + k, none⟩) bl).trans (hz k hlt')
      clear hz
      generalize z k = zk at *
      go_wp2_with fail
      refine (addTask_any b n 0 zk m _ S.out.1.fair S.out.2.1.inv).mono ?_
      rintro e W5 ⟨rfl, f5, r5⟩
      have S5 := Hid.intro (S.out.1.frm f5 r5)
      clear f5 r5
      by_cases he : Fr.addTaskE m n 0 zk = 0
      · rw [he, errV_zero]
        have K5 := Hid.intro (S.out.2.1.add (by omega) he)
        obtain ⟨x, hx⟩ : ∃ x : Nat, zk = x := ⟨zk.toNat, by have := K5.out.2.1; omega⟩
        subst hx
        have cz5 : W5.cell? ⟨b0, o0 + k, none⟩ = some (.int .i64 (x : Int)) := by
          have := S5.out.bel.cell (p := ⟨b0, o0 + k, none⟩) bl
          rw [this]
          have := S.out.1.bel.cell (p := ⟨b0, o0 + k, none⟩) bl
          rw [← this]; exact cz
        have q1 := S5.out.wtA.cell n (by omega)
        have qf := S5.out.wtA.frozen
        have hnI : (n : Int) < 20 := by omega
        have hbb : Hid (b0 ≠ c) := Hid.intro (by have := S5.out.le; have := S5.out.lt; omega)
        clear cz he
        go_wp2_with fail
        go_roundw
        case rel => exact ⟨n + 1, k + 1, _, _, by go_num, by go_num, by omega, by omega, by omega, S5.out.setWt n x (by omega), by have := K5.out.1; rw [Int.toNat_natCast] at this; exact this, K5.out.2.2.2.trans S.out.2.2⟩
        case measure => simp [intOf]; omega
      · rw [errV_ne he]
        have e : Fr.addTaskM m n 0 zk = m := by unfold Fr.addTaskM Fr.addM; rw [if_neg he]
        rw [e] at S5
        clear he e cz
        go_wp2_with fail
        go_roundw
        case rel => exact ⟨n, k + 1, m, wt, rfl, by go_num, by omega, by omega, by omega, S5.out, S.out.2⟩
        case measure => simp [intOf]; omega
    · have hkn : ¬ (k : Int) < (n0 : Int) := by omega
      go_wp2_with fail
      have S2 : Hid (WS w wr b c m wt (fun _ => 0) (fun _ => 0) (fun _ => false) ∧ Fr.Wk m n wt (fun _ => false) (fun _ => 0) (fun _ => 0) ∧ m.now ≤ 40 * 0) := ⟨S.out.1, S.out.2.1, by rw [S.out.2.2]; omega⟩
      have hn16 : n ≤ 16 := by omega
      clear S hkn hlt' hk hnk H0 hlt
      go_loopw [12] (fun i wr => ∃ (k : Nat) (m : M) (ran mine : Nat → Nat) (aw : Nat → Bool), i = .int .i64 k ∧ k ≤ n1 ∧ Hid (WS w wr b c m wt ran mine aw ∧ Fr.Wk m n wt aw ran mine ∧ m.now ≤ 40 * k)) (fun i _ => n1 - (intOf i).toNat)
      case atStart => exact ⟨0, m, _, _, _, rfl, by omega, S2⟩
      case round =>
        clear S2
        obtain ⟨k, m, ran, mine, aw, rfl, hk, S⟩ := hrel
        by_cases hlt : k < n1
        · have hltI : (k : Int) < (n1 : Int) := by omega
          obtain ⟨b1, o1, ax, ha, hx⟩ := H1.out.2 (by omega)
          subst ha
          obtain ⟨kd, A, B, C, K, On, S1, T1, hax⟩ : ∃ kd A B C K On S1 T1, ax k = ⟨kd, A, B, C, K, On, S1, T1⟩ := ⟨_, _, _, _, _, _, _, _, rfl⟩
          have bl : b1 < w.heap.size := World.block_lt_of_cell? _ _ (hx k hlt 0 (by omega))
          have cl : ∀ j, j < 8 → wr.cell? ⟨b1, o1 + k * 8 + j, none⟩ = some ((⟨kd, A, B, C, K, On, S1, T1⟩ : Act8).cell j) := fun j hj => by
            rw [← hax]; exact (S.out.1.bel.cell (p := ⟨b1, o1 + k * 8 + j, none⟩) bl).trans (hx k hlt j hj)
          have c0' : wr.cell? ⟨b1, o1 + k * 8, none⟩ = some (.string kd) := cl 0 (by omega)
          have c1' : wr.cell? ⟨b1, o1 + k * 8 + 1, none⟩ = some (.int .i64 A) := cl 1 (by omega)
          have c2 : wr.cell? ⟨b1, o1 + k * 8 + 2, none⟩ = some (.int .i64 B) := cl 2 (by omega)
          have c3 : wr.cell? ⟨b1, o1 + k * 8 + 3, none⟩ = some (.int .i64 C) := cl 3 (by omega)
          have c4 : wr.cell? ⟨b1, o1 + k * 8 + 4, none⟩ = some (.int .u64 K) := cl 4 (by omega)
          have c5 : wr.cell? ⟨b1, o1 + k * 8 + 5, none⟩ = some (.bool On) := cl 5 (by omega)
          have c6 : wr.cell? ⟨b1, o1 + k * 8 + 6, none⟩ = some (.string S1) := cl 6 (by omega)
          have c7 : wr.cell? ⟨b1, o1 + k * 8 + 7, none⟩ = some (.string T1) := cl 7 (by omega)
          clear cl hax hx H1 bl
          go_upto_region 20 with fail
          refine wp_gen (fun W' => WA w W' b c wr.heap.size m wt ran mine aw #[.string kd, .int .i64 A, .int .i64 B, .int .i64 C, .int .u64 K, .bool On, .string S1, .string T1]) (WA.start S.out.1 _) ?_
          intro W3 H3
          have KW := Hid.intro S.out.2
          clear c0' c1' c2 c3 c4 c5 c6 c7 S
          generalize wr.heap.size = ba at *
          have x0 : W3.cell? ⟨ba, 0, none⟩ = some (.string kd) := by rw [cell_blk H3.act]; rfl
          have x1 : W3.cell? ⟨ba, 1, none⟩ = some (.int .i64 A) := by rw [cell_blk H3.act]; rfl
          have x2 : W3.cell? ⟨ba, 2, none⟩ = some (.int .i64 B) := by rw [cell_blk H3.act]; rfl
          have x5 : W3.cell? ⟨ba, 5, none⟩ = some (.bool On) := by rw [cell_blk H3.act]; rfl
          have HA := Hid.intro H3
          clear H3
          by_cases kw : (kd.toList == [119, 97, 107, 101]) = true
          · as_aux_lemma =>
            by_cases hA0 : A = 0
            · subst hA0
              go_wp2_with fail
              go_roundw
              case rel => exact ⟨k + 1, m, ran, mine, aw, by go_num, by omega, HA.out.ws, KW.out.1, by have := KW.out.2; omega⟩
              case measure => simp [intOf]; omega
            · have hA1 : (A != 0) = true := by rw [bne_iff_ne]; exact hA0
              go_wp2_with fail
              refine (wake_any b A On m _ HA.out.ws.fair KW.out.1.inv).mono ?_
              rintro e W4 ⟨rfl, m4, k4, f4, r4⟩
              have HA4 := Hid.intro (HA.out.frm f4 r4)
              have HN4 : Hid (m4.now = m.now) := Hid.intro (by
                rcases k4 with ⟨_, k4⟩ | ⟨_, rfl⟩
                · exact (Fr.look_here k4).1
                · rfl)
              by_cases he : Fr.taskE m A = 0
              · obtain ⟨x, rfl, hx⟩ := KW.out.1.task he
                rw [he, errV_zero]
                have hx0 : 0 < x := by omega
                have K4 := Hid.intro (KW.out.1.wake hx0 hx k4)
                clear k4 f4 r4 he x0 x1 x2 x5 hA0 hA1
                have x1 : W4.cell? ⟨ba, 1, none⟩ = some (.int .i64 (x : Int)) := by rw [cell_blk HA4.out.act]; rfl
                have x5 : W4.cell? ⟨ba, 5, none⟩ = some (.bool On) := by rw [cell_blk HA4.out.act]; rfl
                have q1 := HA4.out.ws.awA.cell x (by omega)
                have q2 := HA4.out.ws.ranA.cell x (by omega)
                have q3 := HA4.out.ws.minA.cell x (by omega)
                have g1 := HA4.out.ws.awA.frozen
                have g2 := HA4.out.ws.ranA.frozen
                have g3 := HA4.out.ws.minA.frozen
                have hxI : (x : Int) < 20 := by omega
                have hcb := HA4.out.lt
                have e1 : ba ≠ c + 1 := by omega
                have e2 : ba ≠ c + 1 + 1 := by omega
                have e3 : ba ≠ c + 1 + 1 + 1 := by omega
                clear hcb
                cases On
                · go_wp2_with fail
                  go_roundw
                  case rel => exact ⟨k + 1, m4, ran, mine, Fr.upB aw x false, by go_num, by omega, (HA4.out.setAw x false (by omega)).ws, K4.out, by rw [HN4.out]; have := KW.out.2; omega⟩
                  case measure => simp [intOf]; omega
                · cases ha : aw x
                  · rw [ha] at q1
                    have K5 : Hid (Fr.Wk m4 n wt (Fr.upB aw x true) (Fr.upN ran x 0) (Fr.upN mine x 0)) := Hid.intro (by have := K4.out; rw [ha] at this; exact this)
                    clear ha K4
                    go_wp2_with fail
                    go_roundw
                    case rel => exact ⟨k + 1, m4, _, _, Fr.upB aw x true, by go_num, by omega, (((HA4.out.setRan x 0 (by omega)).setMine x 0 (by omega)).setAw x true (by omega)).ws, K5.out, by rw [HN4.out]; have := KW.out.2; omega⟩
                    case measure => simp [intOf]; omega
                  · rw [ha] at q1
                    have K5 : Hid (Fr.Wk m4 n wt (Fr.upB aw x true) ran mine) := Hid.intro (by have := K4.out; rw [ha] at this; exact this)
                    clear ha K4
                    go_wp2_with fail
                    go_roundw
                    case rel => exact ⟨k + 1, m4, _, _, Fr.upB aw x true, by go_num, by omega, (HA4.out.setAw x true (by omega)).ws, K5.out, by rw [HN4.out]; have := KW.out.2; omega⟩
                    case measure => simp [intOf]; omega
              · have hm4 : m4 = m := by
                  rcases k4 with ⟨k4, _⟩ | ⟨_, k4⟩
                  · exact absurd k4 he
                  · exact k4
                rw [errV_ne he]
                subst m4
                clear k4 f4 r4 he x0 x1 x2 x5 hA0 hA1
                go_wp2_with fail
                go_roundw
                case rel => exact ⟨k + 1, m, ran, mine, aw, by go_num, by omega, HA4.out.ws, KW.out.1, by have := KW.out.2; omega⟩
                case measure => simp [intOf]; omega
          · have kw' : (kd.toList == [119, 97, 107, 101]) = false := by simpa using kw
            clear kw x1 x5
            as_aux_lemma =>
            go_wp2_with fail
            have H4 : Hid (WA w W3 b c ba m wt ran mine aw #[.string kd, .int .i64 A, .int .i64 B, .int .i64 C, .int .u64 K, .bool On, .string S1, .string T1] ∧ Fr.Wk m n wt aw ran mine ∧ m.now ≤ 40 * k + 0) := ⟨HA.out, KW.out.1, by have := KW.out.2; omega⟩
            clear HA KW x0 x2
            obtain ⟨lim, hlim⟩ : ∃ lim : Int, (if 40 < B then 40 else B) = lim := ⟨_, rfl⟩
            have hl40 : lim ≤ 40 := by rw [← hlim]; split <;> omega
            go_loopw [14] (fun i wr => ∃ (j : Nat) (m : M) (ran mine : Nat → Nat), i = .int .i64 j ∧ j ≤ 40 ∧ Hid (WA w wr b c ba m wt ran mine aw #[.string kd, .int .i64 A, .int .i64 B, .int .i64 C, .int .u64 K, .bool On, .string S1, .string T1] ∧ Fr.Wk m n wt aw ran mine ∧ m.now ≤ 40 * k + j)) (fun i _ => 40 - (intOf i).toNat)
            case atStart => exact ⟨0, m, ran, mine, rfl, by omega, H4⟩
            case round =>
              clear H4
              obtain ⟨j, m, ran, mine, rfl, hj, S⟩ := hrel
              have x2 : wr.cell? ⟨ba, 2, none⟩ = some (.int .i64 B) := by rw [cell_blk S.out.1.act]; rfl
              by_cases hB : (j : Int) < lim
              · have hj40 : j < 40 := by omega
                go_wp2_with fail
                refine (tick_any b m _ S.out.1.ws.fair S.out.2.1.inv (by have := S.out.2.2; omega)).mono ?_
                rintro e W5 ⟨r, m5, rfl, t5, f5, r5⟩
                obtain ⟨y, hy, rfl, hya, K5'⟩ := S.out.2.1.tick t5
                have HA5 := Hid.intro (S.out.1.frm f5 r5)
                have K5 := Hid.and K5' (show m5.now ≤ 40 * k + (j + 1) by have := S.out.2.2; rw [(S.out.2.1.inv.tick t5).2]; omega)
                clear t5 f5 r5 K5' S x2 hB
                have y1 : (y : Int) < (n : Int) := by omega
                have y2 : decide ((n : Int) ≤ (y : Int)) = false := by simp; omega
                have q1 := HA5.out.ws.awA.cell y (by omega)
                have hyI : (y : Int) < 20 := by omega
                have HY := Hid.intro hya
                have q2 : 0 < (y : Int) → W5.cell? ⟨c + 1 + 1 + 1, y, none⟩ = some (.bool true) := fun h => by rw [q1, HY.out.resolve_left (by omega)]
                clear q1 hya
                have L0 : Hid (WA w W5 b c ba m5 wt (Fr.mixN ran (Fr.ranTo n ran y) 1) (Fr.mixN mine (Fr.mineTo mine y) 1) aw #[.string kd, .int .i64 A, .int .i64 B, .int .i64 C, .int .u64 K, .bool On, .string S1, .string T1]) := Hid.intro (by
                  rw [Fr.mixN_one _ _ (by unfold Fr.ranTo; rw [if_neg (by omega)]), Fr.mixN_one _ _ (by unfold Fr.mineTo; rw [if_neg (by omega)])]
                  exact HA5.out)
                clear HA5
                go_upto_region 30 with fail
                go_cut [132] from 107 to 174 (fun r wc => r = .bool false ∧ wc = W5)
                case first =>
                  by_cases y0 : (0 : Int) < (y : Int)
                  · have q3 := q2 y0
                    clear q2
                    go_wp2_with fail
                    go_meet
                    case rel => exact ⟨by rw [decide_eq_false (show ¬ (y : Int) < 0 by omega), decide_eq_false (show ¬ n ≤ y by omega)]; rfl, rfl⟩
                  · have y0' : decide ((0 : Int) < (y : Int)) = false := by simp; omega
                    clear q2
                    go_wp2_with fail
                    go_meet
                    case rel => exact ⟨by rw [decide_eq_false (show ¬ (y : Int) < 0 by omega), decide_eq_false (show ¬ n ≤ y by omega)]; rfl, rfl⟩
                case rest =>
                  obtain ⟨rfl, hwc⟩ := hcut
                  subst wc
                  clear q2 y1 y2
                  go_wp2_with fail
                  go_loopw [16] (fun i wr => ∃ (x : Nat), i = .int .i64 x ∧ 1 ≤ x ∧ x ≤ n ∧ Hid (WA w wr b c ba m5 wt (Fr.mixN ran (Fr.ranTo n ran y) x) (Fr.mixN mine (Fr.mineTo mine y) x) aw #[.string kd, .int .i64 A, .int .i64 B, .int .i64 C, .int .u64 K, .bool On, .string S1, .string T1])) (fun i _ => n - (intOf i).toNat)
                  case atStart => exact ⟨1, rfl, by omega, by omega, L0⟩
                  case round =>
                    clear L0
                    obtain ⟨x, rfl, hx1, hxn, L⟩ := hrel
                    by_cases hx : x < n
                    · have hxI : (x : Int) < (n : Int) := by omega
                      have hx20 : (x : Int) < 20 := by omega
                      have hbd := K5.out.1.bd x hx
                      have hnow := K5.out.2
                      have e1 : Fr.mixN mine (Fr.mineTo mine y) x x = mine x := Fr.mixN_at _ _ _
                      have e2 : Fr.mixN ran (Fr.ranTo n ran y) x x = ran x := Fr.mixN_at _ _ _
                      have hmv : mine x ≤ Fr.mineTo mine y x := by unfold Fr.mineTo; split <;> omega
                      have hrv : ran x ≤ Fr.ranTo n ran y x := by unfold Fr.ranTo; split <;> omega
                      have q1 := L.out.ws.minA.cell x (by omega)
                      have qf := L.out.ws.minA.frozen
                      simp only [e1] at q1
                      generalize hMN : mine x = mx at *
                      have hmx : mx ≤ 1000000 := by omega
                      have HMN := Hid.intro hMN
                      clear hMN e1
                      go_upto_if 140 with fail
                      go_cut [] from 133 to 174 (fun wc => Hid (WA w wc b c ba m5 wt (Fr.mixN ran (Fr.ranTo n ran y) x) (Fr.mixN mine (Fr.mineTo mine y) (x + 1)) aw #[.string kd, .int .i64 A, .int .i64 B, .int .i64 C, .int .u64 K, .bool On, .string S1, .string T1]))
                      case first =>
                        by_cases exy : y = x
                        · have eb : ((y : Int) == (x : Int)) = true := by simp; omega
                          go_wp2_with fail
                          go_meet
                          case rel =>
                            have := L.out.setMine x (mx + 1) (by omega)
                            rw [Fr.mixN_step, show Fr.mineTo mine y x = mx + 1 by unfold Fr.mineTo; rw [if_pos ⟨exy.symm, by omega⟩, HMN.out]]
                            exact this
                        · have eb : ((y : Int) == (x : Int)) = false := by simp; omega
                          go_wp2_with fail
                          go_meet
                          case rel =>
                            rw [Fr.mixN_keep _ _ _ (by unfold Fr.mineTo; rw [if_neg (by omega)])]
                            exact L.out
                      case rest =>
                        have L1 := hcut
                        clear q1 qf L HMN hcut
                        have q2 := L1.out.ws.ranA.cell x (by omega)
                        have qf := L1.out.ws.ranA.frozen
                        simp only [e2] at q2
                        generalize hRN : ran x = rx at *
                        have hrx : rx ≤ 1000000 := by omega
                        have HRN := Hid.intro hRN
                        clear hRN e2
                        go_upto_if 147 with fail
                        go_cut [] from 133 to 174 (fun wc => Hid (WA w wc b c ba m5 wt (Fr.mixN ran (Fr.ranTo n ran y) (x + 1)) (Fr.mixN mine (Fr.mineTo mine y) (x + 1)) aw #[.string kd, .int .i64 A, .int .i64 B, .int .i64 C, .int .u64 K, .bool On, .string S1, .string T1]))
                        case first =>
                          by_cases ey : y = 0
                          · have eb : ((y : Int) == 0) = true := by simp; omega
                            go_wp2_with fail
                            go_meet
                            case rel =>
                              have := L1.out.setRan x (rx + 1) (by omega)
                              rw [Fr.mixN_step ran, show Fr.ranTo n ran y x = rx + 1 by unfold Fr.ranTo; rw [if_pos ⟨ey, by omega, hx⟩, HRN.out]]
                              exact this
                          · have eb : ((y : Int) == 0) = false := by simp; omega
                            go_wp2_with fail
                            go_meet
                            case rel =>
                              rw [Fr.mixN_keep ran _ _ (by unfold Fr.ranTo; rw [if_neg (by omega)])]
                              exact L1.out
                        case rest =>
                          have L2 := hcut
                          clear q2 qf L1 HRN hcut hmv hrv hrx hmx
                          have f1 : Fr.mixN mine (Fr.mineTo mine y) (x + 1) x = Fr.mineTo mine y x := by rw [Fr.mixN_step, Fr.upN_same]
                          have f2 : Fr.mixN ran (Fr.ranTo n ran y) (x + 1) x = Fr.ranTo n ran y x := by rw [Fr.mixN_step, Fr.upN_same]
                          have q1 := L2.out.ws.minA.cell x (by omega)
                          have q2 := L2.out.ws.ranA.cell x (by omega)
                          have q3 := L2.out.ws.awA.cell x (by omega)
                          have q4 := L2.out.ws.wtA.cell x (by omega)
                          simp only [f1] at q1
                          simp only [f2] at q2
                          have hw := K5.out.1.inv.wt (10 + x) (by omega) (by omega) (K5.out.1.th hx)
                          rw [K5.out.1.wtE x hx] at hw
                          have hok := K5.out.1.ok (x := x) (by omega) hx
                          have hO : ((1048576 : Int) / (wt x : Int)) = ((1048576 / wt x : Nat) : Int) := rfl
                          have hO2 : 1048576 / wt x ≤ 1048576 := Nat.div_le_self _ _
                          obtain ⟨P, hP⟩ : ∃ P, Fr.mineTo mine y x * (1048576 / wt x) = P := ⟨_, rfl⟩
                          have hPb : P ≤ 1000000 * 1048576 := by rw [← hP]; exact Nat.mul_le_mul (by omega) hO2
                          rw [hP] at hok
                          have hP2 : ((Fr.mineTo mine y x : Nat) : Int) * ((1048576 / wt x : Nat) : Int) = (P : Int) := by rw [← hP]; exact (Int.natCast_mul _ _).symm
                          generalize Fr.mineTo mine y x = MV at *
                          generalize Fr.ranTo n ran y x = RV at *
                          generalize 1048576 / wt x = O at *
                          generalize wt x = qv at *
                          have z1 : ((qv : Int) == 0) = false := by simp; omega
                          clear hP f1 f2
                          cases hax : aw x
                          · rw [hax] at q3
                            clear hok hax
                            go_wp2_with fail
                            go_quiet (fail)
                            go_wp2_with fail
                            go_roundw
                            case rel => exact ⟨x + 1, by go_num, by omega, by omega, L2.out.drewN _⟩
                            case measure => simp [intOf]; omega
                          · rw [hax] at q3
                            have hk := hok hax
                            have z2 : decide ((O : Int) + 149796 < (P : Int) - (RV : Int) * 149796) = false := by simp; omega
                            clear hok hax
                            go_wp2_with fail
                            go_quiet (fail)
                            go_wp2_with fail
                            go_roundw
                            case rel => exact ⟨x + 1, by go_num, by omega, by omega, L2.out.drewN _⟩
                            case measure => simp [intOf]; omega
                    · have hxI : ¬ (x : Int) < (n : Int) := by omega
                      obtain rfl : x = n := by omega
                      go_wp2_with fail
                      go_roundw
                      case rel =>
                        refine ⟨j + 1, m5, _, _, by go_num, by omega, ?_, K5.out.1, K5.out.2⟩
                        have := L.out
                        rw [Fr.ranTo_all, Fr.mineTo_all _ _ _ hy] at this
                        exact this
                      case measure => simp [intOf]; omega
              · go_wp2_with fail
                go_roundw
                case rel => exact ⟨k + 1, m, ran, mine, aw, by go_num, by omega, S.out.1.ws, S.out.2.1, by have := S.out.2.2; omega⟩
                case measure => simp [intOf]; omega
        · have hkn : ¬ (k : Int) < (n1 : Int) := by omega
          go_wp2_with fail
          go_ret
          exact ⟨rfl, S.out.1.bel⟩

end Go.Proofs.Ytkbfmjdfhacikaa

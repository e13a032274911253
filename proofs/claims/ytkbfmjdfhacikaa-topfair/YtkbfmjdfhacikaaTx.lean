/- The walk of the law TopFair. -/
import Derived.Test.YtkbfmjdfhacikaaTa
import Derived.Deep.CutRange
import Derived.Deep.CutBlock
import Derived.Handy
namespace Go.Proofs.Ytkbfmjdfhacikaa
open Go.RowKit
open Fr (Un M)
attribute [local go_sem] max_if

set_option maxRecDepth 100000 in
set_option maxHeartbeats 4000000 in
theorem tt_near (a0 a1 : Option Addr) (n0 n1 c0 c1 : Nat) (T : Nat) (w : World) (h0 : IsInts w a0 n0) (h1 : IsInts w a1 n1) (hn0 : n0 ≤ 12) (hn1 : n1 ≤ 12) (hT : T ≤ 500) :
    Calls Try.prog 8 #[.slice a0 n0 c0, .slice a1 n1 c1, .int .i64 (T : Int)] w fun e w' => e = .returned (.bool true) ∧ Below w.heap.size w w' := by
  have H0 := Hid.intro h0
  have H1 := Hid.intro h1
  clear h0 h1
  have k0' : decide ((12 : Int) < (n0 : Int)) = false := by simp; omega
  have k1' : decide ((12 : Int) < (n1 : Int)) = false := by simp; omega
  have k3' : decide ((500 : Int) < (T : Int)) = false := by simp; omega
  go_enter Try.func8, Try.ntmps8
  go_wp2_with fail
  refine (new_any _).mono ?_
  rintro e W1 ⟨rfl, f1, b1, _⟩
  have F1 := Hid.intro f1
  have B1 := Hid.intro b1
  clear f1 b1
  go_wp2_with fail
  refine (addTask_any w.heap.size 0 0 1 Fr.m0 _ F1.out Fr.inv0).mono ?_
  rintro e W2 ⟨rfl, f2, r2⟩
  have F2 := Hid.intro f2
  have B2 := Hid.intro (r2.below B1.out (Nat.le_refl _) B1.out.size)
  clear f2 r2
  rw [show Fr.addTaskE Fr.m0 0 0 1 = 0 by decide, errV_zero]
  go_wp2_with fail
  refine (wake_any w.heap.size 0 true _ _ F2.out (Fr.inv0.addTask 0 0 1)).mono ?_
  rintro e W3 ⟨rfl, m', k3, f3, r3⟩
  have B3 := Hid.intro (r3.below B2.out (Nat.le_refl _) B2.out.size)
  have F3 := Hid.intro f3
  have K3 := Hid.intro k3
  rw [(Fr.tf_one' k3).2.1, errV_zero]
  clear k3 f3 r3
  go_wp2_with fail
  refine (tick_any w.heap.size m' _ F3.out (Fr.tf_one' K3.out).2.2.1 (by rw [(Fr.tf_one' K3.out).2.2.2]; omega)).mono ?_
  rintro e W4 ⟨r, m4, rfl, t4, f4, r4⟩
  have B4 := Hid.intro (r4.below B3.out (Nat.le_refl _) B3.out.size)
  rw [(Fr.tf_one K3.out t4).2.2.2.2]
  clear t4 f4 r4
  go_wp2_with fail
  refine (new_any _).mono ?_
  rintro e W5 ⟨rfl, f5, b5, _⟩
  have S0 := fs_start (w := w) (B4.out.trans (b5.mono B4.out.size)) B4.out.size f5
  rw [zeroF20, zeroF4] at S0
  clear f5 b5 F1 F2 F3 B1 B2 B3 K3 k0' k1' k3'
  go_wp2_with fail
  refine wp_gen (fun W => Fqq w W W4.heap.size W5.heap.size Fr.m0 (fun _ => 0) (fun _ => 0) (fun _ => 0)) S0 ?_
  intro W hS
  have S : Hid (Fqq w W W4.heap.size W5.heap.size Fr.m0 (fun _ => 0) (fun _ => 0) (fun _ => 0) ∧ Fr.Tf Fr.m0 1 0 0 (fun _ => 0) (fun _ => 0) (fun _ => 0) ∧ Fr.Zr Fr.m0) := ⟨hS, Fr.tf0⟩
  clear S0 hS B4
  generalize W4.heap.size = b at *
  generalize W5.heap.size = c at *
  go_loopw [11] (fun i wr => ∃ (j : Nat) (m : M) (gw : Nat → Nat), i = .int .i64 j ∧ 1 ≤ j ∧ j ≤ 4 ∧ Hid (Fqq w wr b c m (fun _ => 0) (fun _ => 0) gw ∧ Fr.Tf m j 0 0 (fun _ => 0) (fun _ => 0) gw ∧ Fr.Zr m)) (fun i _ => 4 - (intOf i).toNat)
  case atStart => exact ⟨1, Fr.m0, _, rfl, by omega, by omega, S⟩
  case round =>
    clear S
    obtain ⟨j, m, gw, rfl, hj1, hj4, S⟩ := hrel
    by_cases hj : j < 4
    · have hjI : (j : Int) < 4 := by omega
      obtain ⟨v, hv⟩ : ∃ v : Nat, (7 * (j : Int) + (n0 : Int)) % 9 = v := ⟨(7 * j + n0) % 9, by omega⟩
      have hv9 : v < 9 := by omega
      have q1 := S.out.1.gwA.cell j hj
      have qf := S.out.1.gwA.frozen
      go_upto_region 13 with fail
      have S2 := S.out.1.setGw j (1 + v) hj
      rw [show (((1 + v : Nat)) : Int) = 1 + (v : Int) by omega] at S2
      refine wp_gen (fun W => Fqq w W b c m (fun _ => 0) (fun _ => 0) (Fr.up' gw j (1 + v))) S2 ?_
      intro W2 hS2
      have q2 : W2.cell? ⟨c + 1 + 1, j, none⟩ = some (.int .i64 (1 + (v : Int))) := by
        have := hS2.gwA.cell j hj
        rw [this]; unfold natF; rw [Fr.up'_same, show (((1 + v : Nat)) : Int) = 1 + (v : Int) by omega]
      have HS2 := Hid.intro hS2
      have HT := Hid.intro (S.out.2.1.addGroup S.out.2.2 hj (w := 1 + v) ⟨by omega, by omega⟩)
      rw [show (((1 + v : Nat)) : Int) = 1 + (v : Int) by omega] at HT
      have HI := Hid.intro S.out.2.1.inv
      clear q1 qf S2 hS2 S hv
      go_wp2_with fail
      refine (addGroup_any b j 0 (1 + (v : Int)) m _ HS2.out.fair HI.out).mono ?_
      rintro e W6 ⟨rfl, f6, r6⟩
      rw [HT.out.1, errV_zero]
      have S6 := Hid.intro (HS2.out.frm f6 r6)
      clear f6 r6 q2
      go_wp2_with fail
      go_roundw
      case rel => exact ⟨j + 1, _, _, by go_num, by omega, by omega, S6.out, HT.out.2⟩
      case measure => simp [intOf]; omega
    · have hjI : ¬ (j : Int) < 4 := by omega
      obtain rfl : j = 4 := by omega
      go_wp2_with fail
      have S2 : Hid (Fqq w wr b c m (fun _ => 0) (fun _ => 0) gw ∧ Fr.Tf m 4 0 0 (fun _ => 0) (fun _ => 0) gw ∧ Fr.Zr m) := S
      clear S hj hj1 hj4 hjI
      go_loopw [12, 13] (fun nn i wr => ∃ (n k : Nat) (m : M) (wt gf : Nat → Nat), nn = .int .i64 n ∧ i = .int .i64 k ∧ k ≤ n0 ∧ n ≤ k ∧ Hid (Fqq w wr b c m wt gf gw ∧ Fr.Tf m 4 n 0 wt gf gw ∧ Fr.Zr m)) (fun _ i _ => n0 - (intOf i).toNat)
      case atStart => exact ⟨0, 0, m, _, _, rfl, rfl, by omega, by omega, S2⟩
      case round =>
        clear S2
        obtain ⟨n, k, m, wt, gf, rfl, rfl, hk, hnk, S⟩ := hrel
        by_cases hlt : k < n0
        · have hltI : (k : Int) < (n0 : Int) := by omega
          obtain ⟨b0, o0, z, ha, hz⟩ := H0.out.2 (by omega)
          subst ha
          have bl : b0 < w.heap.size := World.block_lt_of_cell? _ _ (hz k hlt)
          have cz : wr.cell? ⟨b0, o0 + k, none⟩ = some (.int .i64 (z k)) := (S.out.1.bel.cell (p := ⟨b0, o0 + k, none⟩) bl).trans (hz k hlt)
          clear hz
          generalize z k = zk at *
          go_upto_if 101 with fail
          go_cut [15] from 88 to 121 (fun g wc => ∃ G : Nat, G ≤ 3 ∧ g = .int .i64 G ∧ wc = wr)
          case first =>
            by_cases hlt1 : k < n1
            · have hlt1I : (k : Int) < (n1 : Int) := by omega
              obtain ⟨b1, o1, y, ha1, hy⟩ := H1.out.2 (by omega)
              subst ha1
              have bl1 : b1 < w.heap.size := World.block_lt_of_cell? _ _ (hy k hlt1)
              have cy : wr.cell? ⟨b1, o1 + k, none⟩ = some (.int .i64 (y k)) := (S.out.1.bel.cell (p := ⟨b1, o1 + k, none⟩) bl1).trans (hy k hlt1)
              clear hy
              generalize y k = yk at *
              by_cases y0 : yk < 0
              · have e1 : (if yk < 0 then 0 else yk) = 0 := if_pos y0
                go_wp2_with fail
                go_meet
                case rel => exact ⟨0, by omega, rfl, rfl⟩
              · have y0' : ¬ yk < 0 := y0
                by_cases y3 : 3 < yk
                · go_wp2_with fail
                  go_meet
                  case rel => exact ⟨3, by omega, rfl, rfl⟩
                · obtain ⟨Y, rfl⟩ := Int.eq_ofNat_of_zero_le (show 0 ≤ yk by omega)
                  have y3' : ¬ (3 : Int) < (Y : Int) := y3
                  go_wp2_with fail
                  go_meet
                  case rel => exact ⟨Y, by omega, rfl, rfl⟩
            · have hlt1I : ¬ (k : Int) < (n1 : Int) := by omega
              go_wp2_with fail
              go_meet
              case rel => exact ⟨0, by omega, rfl, rfl⟩
          case rest =>
            obtain ⟨G, hG3, rfl, hwc⟩ := hcut
            subst wc
            clear cz
            go_wp2_with fail
            refine (addTask_any b n G zk m _ S.out.1.fair S.out.2.1.inv).mono ?_
            rintro e W7 ⟨rfl, f7, r7⟩
            have S7 := Hid.intro (S.out.1.frm f7 r7)
            clear f7 r7
            by_cases he : Fr.addTaskE m n G zk = 0
            · rw [he, errV_zero]
              have K7 := Hid.intro (S.out.2.1.addTask S.out.2.2 (by omega) he)
              obtain ⟨x, hx⟩ : ∃ x : Nat, zk = x := ⟨zk.toNat, by have := K7.out.2.2; omega⟩
              subst hx
              have q1 := S7.out.wtA.cell n (by omega)
              have qf := S7.out.wtA.frozen
              have q2 := S7.out.gfA.cell n (by omega)
              have qg := S7.out.gfA.frozen
              have hnI : (n : Int) < 20 := by omega
              clear he
              go_wp2_with fail
              go_roundw
              case rel => exact ⟨n + 1, k + 1, _, _, _, by go_num, by go_num, by omega, by omega, (S7.out.setWt n x (by omega)).setGf n G (by omega), by have := K7.out; rw [Int.toNat_natCast] at this; exact ⟨this.1, this.2.1⟩⟩
              case measure => simp [intOf]; omega
            · rw [errV_ne he]
              have e : Fr.addTaskM m n G zk = m := by unfold Fr.addTaskM Fr.addM; rw [if_neg he]
              rw [e] at S7
              clear he e
              go_wp2_with fail
              go_roundw
              case rel => exact ⟨n, k + 1, m, wt, gf, rfl, by go_num, by omega, by omega, S7.out, S.out.2⟩
              case measure => simp [intOf]; omega
        · have hkn : ¬ (k : Int) < (n0 : Int) := by omega
          have hn12 : n ≤ 12 := by omega
          go_wp2_with fail
          have S3 : Hid (Fqq w wr b c m wt gf gw ∧ Fr.Tf m 4 n 0 wt gf gw ∧ Fr.Zr m) := S
          clear S hkn hlt hk hnk H0 H1
          go_loopw [16] (fun i wr => ∃ (k : Nat) (m : M), i = .int .i64 k ∧ k ≤ n ∧ Hid (Fqq w wr b c m wt gf gw ∧ Fr.Tf m 4 n k wt gf gw ∧ Fr.Zr m)) (fun i _ => n - (intOf i).toNat)
          case atStart => exact ⟨0, m, rfl, by omega, S3⟩
          case round =>
            clear S3
            obtain ⟨k, m, rfl, hk, S⟩ := hrel
            by_cases hlt : k < n
            · have hltI : (k : Int) < (n : Int) := by omega
              go_wp2_with fail
              refine (wake_any b k true m _ S.out.1.fair S.out.2.1.inv).mono ?_
              rintro e W8 ⟨rfl, m8, k8, f8, r8⟩
              have S8 := Hid.two (S.out.1.frm f8 r8) (S.out.2.1.wake S.out.2.2 hlt k8)
              rw [Fr.taskE_nat (by omega) (S.out.2.1.hT hlt), errV_zero]
              clear k8 f8 r8
              go_wp2_with fail
              go_roundw
              case rel => exact ⟨k + 1, m8, by go_num, by omega, S8⟩
              case measure => simp [intOf]; omega
            · have hltI : ¬ (k : Int) < (n : Int) := by omega
              have hnk : n = k := by omega
              subst hnk
              have S4 := fr_start S.out.1
              rw [zeroF20, zeroF4] at S4
              go_wp2_with fail
              refine wp_gen (fun W => FR w W b c wr.heap.size m wt gf gw (fun _ => 0) (fun _ => 0)) S4 ?_
              intro W9 h9
              have L0 : Hid (FR w W9 b c wr.heap.size m wt gf gw (Fr.ranF m n) (fun _ => 0) ∧ Fr.Tf m 4 n n wt gf gw ∧ Fr.Even m n gf ∧ m.now = 0 ∧ (∀ g, 0 < g → g < 4 → 0 = (m.u g).ran) ∧ 0 ≤ 0) := ⟨by rw [Fr.ranF_zr S.out.2.2 hn12]; exact h9, S.out.2.1, Fr.even_zr S.out.2.2 S.out.2.1, S.out.2.2.1, fun g g0 hg => ((S.out.2.2.2 g (by omega)).2.2).symm, Nat.le_refl _⟩
              clear S4 h9 S hltI hlt hk
              generalize wr.heap.size = d at *
              go_loopw [19] (fun i wr => ∃ (k : Nat) (m : M) (gr : Nat → Nat), i = .int .i64 k ∧ k ≤ T ∧ Hid (FR w wr b c d m wt gf gw (Fr.ranF m n) gr ∧ Fr.Tf m 4 n n wt gf gw ∧ Fr.Even m n gf ∧ m.now = k ∧ (∀ g, 0 < g → g < 4 → gr g = (m.u g).ran) ∧ gr 0 ≤ k)) (fun i _ => T - (intOf i).toNat)
              case atStart => exact ⟨0, m, _, rfl, by omega, L0⟩
              case round =>
                clear L0
                obtain ⟨k, m, gr, rfl, hk, S⟩ := hrel
                by_cases hlt : k < T
                · have hltI : (k : Int) < (T : Int) := by omega
                  as_aux_lemma =>
                  go_wp2_with fail
                  refine (tick_any b m _ S.out.1.fs.fair S.out.2.1.inv (by rw [S.out.2.2.2.1]; omega)).mono ?_
                  rintro e W5 ⟨r, m5, rfl, t5, f5, r5⟩
                  have tk := S.out.2.1.tick S.out.2.2.1 t5
                  have HA5 := Hid.intro (S.out.1.frm f5 r5)
                  have HN5 : Hid (m5.now = k + 1) := Hid.intro (tk.2.2.1.trans (by rw [S.out.2.2.2.1]))
                  by_cases hn0' : n = 0
                  · have hr : r = -1 ∧ ∀ v, (m5.u v).ran = (m.u v).ran := by
                      rcases tk.2.2.2 with ⟨_, e⟩ | ⟨y, hy, _⟩
                      · exact e
                      · omega
                    have HRn := Hid.intro hr.2
                    have hr1 := hr.1
                    subst hr1
                    have T5 := Hid.two tk.1 tk.2.1
                    have hnn : ((n : Int) == 0) = true := by simp; omega
                    have HZ := Hid.intro hn0'
                    clear tk t5 f5 r5 hr hn0'
                    go_wp2_with fail
                    go_roundw
                    case rel =>
                      refine ⟨k + 1, m5, gr, by go_num, by omega, ?_, T5.out.1, T5.out.2, HN5.out, fun g g0 hg => by rw [HRn.out]; exact S.out.2.2.2.2.1 g g0 hg, by have := S.out.2.2.2.2.2; omega⟩
                      have e : Fr.ranF m5 n = Fr.ranF m n := by funext i; unfold Fr.ranF; rw [HRn.out]
                      rw [e]; exact HA5.out
                    case measure => simp [intOf]; omega
                  · have hnn : ((n : Int) == 0) = false := by simp; omega
                    obtain ⟨y, hy, hr, hrt, hrg⟩ : ∃ y, y < n ∧ r = (y : Int) ∧ (∀ i, i < n → (m5.u (10 + i)).ran = (m.u (10 + i)).ran + if i = y then 1 else 0) ∧ ∀ g, 0 < g → g < 10 → (m5.u g).ran = (m.u g).ran + if gf y = g then 1 else 0 := by
                      rcases tk.2.2.2 with ⟨e, _⟩ | h
                      · omega
                      · exact h
                    subst hr
                    have T5 := Hid.two tk.1 tk.2.1
                    have hgy := (S.out.2.1.inT y hy).2.2
                    have q1 := HA5.out.ranA.cell y (by omega)
                    have qf := HA5.out.ranA.frozen
                    have q2 := HA5.out.fs.gfA.cell y (by omega)
                    have q3 := HA5.out.grA.cell (gf y) hgy
                    have qg := HA5.out.grA.frozen
                    have rb := (S.out.2.1.inv.tm (10 + y) (by omega)).2.2.2
                    rw [S.out.2.2.2.1] at rb
                    have gb : gr (gf y) ≤ k := by
                      by_cases e : gf y = 0
                      · rw [e]; exact S.out.2.2.2.2.2
                      · rw [S.out.2.2.2.2.1 _ (by omega) hgy]
                        have := (S.out.2.1.inv.tm (gf y) (by omega)).2.2.2
                        rw [S.out.2.2.2.1] at this; exact this
                    have HR := Hid.intro (Fr.ranF_up hy hrt)
                    have HGR : Hid (∀ g, 0 < g → g < 4 → Fr.up' gr (gf y) (gr (gf y) + 1) g = (m5.u g).ran) := Hid.intro (fun g g0 hg => by
                      rw [hrg g g0 (by omega)]
                      unfold Fr.up'
                      by_cases e : g = gf y
                      · rw [if_pos e, if_pos e.symm, ← e, S.out.2.2.2.2.1 g g0 hg]
                      · rw [if_neg e, if_neg (fun h => e h.symm), Nat.add_zero, S.out.2.2.2.2.1 g g0 hg])
                    have HG0 : Hid (Fr.up' gr (gf y) (gr (gf y) + 1) 0 ≤ k + 1) := Hid.intro (by
                      have := S.out.2.2.2.2.2
                      unfold Fr.up'; split <;> omega)
                    unfold natF at q1 q2 q3
                    rw [Fr.ranF_at hy] at q1
                    generalize (m.u (10 + y)).ran = rv at *
                    generalize gr (gf y) = gv at *
                    generalize hgyv : gf y = G at *
                    have HGY := Hid.intro hgyv
                    have e1 : c + 1 ≠ d := by have := HA5.out.lt; omega
                    have hyI : (y : Int) < 20 := by omega
                    have hGI : (G : Int) < 4 := by omega
                    have y2 : decide ((n : Int) ≤ (y : Int)) = false := by simp; omega
                    clear tk t5 f5 r5 hrt hrg S hgyv
                    go_upto_region 45 with fail
                    refine wp_gen (fun W => FR w W b c d m5 wt gf gw (Fr.ranF m5 n) (Fr.up' gr G (gv + 1))) (by
                      have := (HA5.out.setRan y (rv + 1) (by omega)).setGr G (gv + 1) (by omega)
                      rw [← HR.out] at this
                      exact this) ?_
                    intro W9 h9
                    have L9 := Hid.intro h9
                    generalize Fr.up' gr G (gv + 1) = gr5 at *
                    clear h9 HA5 HR q1 q2 q3 qf qg y2 hyI hGI e1 hnn
                    go_wp2_with fail
                    go_loopw [21] (fun i wr => ∃ (x : Nat), i = .int .i64 x ∧ x ≤ n ∧ Hid (FR w wr b c d m5 wt gf gw (Fr.ranF m5 n) gr5)) (fun i _ => n - (intOf i).toNat)
                    case atStart => exact ⟨0, rfl, by omega, L9⟩
                    case round =>
                      clear L9
                      obtain ⟨x, rfl, hxn, L⟩ := hrel
                      by_cases hx : x < n
                      · have hxI : (x : Int) < (n : Int) := by omega
                        have hx20 : (x : Int) < 20 := by omega
                        go_wp2_with fail
                        go_loopw [22] (fun i wr => ∃ (z : Nat), i = .int .i64 z ∧ z ≤ n ∧ Hid (FR w wr b c d m5 wt gf gw (Fr.ranF m5 n) gr5)) (fun i _ => n - (intOf i).toNat)
                        case atStart => exact ⟨0, rfl, by omega, L⟩
                        case round =>
                          clear L
                          obtain ⟨z, rfl, hzn, L⟩ := hrel
                          by_cases hz : z < n
                          · as_aux_lemma =>
                            have hzI : (z : Int) < (n : Int) := by omega
                            have hz20 : (z : Int) < 20 := by omega
                            have q1 := L.out.fs.gfA.cell x (by omega)
                            have q2 := L.out.fs.gfA.cell z (by omega)
                            unfold natF at q1 q2
                            by_cases hg : gf x = gf z
                            · have hgb : ((gf x : Int) != (gf z : Int)) = false := by rw [bne_eq_false_iff_eq]; omega
                              have hok := T5.out.1.ok T5.out.2 hx hz hg
                              rw [← Fr.ranF_at hx, ← Fr.ranF_at hz] at hok
                              have w1 := T5.out.1.wtb hx
                              have w2 := T5.out.1.wtb hz
                              have r1 := T5.out.1.ranb hx
                              have r2 := T5.out.1.ranb hz
                              rw [HN5.out] at r1 r2
                              go_wp2_with fail
                              go_quiet (fail)
                              go_wp2_with fail
                              refine wp_gen (fun W => FR w W b c d m5 wt gf gw (Fr.ranF m5 n) gr5) (L.out.drewN _) ?_
                              clear L q1 q2 hgb hg
                              intro W2 h2
                              have L := Hid.intro h2
                              clear h2
                              have q1 := L.out.ranA.cell x (by omega)
                              have q2 := L.out.fs.wtA.cell x (by omega)
                              have q3 := L.out.ranA.cell z (by omega)
                              have q4 := L.out.fs.wtA.cell z (by omega)
                              unfold natF at q1 q2 q3 q4
                              have o1 : ((1048576 : Int) / (wt x : Int)) = ((1048576 / wt x : Nat) : Int) := rfl
                              have o2 : ((1048576 : Int) / (wt z : Int)) = ((1048576 / wt z : Nat) : Int) := rfl
                              have b1 : 1048576 / wt x ≤ 1048576 := Nat.div_le_self _ _
                              have b2 : 1048576 / wt z ≤ 1048576 := Nat.div_le_self _ _
                              obtain ⟨P1, hP1⟩ : ∃ P, Fr.ranF m5 n x * (1048576 / wt x) = P := ⟨_, rfl⟩
                              obtain ⟨P2, hP2⟩ : ∃ P, Fr.ranF m5 n z * (1048576 / wt z) = P := ⟨_, rfl⟩
                              have pb1 : P1 ≤ 501 * 1048576 := by rw [← hP1]; exact Nat.mul_le_mul (by omega) b1
                              have pb2 : P2 ≤ 501 * 1048576 := by rw [← hP2]; exact Nat.mul_le_mul (by omega) b2
                              rw [hP1, hP2] at hok
                              have p1 : ((Fr.ranF m5 n x : Nat) : Int) * ((1048576 / wt x : Nat) : Int) = (P1 : Int) := by rw [← hP1]; exact (Int.natCast_mul _ _).symm
                              have p2 : ((Fr.ranF m5 n z : Nat) : Int) * ((1048576 / wt z : Nat) : Int) = (P2 : Int) := by rw [← hP2]; exact (Int.natCast_mul _ _).symm
                              clear hP1 hP2
                              generalize Fr.ranF m5 n x = R1 at *
                              generalize Fr.ranF m5 n z = R2 at *
                              generalize 1048576 / wt x = O1 at *
                              generalize 1048576 / wt z = O2 at *
                              generalize wt x = v1 at *
                              generalize wt z = v2 at *
                              have z1 : ((v1 : Int) == 0) = false := by simp; omega
                              have z2 : ((v2 : Int) == 0) = false := by simp; omega
                              have z3 : decide (((max O1 O2 : Nat) : Int) < (P1 : Int) - (P2 : Int)) = false := by
                                have := Nat.le_max_left O1 O2
                                simp; omega
                              go_quiet (fail)
                              go_wp2_with fail
                              go_quiet (fail)
                              go_wp2_with fail
                              refine wp_gen (fun W => FR w W b c d m5 wt gf gw (Fr.ranF m5 n) gr5 ∧ W.cell? ⟨c, x, none⟩ = some (.int .i64 (v1 : Int)) ∧ W.cell? ⟨c, z, none⟩ = some (.int .i64 (v2 : Int))) ⟨by first | exact (L.out.drewN _).drewN _ | exact L.out.drewN _, q2, q4⟩ ?_
                              clear q1 q2 q3 q4
                              rintro W3 ⟨h3, q2, q4⟩
                              have L3 := Hid.intro h3
                              clear h3
                              go_region
                              go_wp2_with fail
                              go_roundw
                              case rel => exact ⟨z + 1, by go_num, by omega, L3.out.drew⟩
                              case measure => simp [intOf]; omega
                            · have hgb : ((gf x : Int) != (gf z : Int)) = true := by rw [bne_iff_ne]; omega
                              go_wp2_with fail
                              go_quiet (fail)
                              go_wp2_with fail
                              go_roundw
                              case rel => exact ⟨z + 1, by go_num, by omega, L.out.drewN _⟩
                              case measure => simp [intOf]; omega
                          · have hzI : ¬ (z : Int) < (n : Int) := by omega
                            go_wp2_with fail
                            go_roundw
                            case rel => exact ⟨x + 1, by go_num, by omega, L⟩
                            case measure => simp [intOf]; omega
                      · have hxI : ¬ (x : Int) < (n : Int) := by omega
                        go_wp2_with fail
                        go_roundw
                        case rel => exact ⟨k + 1, m5, gr5, by go_num, by omega, L.out, T5.out.1, T5.out.2, HN5.out, HGR.out, HG0.out⟩
                        case measure => simp [intOf]; omega
                · have hltI : ¬ (k : Int) < (T : Int) := by omega
                  have HN : Hid (m.now = T) := Hid.intro (by rw [S.out.2.2.2.1]; omega)
                  as_aux_lemma =>
                  go_wp2_with fail
                  have L7 := Hid.intro S.out.1
                  go_loopw [25] (fun i wr => ∃ (x : Nat), i = .int .i64 x ∧ x ≤ n ∧ Hid (FR w wr b c d m wt gf gw (Fr.ranF m n) gr)) (fun i _ => n - (intOf i).toNat)
                  case atStart => exact ⟨0, rfl, by omega, L7⟩
                  case round =>
                    clear L7
                    obtain ⟨x, rfl, hxn, L⟩ := hrel
                    by_cases hx : x < n
                    · have hxI : (x : Int) < (n : Int) := by omega
                      have hx20 : (x : Int) < 20 := by omega
                      go_wp2_with fail
                      refine (ran_any b x m _ L.out.fs.fair).mono ?_
                      rintro e W2 ⟨rfl, hW2⟩
                      subst W2
                      have ht : Fr.taskE m x = 0 := Fr.taskE_nat (by omega) (S.out.2.1.hT hx)
                      have hri : ranI m x = (Fr.ranF m n x : Int) := by unfold ranI; rw [if_pos ht, Int.toNat_natCast, Fr.ranF_at hx]
                      rw [ht, hri, errV_zero]
                      have q1 := L.out.ranA.cell x (by omega)
                      unfold natF at q1
                      clear ht hri
                      go_wp2_with fail
                      go_loopw [28] (fun i wr => ∃ (z : Nat), i = .int .i64 z ∧ z ≤ n ∧ Hid (FR w wr b c d m wt gf gw (Fr.ranF m n) gr)) (fun i _ => n - (intOf i).toNat)
                      case atStart => exact ⟨0, rfl, by omega, L⟩
                      case round =>
                        clear L q1
                        obtain ⟨z, rfl, hzn, L⟩ := hrel
                        by_cases hz : z < n
                        · as_aux_lemma =>
                          have hzI : (z : Int) < (n : Int) := by omega
                          have hz20 : (z : Int) < 20 := by omega
                          have q1 := L.out.fs.gfA.cell x (by omega)
                          have q2 := L.out.fs.gfA.cell z (by omega)
                          unfold natF at q1 q2
                          by_cases g0 : gf x = 0
                          · have g0' : ((gf x : Int) == 0) = true := by simp; omega
                            go_wp2_with fail
                            go_roundw
                            case rel => exact ⟨z + 1, by go_num, by omega, L⟩
                            case measure => simp [intOf]; omega
                          · have g0' : ((gf x : Int) == 0) = false := by simp; omega
                            by_cases h0 : gf z = 0
                            · have h0' : ((gf z : Int) == 0) = true := by simp; omega
                              go_wp2_with fail
                              go_roundw
                              case rel => exact ⟨z + 1, by go_num, by omega, L⟩
                              case measure => simp [intOf]; omega
                            · have h0' : ((gf z : Int) == 0) = false := by simp; omega
                              by_cases hgh : gf x = gf z
                              · have hgh' : ((gf x : Int) == (gf z : Int)) = true := by simp; omega
                                go_wp2_with fail
                                go_roundw
                                case rel => exact ⟨z + 1, by go_num, by omega, L⟩
                                case measure => simp [intOf]; omega
                              · have hgh' : ((gf x : Int) == (gf z : Int)) = false := by simp; omega
                                have la := (S.out.2.1.inT x hx).2.2
                                have lb := (S.out.2.1.inT z hz).2.2
                                have hok := S.out.2.1.okG S.out.2.2.1 hx hz g0 h0
                                rw [← S.out.2.2.2.2.1 _ (by omega) la, ← S.out.2.2.2.2.1 _ (by omega) lb] at hok
                                have w1 := S.out.2.1.gwb (g := gf x) (by omega) la
                                have w2 := S.out.2.1.gwb (g := gf z) (by omega) lb
                                have r1 : gr (gf x) ≤ 500 := by
                                  rw [S.out.2.2.2.2.1 _ (by omega) la]
                                  have := (S.out.2.1.inv.tm (gf x) (by omega)).2.2.2
                                  have := HN.out; omega
                                have r2 : gr (gf z) ≤ 500 := by
                                  rw [S.out.2.2.2.2.1 _ (by omega) lb]
                                  have := (S.out.2.1.inv.tm (gf z) (by omega)).2.2.2
                                  have := HN.out; omega
                                have q3 := L.out.grA.cell (gf x) la
                                have q4 := L.out.grA.cell (gf z) lb
                                have q5 := L.out.fs.gwA.cell (gf x) la
                                have q6 := L.out.fs.gwA.cell (gf z) lb
                                unfold natF at q3 q4 q5 q6
                                have o1 : ((1048576 : Int) / (gw (gf x) : Int)) = ((1048576 / gw (gf x) : Nat) : Int) := rfl
                                have o2 : ((1048576 : Int) / (gw (gf z) : Int)) = ((1048576 / gw (gf z) : Nat) : Int) := rfl
                                have b1 : 1048576 / gw (gf x) ≤ 1048576 := Nat.div_le_self _ _
                                have b2 : 1048576 / gw (gf z) ≤ 1048576 := Nat.div_le_self _ _
                                obtain ⟨P1, hP1⟩ : ∃ P, gr (gf x) * (1048576 / gw (gf x)) = P := ⟨_, rfl⟩
                                obtain ⟨P2, hP2⟩ : ∃ P, gr (gf z) * (1048576 / gw (gf z)) = P := ⟨_, rfl⟩
                                have pb1 : P1 ≤ 500 * 1048576 := by rw [← hP1]; exact Nat.mul_le_mul r1 b1
                                have pb2 : P2 ≤ 500 * 1048576 := by rw [← hP2]; exact Nat.mul_le_mul r2 b2
                                rw [hP1, hP2] at hok
                                have p1 : ((gr (gf x) : Nat) : Int) * ((1048576 / gw (gf x) : Nat) : Int) = (P1 : Int) := by rw [← hP1]; exact (Int.natCast_mul _ _).symm
                                have p2 : ((gr (gf z) : Nat) : Int) * ((1048576 / gw (gf z) : Nat) : Int) = (P2 : Int) := by rw [← hP2]; exact (Int.natCast_mul _ _).symm
                                clear hP1 hP2
                                generalize gr (gf x) = R1 at *
                                generalize gr (gf z) = R2 at *
                                generalize 1048576 / gw (gf x) = O1 at *
                                generalize 1048576 / gw (gf z) = O2 at *
                                generalize gw (gf x) = v1 at *
                                generalize gw (gf z) = v2 at *
                                generalize gf x = gx at *
                                generalize gf z = gz at *
                                have z1 : ((v1 : Int) == 0) = false := by simp; omega
                                have z2 : ((v2 : Int) == 0) = false := by simp; omega
                                have z3 : decide (((max O1 O2 : Nat) : Int) < (P1 : Int) - (P2 : Int)) = false := by
                                  have := Nat.le_max_left O1 O2
                                  simp; omega
                                have gx4 : (gx : Int) < 4 := by omega
                                have gz4 : (gz : Int) < 4 := by omega
                                go_wp2_with fail
                                go_quiet (fail)
                                go_wp2_with fail
                                go_quiet (fail)
                                go_wp2_with fail
                                refine wp_gen (fun W => FR w W b c d m wt gf gw (Fr.ranF m n) gr ∧ W.cell? ⟨c + 1 + 1, gx, none⟩ = some (.int .i64 (v1 : Int)) ∧ W.cell? ⟨c + 1 + 1, gz, none⟩ = some (.int .i64 (v2 : Int))) ⟨by first | exact (L.out.drewN _).drewN _ | exact L.out.drewN _, q5, q6⟩ ?_
                                clear q1 q2 q3 q4 q5 q6
                                rintro W3 ⟨h3, q5, q6⟩
                                have L3 := Hid.intro h3
                                clear h3
                                go_region
                                go_wp2_with fail
                                go_roundw
                                case rel => exact ⟨z + 1, by go_num, by omega, L3.out.drew⟩
                                case measure => simp [intOf]; omega
                        · have hzI : ¬ (z : Int) < (n : Int) := by omega
                          go_wp2_with fail
                          go_roundw
                          case rel => exact ⟨x + 1, by go_num, by omega, L⟩
                          case measure => simp [intOf]; omega
                    · have hxI : ¬ (x : Int) < (n : Int) := by omega
                      go_wp2_with fail
                      refine (now_any b m _ L.out.fs.fair).mono ?_
                      rintro e W2 ⟨rfl, hW2⟩
                      subst W2
                      rw [HN.out]
                      go_wp2_with fail
                      go_ret
                      exact ⟨rfl, L.out.fs.bel⟩

end Go.Proofs.Ytkbfmjdfhacikaa

/- The walk of the law TopGroups. -/
import Derived.Test.YtgabceeekkcekaaGy
namespace Go.Proofs.Ytgabceeekkcekaa
open Go.RowKit Go.Shelf

set_option maxRecDepth 100000 in
set_option maxHeartbeats 3000000 in
theorem tg_near (b0 o0 n0 c0 : Nat) (ax : Nat → Act8) (w : World) (h0 : ∀ i, i < n0 → ∀ j, j < 8 → w.cell? ⟨b0, o0 + i * 8 + j, none⟩ = some ((ax i).cell j)) (hn : n0 ≤ 100) :
    Calls Try.prog 6 #[.slice (some ⟨b0, o0, none⟩) n0 c0] w fun e w' => e = .returned (.bool true) ∧ Below w.heap.size w w' := by
  have d : decide ((n0 : Int) ≤ 100) = true := by simp; omega
  have H0 : Hid (∀ i, i < n0 → ∀ j, j < 8 → w.cell? ⟨b0, o0 + i * 8 + j, none⟩ = some ((ax i).cell j)) := h0
  clear h0
  go_enter Try.func6, Try.ntmps6
  go_wp2_with fail
  refine (new_any _).mono ?_
  rintro e W1 ⟨rfl, hT1, hb1⟩
  have S1 := sg_start hT1 hb1
  rw [zero74] at S1
  clear hT1 hb1
  go_wp2_with fail
  refine (light_any _ _ _ _ _).mono ?_
  rintro e W2 ⟨rfl, rfl⟩
  rw [d]
  go_wp2_with fail
  refine wp_gen (fun W => Sg w W w.heap.size W2.heap.size t0 W0 0 (fun _ => 0) (fun _ => 0)) S1 ?_
  intro W hS
  clear S1 d
  generalize w.heap.size = b at *
  generalize W2.heap.size = ob at *
  go_loopw [5] (fun i wr => ∃ (k : Nat) (t : Nat → Gp) (Wy : Nat → List (Fin 10)) (A B : Nat → Int), i = .int .i64 k ∧ k ≤ n0 ∧ Hid (Sg w wr b ob t Wy k A B)) (fun i _ => n0 - (intOf i).toNat)
  case atStart => exact ⟨0, t0, W0, _, _, rfl, by omega, hS⟩
  case round =>
    clear hS
    obtain ⟨k, t, Wy, A, B, rfl, hk, S⟩ := hrel
    by_cases hlt : k < n0
    · have hltI : (k : Int) < (n0 : Int) := by omega
      obtain ⟨kd, P, Q, R, K, On, S1, T1, hax⟩ : ∃ kd A B C K On S1 T1, ax k = ⟨kd, A, B, C, K, On, S1, T1⟩ := ⟨_, _, _, _, _, _, _, _, rfl⟩
      have bl : b0 < w.heap.size := World.block_lt_of_cell? _ _ (H0.out k hlt 0 (by omega))
      have cl : ∀ j, j < 8 → wr.cell? ⟨b0, o0 + k * 8 + j, none⟩ = some ((⟨kd, P, Q, R, K, On, S1, T1⟩ : Act8).cell j) := fun j hj => by
        rw [← hax]; exact (S.out.bel.cell (p := ⟨b0, o0 + k * 8 + j, none⟩) bl).trans (H0.out k hlt j hj)
      have c0' : wr.cell? ⟨b0, o0 + k * 8, none⟩ = some (.string kd) := cl 0 (by omega)
      have c1 : wr.cell? ⟨b0, o0 + k * 8 + 1, none⟩ = some (.int .i64 P) := cl 1 (by omega)
      have c2 : wr.cell? ⟨b0, o0 + k * 8 + 2, none⟩ = some (.int .i64 Q) := cl 2 (by omega)
      have c3 : wr.cell? ⟨b0, o0 + k * 8 + 3, none⟩ = some (.int .i64 R) := cl 3 (by omega)
      have c4 : wr.cell? ⟨b0, o0 + k * 8 + 4, none⟩ = some (.int .u64 K) := cl 4 (by omega)
      have c5 : wr.cell? ⟨b0, o0 + k * 8 + 5, none⟩ = some (.bool On) := cl 5 (by omega)
      have c6 : wr.cell? ⟨b0, o0 + k * 8 + 6, none⟩ = some (.string S1) := cl 6 (by omega)
      have c7 : wr.cell? ⟨b0, o0 + k * 8 + 7, none⟩ = some (.string T1) := cl 7 (by omega)
      have hbo := S.out.lt
      have hoW := S.out.own.lt
      clear cl hax bl
      go_upto_region 12 with fail
      have Z := sh_start wr ob #[.string kd, .int .i64 P, .int .i64 Q, .int .i64 R, .int .u64 K, .bool On, .string S1, .string T1] t Wy hoW
      have SZ := (S.out.alloc (.cells #[.string kd, .int .i64 P, .int .i64 Q, .int .i64 R, .int .u64 K, .bool On, .string S1, .string T1] 36)).alloc (.cells (encW (fun _ _ => 0)) 77)
      rw [zero77] at Z SZ
      refine wp_gen (fun W' => Sg w W' b ob t Wy k A B ∧ Sh W' ob wr.heap.size (wr.heap.size + 1) #[.string kd, .int .i64 P, .int .i64 Q, .int .i64 R, .int .u64 K, .bool On, .string S1, .string T1] (wasTo t Wy 0)) ⟨SZ, Z⟩ ?_
      intro W3 H3
      clear c0' c1 c2 c3 c4 c5 c6 c7 S Z SZ hoW
      generalize wr.heap.size = ba at *
      go_wp2_with fail
      go_loopw [8] (fun i wr => ∃ (n : Nat), i = .int .i64 n ∧ n ≤ 10 ∧ Hid (Sg w wr b ob t Wy k A B ∧ Sh wr ob ba (ba + 1) #[.string kd, .int .i64 P, .int .i64 Q, .int .i64 R, .int .u64 K, .bool On, .string S1, .string T1] (wasTo t Wy n))) (fun i _ => 10 - (intOf i).toNat)
      case atStart => exact ⟨0, rfl, by omega, H3⟩
      case round =>
        clear H3
        obtain ⟨n, rfl, hn10, HG⟩ := hrel
        by_cases hn : n < 10
        · as_aux_lemma =>
          have hnI : (n : Int) < 10 := by omega
          go_wp2_with fail
          refine (of_was b n t Wy _ HG.out.1.tat HG.out.1.tree.ways (HG.out.1.tree.small (by omega)) hn).mono ?_
          rintro e W4 ⟨⟨er, rfl⟩, hb4⟩
          have HS4 := Hid.intro (HG.out.1.below (hb4.mono HG.out.1.own.lt))
          have HH4 := Hid.intro (HG.out.2.below (hb4.mono HG.out.2.was.lt))
          clear hb4
          have q0 : W4.cell? ⟨ba + 1, n * 5, none⟩ = _ := HH4.out.was.cell n 0 hn (by omega)
          have q1 := HH4.out.was.cell n 1 hn (by omega)
          have q2 := HH4.out.was.cell n 2 hn (by omega)
          have q3 := HH4.out.was.cell n 3 hn (by omega)
          have q4 := HH4.out.was.cell n 4 hn (by omega)
          have qf := HH4.out.was.frozen
          have HP5 := Hid.intro (HH4.out.was.put5 hn rfl rfl rfl rfl rfl)
          generalize wasC t Wy n 0 = v0 at *
          generalize wasC t Wy n 1 = v1 at *
          generalize wasC t Wy n 2 = v2 at *
          generalize wasC t Wy n 3 = v3 at *
          generalize wasC t Wy n 4 = v4 at *
          go_wp2_with fail
          go_roundw
          case rel =>
            have hl1 := HH4.out.l1
            have hl2 := HH4.out.l2
            have hbb := below5 W4 (ba + 1) (n * 5) (n * 5 + 1) (n * 5 + 2) (n * 5 + 3) (n * 5 + 4) (.int .i64 v0) (.int .i64 v1) (.int .i64 v2) (.int .i64 v3) (.int .i64 v4)
            exact ⟨n + 1, by go_num, by omega, HS4.out.below (hbb.mono (by omega)), ⟨(hbb.block ba (by omega)).trans HH4.out.act, HP5.out, hl1, hl2⟩⟩
          case measure => simp [intOf]; omega
        · have hn1 : n = 10 := by omega
          subst hn1
          have HS3 := Hid.intro HG.out.1
          have HH3 : Hid (Sh wr ob ba (ba + 1) #[.string kd, .int .i64 P, .int .i64 Q, .int .i64 R, .int .u64 K, .bool On, .string S1, .string T1] (wasC t Wy)) := ⟨HG.out.2.act, wasTo_all HG.out.2.was, HG.out.2.l1, HG.out.2.l2⟩
          clear HG
          have x0 : wr.cell? ⟨ba, 0, none⟩ = some (.string kd) := by rw [heap_cell HH3.out.act]; rfl
          have x1 : wr.cell? ⟨ba, 1, none⟩ = some (.int .i64 P) := by rw [heap_cell HH3.out.act]; rfl
          have x2 : wr.cell? ⟨ba, 2, none⟩ = some (.int .i64 Q) := by rw [heap_cell HH3.out.act]; rfl
          have x3 : wr.cell? ⟨ba, 3, none⟩ = some (.int .i64 R) := by rw [heap_cell HH3.out.act]; rfl
          have x4 : wr.cell? ⟨ba, 4, none⟩ = some (.int .u64 K) := by rw [heap_cell HH3.out.act]; rfl
          go_upto_block 4 with fail
          go_cut [9, 10, 11] from 43 to 199 (fun _ _ _ wc => ∃ t' Wy' A' B', Hid (Sg w wc b ob t' Wy' (k + 1) A' B' ∧ Sh wc ob ba (ba + 1) #[.string kd, .int .i64 P, .int .i64 Q, .int .i64 R, .int .u64 K, .bool On, .string S1, .string T1] (wasC t Wy) ∧ Fit t' Wy' (wasC t Wy)))
          case first =>
            have hoa : ob ≠ ba := by have := HH3.out.l1; omega
            have hao : ba ≠ ob := by omega
            by_cases k1 : (kd.toList == [97, 100, 100]) = true
            · as_aux_lemma =>
              go_wp2_with fail
              refine (add_any b P _ HS3.out.tat HS3.out.tree).mono ?_
              rintro e W4 (⟨n, hn, rfl, ht, hf, Wy', hst⟩ | ⟨er, rfl, ht, hf⟩)
              · have HS4 := Hid.intro (HS3.out.frm2 hf ht hst.tree)
                have HH4 := Hid.intro (HH3.out.frm hf HS3.out.lt)
                have HST := Hid.intro hst
                have q0 := HS4.out.own.c0 n hn
                have q1 := HS4.out.own.c1 n hn
                have qf := HS4.out.own.frozen
                have hnI : (n : Int) < 10 := by omega
                clear ht hf hst x0 x1 x2 x3 x4
                go_wp2_with fail
                go_meet
                case rel => exact ⟨_, Wy', updI A n 0, updI B n 0, ((HS4.out.set0 hn 0).set1 hn 0).done (HS3.out.ok.new n P), (HH4.out.set _ _).set _ _, HST.out.fit⟩
              · have HS4 := Hid.intro (HS3.out.frm hf ht (HS3.out.tree.mono (show k ≤ k + 1 by omega)) fun _ => HS3.out.ok)
                have HH4 := Hid.intro (HH3.out.frm hf HS3.out.lt)
                clear ht hf x0 x1 x2 x3 x4
                go_wp2_with fail
                go_meet
                case rel => exact ⟨t, Wy, A, B, HS4.out, HH4.out, fit_self⟩
            · have k1' : (kd.toList == [97, 100, 100]) = false := by simpa using k1
              clear k1
              by_cases k2 : (kd.toList == [114, 101, 109, 111, 118, 101]) = true
              · as_aux_lemma =>
                go_wp2_with fail
                refine (remove_any b P _ HS3.out.tat HS3.out.tree (by omega)).mono ?_
                rintro e W4 ⟨t', Wy', er, rfl, ht, hf, hst, hsame⟩
                have HS4 := Hid.intro (HS3.out.frm hf ht hst.tree fun _ => HS3.out.ok.of fun j hj => by have e := hsame j hj; rw [e] at hj; rw [e]; exact ⟨hj, rfl, rfl⟩)
                have HH4 := Hid.intro (HH3.out.frm hf HS3.out.lt)
                have HST := Hid.intro hst
                clear ht hf hst hsame x0 x1 x2 x3 x4
                go_wp2_with fail
                go_meet
                case rel => exact ⟨t', Wy', A, B, HS4.out, HH4.out, HST.out.fit⟩
              · have k2' : (kd.toList == [114, 101, 109, 111, 118, 101]) = false := by simpa using k2
                clear k2
                by_cases k3 : (kd.toList == [108, 105, 109, 105, 116]) = true
                · as_aux_lemma =>
                  go_wp2_with fail
                  refine (limit_any b P Q R _ HS3.out.tat HS3.out.tree).mono ?_
                  rintro e W4 ⟨t', er, rfl, ht, hf, htr, hsame⟩
                  have HS4 := Hid.intro (HS3.out.frm hf ht htr fun _ => HS3.out.ok.of fun j hj => ⟨by rw [← (hsame j).1]; exact hj, (hsame j).2⟩)
                  clear ht hf htr hsame x0 x1 x2 x3 x4
                  go_wp2_with fail
                  go_roundw
                  case rel => exact ⟨k + 1, t', Wy, A, B, by go_num, by omega, HS4.out⟩
                  case measure => simp [intOf]; omega
                · have k3' : (kd.toList == [108, 105, 109, 105, 116]) = false := by simpa using k3
                  clear k3
                  by_cases k4 : (kd.toList == [99, 104, 97, 114, 103, 101]) = true
                  · as_aux_lemma =>
                    go_wp2_with fail
                    refine (charge_any b P Q R t Wy _ HS3.out.tat HS3.out.tree.ways (HS3.out.tree.small (by omega))).mono ?_
                    rintro e W4 ⟨rfl, ht, hf⟩
                    by_cases he : chgE t Wy P Q R = 0
                    · obtain ⟨n, rfl, hn, hh, hp, hq, hT, hst⟩ := chg_step HS3.out.tree he
                      rw [hT] at ht
                      rw [he, errV_zero]
                      have HS4 := Hid.intro (HS3.out.frm2 hf ht hst.tree)
                      have HH4 := Hid.intro (HH3.out.frm hf HS3.out.lt)
                      have HST := Hid.intro hst
                      have HBK := Hid.intro (HS3.out.ok.addO hn hh Q R)
                      have hown := HS3.out.tree.own n hn
                      have hok := HS3.out.ok n hn hh
                      clear ht hf hst x0 x1 x2 x3 x4 hT he hh
                      have x1 : W4.cell? ⟨ba, 1, none⟩ = some (.int .i64 n) := by rw [heap_cell HH4.out.act]; rfl
                      have x2 : W4.cell? ⟨ba, 2, none⟩ = some (.int .i64 Q) := by rw [heap_cell HH4.out.act]; rfl
                      have q0 := HS4.out.own.c0 n hn
                      have qf := HS4.out.own.frozen
                      have hnI : (n : Int) < 10 := by omega
                      generalize hPA : A n = PA at *
                      generalize hPB : B n = PB at *
                      have HAB := Hid.intro (And.intro hPA hPB)
                      have hpa : 0 ≤ PA ∧ PA ≤ 1000000 := by omega
                      have hpb : 0 ≤ PB ∧ PB ≤ 1000000 := by omega
                      clear hPA hPB hown hok
                      go_wp2_with fail
                      go_region
                      go_wp2_with fail
                      refine wp_gen (fun W => Sg2 w W b ob _ Wy (k + 1) (updI A n (PA + Q)) B ∧ Sh W ob ba (ba + 1) #[.string kd, .int .i64 n, .int .i64 Q, .int .i64 R, .int .u64 K, .bool On, .string S1, .string T1] (wasC t Wy)) ⟨(HS4.out.set0 hn (PA + Q)).drew, (HH4.out.set _ _).drew⟩ ?_
                      rintro W5 ⟨hS5, hH5⟩
                      have HS5 := Hid.intro hS5
                      have HH5 := Hid.intro hH5
                      clear x1 x2 q0 qf hS5 hH5
                      have x1 : W5.cell? ⟨ba, 1, none⟩ = some (.int .i64 n) := by rw [heap_cell HH5.out.act]; rfl
                      have x3 : W5.cell? ⟨ba, 3, none⟩ = some (.int .i64 R) := by rw [heap_cell HH5.out.act]; rfl
                      have q1 := HS5.out.own.c1 n hn
                      have qf := HS5.out.own.frozen
                      rw [HAB.out.2] at q1
                      go_region
                      go_wp2_with fail
                      have HS6 := Hid.intro (HS5.out.set1 hn (PB + R)).drew
                      have HH6 := Hid.intro (HH5.out.set (n * 2 + 1) (.int .i64 (PB + R))).drew
                      go_meet
                      case rel => exact ⟨_, Wy, _, _, HS6.out.done HBK.out, HH6.out, HST.out.fit⟩
                    · rw [chg_no he] at ht
                      rw [errV_ne he]
                      have HS4 := Hid.intro (HS3.out.frm hf ht (HS3.out.tree.mono (show k ≤ k + 1 by omega)) fun _ => HS3.out.ok)
                      have HH4 := Hid.intro (HH3.out.frm hf HS3.out.lt)
                      clear ht hf x0 x1 x2 x3 x4 he
                      go_wp2_with fail
                      go_meet
                      case rel => exact ⟨t, Wy, A, B, HS4.out, HH4.out, fit_self⟩
                  · have k4' : (kd.toList == [99, 104, 97, 114, 103, 101]) = false := by simpa using k4
                    clear k4
                    by_cases k5 : (kd.toList == [117, 110, 99, 104, 97, 114, 103, 101]) = true
                    · as_aux_lemma =>
                      go_wp2_with fail
                      refine (uncharge_any b P Q R t _ HS3.out.tat (HS3.out.tree.small (by omega))).mono ?_
                      rintro e W4 ⟨rfl, ht, hf⟩
                      by_cases he : uncE t P Q R = 0
                      · obtain ⟨n, rfl, hn, hh, hp, hq, hT, hst⟩ := unc_step HS3.out.tree he
                        rw [hT] at ht
                        rw [he, errV_zero]
                        have HS4 := Hid.intro (HS3.out.frm2 hf ht hst.tree)
                        have HH4 := Hid.intro (HH3.out.frm hf HS3.out.lt)
                        have HST := Hid.intro hst
                        have HBK : Hid (Books (addO t n (-Q) (-R)) (updI A n (A n - Q)) (updI B n (B n - R))) := by have hbk := HS3.out.ok.addO hn hh (-Q) (-R); rw [← Int.sub_eq_add_neg, ← Int.sub_eq_add_neg] at hbk; exact hbk
                        have hown := HS3.out.tree.own n hn
                        have hok := HS3.out.ok n hn hh
                        clear ht hf hst x0 x1 x2 x3 x4 hT he hh
                        have x1 : W4.cell? ⟨ba, 1, none⟩ = some (.int .i64 n) := by rw [heap_cell HH4.out.act]; rfl
                        have x2 : W4.cell? ⟨ba, 2, none⟩ = some (.int .i64 Q) := by rw [heap_cell HH4.out.act]; rfl
                        have q0 := HS4.out.own.c0 n hn
                        have qf := HS4.out.own.frozen
                        have hnI : (n : Int) < 10 := by omega
                        generalize hPA : A n = PA at *
                        generalize hPB : B n = PB at *
                        have HAB := Hid.intro (And.intro hPA hPB)
                        have hpa : 0 ≤ PA ∧ PA ≤ 1000000 := by omega
                        have hpb : 0 ≤ PB ∧ PB ≤ 1000000 := by omega
                        clear hPA hPB hown hok
                        go_wp2_with fail
                        go_region
                        go_wp2_with fail
                        refine wp_gen (fun W => Sg2 w W b ob _ Wy (k + 1) (updI A n (PA - Q)) B ∧ Sh W ob ba (ba + 1) #[.string kd, .int .i64 n, .int .i64 Q, .int .i64 R, .int .u64 K, .bool On, .string S1, .string T1] (wasC t Wy)) ⟨(HS4.out.set0 hn (PA - Q)).drew, (HH4.out.set _ _).drew⟩ ?_
                        rintro W5 ⟨hS5, hH5⟩
                        have HS5 := Hid.intro hS5
                        have HH5 := Hid.intro hH5
                        clear x1 x2 q0 qf hS5 hH5
                        have x1 : W5.cell? ⟨ba, 1, none⟩ = some (.int .i64 n) := by rw [heap_cell HH5.out.act]; rfl
                        have x3 : W5.cell? ⟨ba, 3, none⟩ = some (.int .i64 R) := by rw [heap_cell HH5.out.act]; rfl
                        have q1 := HS5.out.own.c1 n hn
                        have qf := HS5.out.own.frozen
                        rw [HAB.out.2] at q1
                        go_region
                        go_wp2_with fail
                        have HS6 := Hid.intro (HS5.out.set1 hn (PB - R)).drew
                        have HH6 := Hid.intro (HH5.out.set (n * 2 + 1) (.int .i64 (PB - R))).drew
                        go_meet
                        case rel => exact ⟨_, Wy, _, _, HS6.out.done HBK.out, HH6.out, HST.out.fit⟩
                      · rw [unc_no he] at ht
                        rw [errV_ne he]
                        have HS4 := Hid.intro (HS3.out.frm hf ht (HS3.out.tree.mono (show k ≤ k + 1 by omega)) fun _ => HS3.out.ok)
                        have HH4 := Hid.intro (HH3.out.frm hf HS3.out.lt)
                        clear ht hf x0 x1 x2 x3 x4 he
                        go_wp2_with fail
                        go_meet
                        case rel => exact ⟨t, Wy, A, B, HS4.out, HH4.out, fit_self⟩
                    · have k5' : (kd.toList == [117, 110, 99, 104, 97, 114, 103, 101]) = false := by simpa using k5
                      clear k5
                      as_aux_lemma =>
                      go_wp2_with fail
                      generalize wrap64 (K : Int) = TO at *
                      refine (move_any b P TO Q R t Wy _ HS3.out.tat HS3.out.tree.ways (HS3.out.tree.small (by omega))).mono ?_
                      rintro e W4 ⟨rfl, ht, hf⟩
                      by_cases he : movE t Wy P TO Q R = 0
                      · obtain ⟨n, m, rfl, rfl, hn, hm, hh, hmh, hp, hq, hT, hst⟩ := mov_step HS3.out.tree he
                        rw [hT] at ht
                        rw [he, errV_zero]
                        have HS4 := Hid.intro (HS3.out.frm2 hf ht hst.tree)
                        have HH4 := Hid.intro (HH3.out.frm hf HS3.out.lt)
                        have HST := Hid.intro hst
                        have HBK := Hid.intro (books_move HS3.out.ok hn hm hh hmh Q R)
                        have hA1 := books_bd HS3.out.tree HS3.out.ok hn hm hh hmh hp hq
                        have hown := HS3.out.tree.own n hn
                        have hok := HS3.out.ok n hn hh
                        have hnI : (n : Int) < 10 := by omega
                        have hmI : (m : Int) < 10 := by omega
                        clear ht hf hst x0 x1 x2 x3 x4 hT he hh hmh
                        have x1 : W4.cell? ⟨ba, 1, none⟩ = some (.int .i64 n) := by rw [heap_cell HH4.out.act]; rfl
                        have x2 : W4.cell? ⟨ba, 2, none⟩ = some (.int .i64 Q) := by rw [heap_cell HH4.out.act]; rfl
                        have q0 := HS4.out.own.c0 n hn
                        have qf := HS4.out.own.frozen
                        generalize hPA : A n = PA at *
                        generalize hPB : B n = PB at *
                        have HAB := Hid.intro (And.intro hPA hPB)
                        have hpa : 0 ≤ PA ∧ PA ≤ 1000000 := by omega
                        have hpb : 0 ≤ PB ∧ PB ≤ 1000000 := by omega
                        clear hPA hPB hown hok
                        go_wp2_with fail
                        go_region
                        go_wp2_with fail
                        refine wp_gen (fun W => Sg2 w W b ob _ Wy (k + 1) (updI A n (PA - Q)) B ∧ Sh W ob ba (ba + 1) #[.string kd, .int .i64 n, .int .i64 Q, .int .i64 R, .int .u64 K, .bool On, .string S1, .string T1] (wasC t Wy)) ⟨(HS4.out.set0 hn (PA - Q)).drew, (HH4.out.set _ _).drew⟩ ?_
                        rintro W5 ⟨hS5, hH5⟩
                        have HS5 := Hid.intro hS5
                        have HH5 := Hid.intro hH5
                        clear x1 x2 q0 qf hS5 hH5
                        have x1 : W5.cell? ⟨ba, 1, none⟩ = some (.int .i64 n) := by rw [heap_cell HH5.out.act]; rfl
                        have x3 : W5.cell? ⟨ba, 3, none⟩ = some (.int .i64 R) := by rw [heap_cell HH5.out.act]; rfl
                        have q1 := HS5.out.own.c1 n hn
                        have qf := HS5.out.own.frozen
                        rw [HAB.out.2] at q1
                        go_region
                        go_wp2_with fail
                        refine wp_gen (fun W => Sg2 w W b ob _ Wy (k + 1) (updI A n (PA - Q)) (updI B n (PB - R)) ∧ Sh W ob ba (ba + 1) #[.string kd, .int .i64 n, .int .i64 Q, .int .i64 R, .int .u64 K, .bool On, .string S1, .string T1] (wasC t Wy)) ⟨(HS5.out.set1 hn (PB - R)).drew, (HH5.out.set _ _).drew⟩ ?_
                        rintro W6 ⟨hS6, hH6⟩
                        generalize updI A n (PA - Q) = A1 at *
                        generalize updI B n (PB - R) = B1 at *
                        have HS6 := Hid.intro hS6
                        have HH6 := Hid.intro hH6
                        clear x1 x3 q1 qf hS6 hH6 HS4 HH4 HS5 HH5 HAB
                        have x2 : W6.cell? ⟨ba, 2, none⟩ = some (.int .i64 Q) := by rw [heap_cell HH6.out.act]; rfl
                        have q0 := HS6.out.own.c0 m hm
                        have qf := HS6.out.own.frozen
                        generalize hPC : A1 m = PC at *
                        generalize hPD : B1 m = PD at *
                        have HCD := Hid.intro (And.intro hPC hPD)
                        obtain ⟨hpc, hpd⟩ := hA1
                        clear hPC hPD
                        go_region
                        go_wp2_with fail
                        refine wp_gen (fun W => Sg2 w W b ob _ Wy (k + 1) (updI A1 m (PC + Q)) B1 ∧ Sh W ob ba (ba + 1) #[.string kd, .int .i64 n, .int .i64 Q, .int .i64 R, .int .u64 K, .bool On, .string S1, .string T1] (wasC t Wy)) ⟨(HS6.out.set0 hm (PC + Q)).drew, (HH6.out.set _ _).drew⟩ ?_
                        rintro W7 ⟨hS7, hH7⟩
                        have HS7 := Hid.intro hS7
                        have HH7 := Hid.intro hH7
                        clear x2 q0 qf hS7 hH7
                        have x3 : W7.cell? ⟨ba, 3, none⟩ = some (.int .i64 R) := by rw [heap_cell HH7.out.act]; rfl
                        have q1 := HS7.out.own.c1 m hm
                        have qf := HS7.out.own.frozen
                        rw [HCD.out.2] at q1
                        go_region
                        go_wp2_with fail
                        go_meet
                        case rel => exact ⟨_, Wy, _, _, (HS7.out.set1 hm (PD + R)).drew.done HBK.out, (HH7.out.set _ _).drew, HST.out.fit⟩
                      · rw [mov_no he] at ht
                        rw [errV_ne he]
                        have HS4 := Hid.intro (HS3.out.frm hf ht (HS3.out.tree.mono (show k ≤ k + 1 by omega)) fun _ => HS3.out.ok)
                        have HH4 := Hid.intro (HH3.out.frm hf HS3.out.lt)
                        clear ht hf x0 x1 x2 x3 x4 he
                        go_wp2_with fail
                        go_meet
                        case rel => exact ⟨t, Wy, A, B, HS4.out, HH4.out, fit_self⟩
          case rest =>
            as_aux_lemma =>
            clear HS3 HH3 x0 x1 x2 x3 x4
            obtain ⟨t', Wy', A', B', HC⟩ := hcut
            have HCW : Hid (WAt wc (ba + 1) (wasC t Wy)) := HC.out.2.1.was
            have HCO : Hid (PAt wc ob A' B') := HC.out.1.own
            go_wp2_with (first | (refine wpList_ld74 (A := A') (B := B') (b := ob) rfl ?_ ?_; exact HCO.out) | (refine wpList_ld77 (G := wasC t Wy) (b := ba + 1) rfl ?_ ?_; exact HCW.out))
            refine (summed_any b t' Wy' (k + 1) A' B' (wasC t Wy) _ HC.out.1.tat HC.out.1.tree (by omega) HC.out.1.ok HC.out.2.2).mono ?_
            rintro e W5 ⟨rfl, hb5⟩
            have HS5 := Hid.intro (HC.out.1.below (hb5.mono HC.out.1.own.lt))
            clear hb5 HCW HCO
            go_wp2_with fail
            go_roundw
            case rel => exact ⟨k + 1, t', Wy', A', B', by go_num, by omega, HS5.out⟩
            case measure => simp [intOf]; omega
    · have hkn : k = n0 := by omega
      subst hkn
      go_wp2_with fail
      go_ret
      exact ⟨rfl, S.out.bel⟩
end Go.Proofs.Ytgabceeekkcekaa

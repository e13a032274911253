/- TopMove: the acts. -/
import Derived.Test.YtfgnhldnmbfnkabVe
namespace Go.Proofs.Ytfgnhldnmbfnkab
open Go.RowKit
open Tr (Fo Nd)

theorem lightT_any (a : Option Addr) (b o n c : Nat) (m : Int) (ax : Nat → Act8) (w : World) (hn : n ≤ 1000) (ha : 0 < n → a = some ⟨b, o, none⟩) (h : ∀ i, i < n → ∀ j, j < 8 → w.cell? ⟨b, o + i * 8 + j, none⟩ = some ((ax i).cell j)) :
    Calls Try.prog 37 #[.slice a n c, .int .i64 m] w fun e w' => ∃ v, e = .returned v ∧ LightTo ax n m v ∧ w' = w := by
  by_cases h0 : n = 0
  · subst h0
    refine (lightT_none a c m w).mono ?_
    rintro e w' ⟨rfl, hw⟩
    exact ⟨_, rfl, .inr ⟨rfl, fun i hi => absurd hi (Nat.not_lt_zero i)⟩, hw⟩
  · rw [ha (by omega)]
    exact lightT_some b o n c m ax w hn h
set_option maxRecDepth 100000 in
set_option maxHeartbeats 4000000 in
theorem tm_near (a0 : Option Addr) (b0 o0 n0 c0 : Nat) (ax : Nat → Act8) (zn zt : Int) (nm ot : ByteArray) (w : World) (hn : n0 ≤ 80) (ha : 0 < n0 → a0 = some ⟨b0, o0, none⟩) (hc : ∀ i, i < n0 → ∀ j, j < 8 → w.cell? ⟨b0, o0 + i * 8 + j, none⟩ = some ((ax i).cell j)) :
    Calls Try.prog 8 #[.slice a0 n0 c0, .int .i64 zn, .string nm, .int .i64 zt, .string ot] w fun e w' => e = .returned (.bool true) ∧ Below w.heap.size w w' := by
  have d : decide ((n0 : Int) ≤ 80) = true := by simp; omega
  have H0 := Hid.intro hc
  have HA := Hid.intro ha
  clear hc ha
  go_enter Try.func8, Try.ntmps8
  go_wp2_with fail
  refine (tnew_any _).mono ?_
  rintro e W1 ⟨rfl, f1, b1⟩
  have S1 : Hid (TM w W1 w.heap.size Tr.f0) := Hid.intro ⟨b1, f1, Tr.ok0, Nat.le_refl _⟩
  clear f1 b1
  go_wp2_with fail
  refine (tplant_any w.heap.size Tr.f0 _ S1.out.2.1 (by decide)).mono ?_
  rintro e W2 ⟨T, E, G, rfl, hp, h2, f2⟩
  obtain ⟨rfl, rfl, rfl⟩ := Tr.pla_first hp
  have S2 : Hid (TM w W2 w.heap.size Tr.g1) := Hid.intro (S1.out.step h2 f2 Tr.ok_g1)
  clear hp h2 f2
  rw [errV_zero]
  go_wp2_with fail
  refine (tplant_any w.heap.size Tr.g1 _ S2.out.2.1 (by decide)).mono ?_
  rintro e W3 ⟨T, E, G, rfl, hp, h3, f3⟩
  obtain ⟨rfl, rfl, rfl⟩ := Tr.pla_second hp
  have S3 : Hid (TM w W3 w.heap.size Tr.g2) := Hid.intro (S2.out.step h3 f3 Tr.ok_g2)
  clear hp h3 f3
  rw [errV_zero]
  go_wp2_with fail
  refine (tnodes_any w.heap.size Tr.g2 _ S3.out.2.1).mono ?_
  rintro e W4 ⟨rfl, hW⟩
  subst W4
  rw [Tr.cnt_g2]
  go_wp2_with fail
  refine (light_any _ _ _ _ _).mono ?_
  rintro e W4 ⟨rfl, hW⟩
  subst W4
  rw [d]
  clear d
  go_wp2_with fail
  have HC3 : Hid (∀ i, i < n0 → ∀ j, j < 8 → W3.cell? ⟨b0, o0 + i * 8 + j, none⟩ = some ((ax i).cell j)) := Hid.intro (fun i hi j hj => (S3.out.1.cell (p := ⟨b0, o0 + i * 8 + j, none⟩) (World.block_lt_of_cell? _ _ (H0.out i hi j hj))).trans (H0.out i hi j hj))
  refine (lightT_any a0 b0 o0 n0 c0 60 ax _ (by omega) HA.out HC3.out).mono ?_
  rintro e W4 ⟨v, rfl, hv, hW⟩
  subst W4
  rcases hv with rfl | ⟨rfl, hlt⟩
  · go_wp2_with fail
    go_ret
    exact ⟨rfl, S3.out.1⟩
  · have HLT := Hid.intro hlt
    obtain ⟨b, hb⟩ : ∃ b, w.heap.size = b := ⟨_, rfl⟩
    rw [hb] at S3
    clear hlt HC3 S1 S2
    rw [hb]
    have HB := Hid.intro hb
    clear hb
    by_cases hx : (60 : Int) < (nm.size : Int)
    · go_wp2_with fail
      go_ret
      rw [← HB.out] at S3
      exact ⟨rfl, S3.out.1⟩
    by_cases hy : (60 : Int) < (ot.size : Int)
    · go_wp2_with fail
      go_ret
      rw [← HB.out] at S3
      exact ⟨rfl, S3.out.1⟩
    go_wp2_with fail
    go_loopw [16, 17] (fun i x wr => ∃ (j : Nat) (F : Fo), i = .int .i64 j ∧ j ≤ n0 ∧ Hid (TM w wr b F)) (fun i _ _ => n0 - (intOf i).toNat)
    case atStart => exact ⟨0, Tr.g2, rfl, by omega, S3⟩
    case round =>
      clear S3
      obtain ⟨j, F, rfl, hj, S⟩ := hrel
      by_cases hlt : j < n0
      · have hltI : (j : Int) < (n0 : Int) := by omega
        have hl := HLT.out j hlt
        obtain ⟨kd, A, B, C, K, On, S1, T1, hax⟩ : ∃ kd A B C K On S1 T1, ax j = ⟨kd, A, B, C, K, On, S1, T1⟩ := ⟨_, _, _, _, _, _, _, _, rfl⟩
        rw [hax] at hl
        have HL : Hid (S1.size < 2 ^ 60) := Hid.intro (by have : (S1.size : Int) ≤ 60 := hl.1; omega)
        have bl : b0 < w.heap.size := World.block_lt_of_cell? _ _ (H0.out j hlt 0 (by omega))
        have hae := HA.out (by omega)
        subst hae
        have cl : ∀ i, i < 8 → wr.cell? ⟨b0, o0 + j * 8 + i, none⟩ = some ((⟨kd, A, B, C, K, On, S1, T1⟩ : Act8).cell i) := fun i hi => by
          rw [← hax]; exact (S.out.1.cell (p := ⟨b0, o0 + j * 8 + i, none⟩) bl).trans (H0.out j hlt i hi)
        have c0' : wr.cell? ⟨b0, o0 + j * 8, none⟩ = some (.string kd) := cl 0 (by omega)
        have c1 : wr.cell? ⟨b0, o0 + j * 8 + 1, none⟩ = some (.int .i64 A) := cl 1 (by omega)
        have c2 : wr.cell? ⟨b0, o0 + j * 8 + 2, none⟩ = some (.int .i64 B) := cl 2 (by omega)
        have c3 : wr.cell? ⟨b0, o0 + j * 8 + 3, none⟩ = some (.int .i64 C) := cl 3 (by omega)
        have c4 : wr.cell? ⟨b0, o0 + j * 8 + 4, none⟩ = some (.int .u64 K) := cl 4 (by omega)
        have c5 : wr.cell? ⟨b0, o0 + j * 8 + 5, none⟩ = some (.bool On) := cl 5 (by omega)
        have c6 : wr.cell? ⟨b0, o0 + j * 8 + 6, none⟩ = some (.string S1) := cl 6 (by omega)
        have c7 : wr.cell? ⟨b0, o0 + j * 8 + 7, none⟩ = some (.string T1) := cl 7 (by omega)
        clear cl hax bl hl
        go_upto_region 14 with fail
        refine wp_gen (fun W' => TM w W' b F ∧ W'.heap[wr.heap.size]? = some (.cells #[.string kd, .int .i64 A, .int .i64 B, .int .i64 C, .int .u64 K, .bool On, .string S1, .string T1] 40 (0, 0))) ⟨S.out.below ((Below.refl _ _).alloc (Nat.le_refl _) _), heap_alloc_new wr _⟩ ?_
        rintro W5 ⟨hS5, hbx⟩
        have S5 := Hid.intro hS5
        clear c0' c1 c2 c3 c4 c5 c6 c7 S hS5
        generalize wr.heap.size = ba at *
        have x0 := act_cells hbx 0 _ rfl
        have x1 := act_cells hbx 1 _ rfl
        have x2 := act_cells hbx 2 _ rfl
        have x6 := act_cells hbx 6 _ rfl
        clear hbx
        by_cases m1 : (kd.toList == [109, 97, 107, 101]) = true
        · go_wp2_with fail
          refine (tmake_any b A S1 B F _ S5.out.2.1 S5.out.2.2.1.sz).mono ?_
          rintro e W6 ⟨KK, E, G, rfl, hm, h6, f6⟩
          have S6 := Hid.intro (S5.out.step h6 f6 (S5.out.2.2.1.mak hm))
          clear hm h6 f6
          go_wp2_with fail
          go_roundw
          case rel => exact ⟨j + 1, _, by go_num, by omega, S6⟩
          case measure => simp [intOf]; omega
        · have m1' : (kd.toList == [109, 97, 107, 101]) = false := by simpa using m1
          by_cases m2 : (kd.toList == [108, 105, 110, 107]) = true
          · clear m1
            go_wp2_with fail
            refine (tlink_any b A B S1 F _ S5.out.2.1 S5.out.2.2.1.sz S5.out.links).mono ?_
            rintro e W6 ⟨E, G, rfl, hm, h6, f6⟩
            have S6 := Hid.intro (S5.out.step h6 f6 (S5.out.2.2.1.lin hm))
            clear hm h6 f6
            go_wp2_with fail
            go_roundw
            case rel => exact ⟨j + 1, _, by go_num, by omega, S6⟩
            case measure => simp [intOf]; omega
          · have m2' : (kd.toList == [108, 105, 110, 107]) = false := by simpa using m2
            by_cases m3 : (kd.toList == [119, 114, 105, 116, 101]) = true
            · clear m1 m2
              go_wp2_with fail
              refine (twrite_any b A B S1 F _ S5.out.2.1 HL.out).mono ?_
              rintro e W6 ⟨rfl, h6, f6⟩
              have S6 := Hid.intro (S5.out.step h6 f6 (S5.out.2.2.1.wri A B S1))
              clear h6 f6
              go_wp2_with fail
              go_roundw
              case rel => exact ⟨j + 1, _, by go_num, by omega, S6⟩
              case measure => simp [intOf]; omega
            · have m3' : (kd.toList == [119, 114, 105, 116, 101]) = false := by simpa using m3
              clear m1 m2 m3
              go_wp2_with fail
              go_roundw
              case rel => exact ⟨j + 1, F, by go_num, by omega, S5⟩
              case measure => simp [intOf]; omega
      · have hltI : ¬ (j : Int) < (n0 : Int) := by omega
        clear HLT H0 hlt
        go_wp2_with fail
        refine (tnodes_any b F _ S.out.2.1).mono ?_
        rintro e W7 ⟨rfl, hW⟩
        subst W7
        have HN : Hid (∀ G : Fo, (∀ x, (G.nd x).kind = (F.nd x).kind) → Tr.cntN G 40 = Tr.cntN F 40) := Hid.intro (fun G h => Tr.cntN_congr h 40)
        generalize Tr.cntN F 40 = cN at HN ⊢
        go_wp2_with fail
        refine (tfind_any b zn nm F _ S.out.2.1 S.out.2.2.1.sz).mono ?_
        rintro e W7 ⟨K, E, rfl, hfn, b7⟩
        have S7 := Hid.intro (S.out.below b7)
        have FN := Hid.intro hfn
        clear b7 hfn S
        by_cases e0 : E = 0
        · subst e0
          rw [errV_zero]
          go_wp2_with fail
          refine (tlist_any b (K : Int) F _ S7.out.2.1 S7.out.2.2.1.sz).mono ?_
          rintro e W8 ⟨v1, rfl, so⟩
          have T8 := Hid.intro (so.tl S7.out.2.1.lt)
          have S8 := Hid.intro (S7.out.below so.bel)
          clear so S7
          generalize errV (Tr.isE F (K : Int) 2) = x1
          go_wp2_with fail
          refine (tread_any b (K : Int) 0 99 F _ S8.out.2.1 S8.out.2.2.1.fz).mono ?_
          rintro e W9 ⟨rfl, _, b9⟩
          have T9 := Hid.intro (T8.out.below b9)
          have S9 := Hid.intro (S8.out.below b9)
          clear b9 S8 T8
          generalize errV (Tr.reaE F (K : Int) 0 99) = x2
          obtain ⟨d1, hd1⟩ : ∃ d1, Tr.reaS F (K : Int) 0 99 = d1 := ⟨_, rfl⟩
          rw [hd1]
          have D1 := Hid.intro hd1
          clear hd1
          go_wp2_with fail
          refine (tof_any b (K : Int) F _ S9.out.2.1).mono ?_
          rintro e WA ⟨rfl, bA⟩
          have TA := Hid.intro (T9.out.below bA)
          have SA := Hid.intro (S9.out.below bA)
          clear bA S9 T9
          generalize errV (Tr.nodeE F (K : Int)) = x3
          obtain ⟨p1, p2, p3, p4, hof⟩ := ofA_four F (K : Int)
          rw [hof]
          have OF := Hid.intro hof
          clear hof
          go_upto_region 26 with fail
          refine wp_gen (fun W' => TM w W' b F ∧ TL b (Tr.lisL F (K : Int)) v1 W' ∧ (W'.heap[WA.heap.size]? = some (.cells #[.int .i64 p1, .int .i64 p2, .int .i64 p3, .int .i64 p4] 99 (0, 0)) ∧ WA.heap.size ≠ b)) ⟨SA.out.below ((Below.refl _ _).alloc (Nat.le_refl _) _), TA.out.below ((Below.refl _ _).alloc (Nat.le_refl _) _), heap_alloc_new WA _, by have := SA.out.2.1.lt; omega⟩ ?_
          rintro WB ⟨hSB, hTB, hXB⟩
          have SB := Hid.intro hSB
          have TB := Hid.intro hTB
          have XB := Hid.intro hXB
          clear hSB hTB hXB SA TA
          generalize WA.heap.size = c1 at *
          go_wp2_with fail
          refine (tmove_any b zn nm zt ot F _ SB.out.2.1 SB.out.2.2.1.sz SB.out.2.2.1.kid SB.out.2.2.1.en).mono ?_
          rintro e WC ⟨E2, G, rfl, hm, fC, frC⟩
          have SC := Hid.intro (SB.out.step fC frC (SB.out.2.2.1.mov hm))
          have TC := Hid.intro (TB.out.frm frC)
          have XC : Hid (WC.heap[c1]? = some (.cells #[.int .i64 p1, .int .i64 p2, .int .i64 p3, .int .i64 p4] 99 (0, 0)) ∧ c1 ≠ b) := Hid.intro ⟨(frC.block c1 (Array.getElem?_eq_some_iff.1 XB.out.1).1 XB.out.2).trans XB.out.1, XB.out.2⟩
          have MF := Hid.intro (Tr.mov_facts SB.out.2.2.1 FN.out hm)
          have OW : Hid (Tr.lisL G (K : Int) = Tr.lisL F (K : Int) ∧ Tr.reaS G (K : Int) 0 99 = d1 ∧ ofA G (K : Int) = #[.int .i64 p1, .int .i64 p2, .int .i64 p3, .int .i64 p4] ∧ Tr.cntN G 40 = cN ∧ (Tr.lisL F (K : Int)).length < 1000000) := Hid.intro (by
            obtain ⟨kk, ⟨u, hu⟩, _, _⟩ := MF.out
            obtain ⟨o1, o2, o3⟩ := Tr.own_same kk hu 0 99
            refine ⟨o1, o2.trans D1.out, o3.trans OF.out, HN.out G kk, ?_⟩
            have := Tr.lisL_len SB.out.2.2.1.sz (K : Int)
            omega)
          clear hm fC frC SB TB XB D1 OF HN
          go_upto_region 27 with fail
          go_wp2_with fail
          refine (tlist_any b (K : Int) G _ SC.out.2.1 SC.out.2.2.1.sz).mono ?_
          rintro e WD ⟨v2, rfl, so⟩
          rw [OW.out.1] at so
          have TD := Hid.intro (And.intro (TC.out.below so.bel) (so.tl SC.out.2.1.lt))
          have XD : Hid (WD.heap[c1]? = some (.cells #[.int .i64 p1, .int .i64 p2, .int .i64 p3, .int .i64 p4] 99 (0, 0)) ∧ c1 ≠ b) := Hid.intro ⟨(so.bel.block c1 (Array.getElem?_eq_some_iff.1 XC.out.1).1).trans XC.out.1, XC.out.2⟩
          have SD := Hid.intro (SC.out.below so.bel)
          clear so SC TC XC
          generalize errV (Tr.isE G (K : Int) 2) = y1
          go_wp2_with fail
          refine (tread_any b (K : Int) 0 99 G _ SD.out.2.1 SD.out.2.2.1.fz).mono ?_
          rintro e WE ⟨rfl, _, bE⟩
          rw [OW.out.2.1]
          have TE := Hid.intro (And.intro (TD.out.1.below bE) (TD.out.2.below bE))
          have XE : Hid (WE.heap[c1]? = some (.cells #[.int .i64 p1, .int .i64 p2, .int .i64 p3, .int .i64 p4] 99 (0, 0)) ∧ c1 ≠ b) := Hid.intro ⟨(bE.block c1 (Array.getElem?_eq_some_iff.1 XD.out.1).1).trans XD.out.1, XD.out.2⟩
          have SE := Hid.intro (SD.out.below bE)
          clear bE SD TD XD
          generalize errV (Tr.reaE G (K : Int) 0 99) = y2
          go_wp2_with fail
          refine (tof_any b (K : Int) G _ SE.out.2.1).mono ?_
          rintro e WG ⟨rfl, bG⟩
          rw [OW.out.2.2.1]
          have TG := Hid.intro (And.intro (TE.out.1.below bG) (TE.out.2.below bG))
          have XG : Hid (WG.heap[c1]? = some (.cells #[.int .i64 p1, .int .i64 p2, .int .i64 p3, .int .i64 p4] 99 (0, 0)) ∧ c1 ≠ b) := Hid.intro ⟨(bG.block c1 (Array.getElem?_eq_some_iff.1 XE.out.1).1).trans XE.out.1, XE.out.2⟩
          have SG := Hid.intro (SE.out.below bG)
          clear bG SE TE XE
          generalize errV (Tr.nodeE G (K : Int)) = y3
          go_upto_region 32 with fail
          refine wp_gen (fun W' => TM w W' b G ∧ (TL b (Tr.lisL F (K : Int)) v1 W' ∧ TL b (Tr.lisL F (K : Int)) v2 W') ∧ W'.heap[c1]? = some (.cells #[.int .i64 p1, .int .i64 p2, .int .i64 p3, .int .i64 p4] 99 (0, 0)) ∧ W'.heap[WG.heap.size]? = some (.cells #[.int .i64 p1, .int .i64 p2, .int .i64 p3, .int .i64 p4] 99 (0, 0))) (by
            have bb : Below WG.heap.size WG (WG.alloc (.cells #[.int .i64 p1, .int .i64 p2, .int .i64 p3, .int .i64 p4] 99)) := (Below.refl _ _).alloc (Nat.le_refl _) _
            exact ⟨SG.out.below bb, ⟨TG.out.1.below bb, TG.out.2.below bb⟩, (bb.block c1 (Array.getElem?_eq_some_iff.1 XG.out.1).1).trans XG.out.1, heap_alloc_new WG _⟩) ?_
          rintro WH ⟨hSH, hTH, hX1, hX2⟩
          have SH := Hid.intro hSH
          have TH := Hid.intro hTH
          have XH := Hid.intro (And.intro hX1 hX2)
          clear hSH hTH hX1 hX2 SG TG XG
          generalize WG.heap.size = c2 at *
          go_wp2_with fail
          refine (sameT_tl TH.out.1 TH.out.2 OW.out.2.2.2.2).mono ?_
          rintro e WI ⟨rfl, kq, hWI⟩
          have SI : Hid (TM w WI b G) := Hid.intro (by rw [hWI]; exact SH.out.below ⟨rfl, rfl, rfl, Nat.le_refl _, fun _ _ => rfl⟩)
          have XI : WI.heap[c1]? = some (.cells #[.int .i64 p1, .int .i64 p2, .int .i64 p3, .int .i64 p4] 99 (0, 0)) ∧ WI.heap[c2]? = some (.cells #[.int .i64 p1, .int .i64 p2, .int .i64 p3, .int .i64 p4] 99 (0, 0)) := by rw [hWI]; exact XH.out
          clear SH TH XH hWI
          have q0 : WI.cell? ⟨c1, 0, none⟩ = some (.int .i64 p1) := by rw [cell_blk XI.1]; rfl
          have q1 : WI.cell? ⟨c1, 1, none⟩ = some (.int .i64 p2) := by rw [cell_blk XI.1]; rfl
          have q2 : WI.cell? ⟨c1, 2, none⟩ = some (.int .i64 p3) := by rw [cell_blk XI.1]; rfl
          have q3 : WI.cell? ⟨c1, 3, none⟩ = some (.int .i64 p4) := by rw [cell_blk XI.1]; rfl
          have r0 : WI.cell? ⟨c2, 0, none⟩ = some (.int .i64 p1) := by rw [cell_blk XI.2]; rfl
          have r1 : WI.cell? ⟨c2, 1, none⟩ = some (.int .i64 p2) := by rw [cell_blk XI.2]; rfl
          have r2 : WI.cell? ⟨c2, 2, none⟩ = some (.int .i64 p3) := by rw [cell_blk XI.2]; rfl
          have r3 : WI.cell? ⟨c2, 3, none⟩ = some (.int .i64 p4) := by rw [cell_blk XI.2]; rfl
          clear XI
          go_wp2_with fail
          refine (tnodes_any b G _ SI.out.2.1).mono ?_
          rintro e WJ ⟨rfl, hW⟩
          subst WJ
          rw [OW.out.2.2.2.1]
          clear q0 q1 q2 q3 r0 r1 r2 r3
          by_cases e2 : E2 = 0
          · subst e2
            rw [errV_zero]
            have M4 := Hid.intro (MF.out.2.2.2 rfl)
            clear MF FN OW HB
            go_wp2_with fail
            refine (tfind_any b zt ot G _ SI.out.2.1 SI.out.2.2.1.sz).mono ?_
            rintro e WJ ⟨K1, E1, rfl, hf1, bJ⟩
            obtain ⟨rfl, rfl⟩ := M4.out.1.unique hf1
            have SJ := Hid.intro (SI.out.below bJ)
            have M5 := Hid.intro M4.out.2
            clear bJ hf1 SI M4
            rw [errV_zero]
            go_wp2_with fail
            refine (tfind_any b zn nm G _ SJ.out.2.1 SJ.out.2.2.1.sz).mono ?_
            rintro e WK ⟨K2, E3, rfl, hf2, bK⟩
            have SK := Hid.intro (SJ.out.below bK)
            clear bK SJ
            rcases M5.out with hh | ⟨rfl, hs, hh⟩
            · obtain ⟨rfl, rfl⟩ := hh.unique hf2
              clear hh hf2 M5
              rw [errV_ne (by decide)]
              go_wp2_with (go_at_call 33; refine (vnumber_err 2 _).mono ?_; rintro e w7 ⟨rfl, hw7⟩; subst w7)
              go_ret
              exact ⟨rfl, SK.out.1⟩
            · obtain ⟨rfl, rfl⟩ := hh.unique hf2
              clear hh hf2 M5
              rw [errV_zero]
              go_wp2_with fail
              go_ret
              exact ⟨rfl, SK.out.1⟩
          · have hG := MF.out.2.2.1 e2
            subst hG
            rw [errV_ne e2]
            clear MF OW HB e2
            go_wp2_with fail
            refine (tfind_any b zn nm G _ SI.out.2.1 SI.out.2.2.1.sz).mono ?_
            rintro e WJ ⟨K1, E1, rfl, hf1, bJ⟩
            obtain ⟨rfl, rfl⟩ := FN.out.unique hf1
            have SJ := Hid.intro (SI.out.below bJ)
            clear bJ hf1 SI FN
            rw [errV_zero]
            go_wp2_with fail
            go_ret
            exact ⟨rfl, SJ.out.1⟩
        · rw [errV_ne e0]
          have NE := Hid.intro e0
          clear e0
          go_wp2_with fail
          refine (tlist_any b (K : Int) F _ S7.out.2.1 S7.out.2.2.1.sz).mono ?_
          rintro e W8 ⟨v1, rfl, so⟩
          have S8 := Hid.intro (S7.out.below so.bel)
          clear so S7
          generalize errV (Tr.isE F (K : Int) 2) = x1
          go_wp2_with fail
          refine (tread_any b (K : Int) 0 99 F _ S8.out.2.1 S8.out.2.2.1.fz).mono ?_
          rintro e W9 ⟨rfl, _, b9⟩
          have S9 := Hid.intro (S8.out.below b9)
          clear b9 S8
          generalize errV (Tr.reaE F (K : Int) 0 99) = x2
          generalize Tr.reaS F (K : Int) 0 99 = d1
          go_wp2_with fail
          refine (tof_any b (K : Int) F _ S9.out.2.1).mono ?_
          rintro e WA ⟨rfl, bA⟩
          have SA := Hid.intro (S9.out.below bA)
          clear bA S9
          generalize errV (Tr.nodeE F (K : Int)) = x3
          obtain ⟨p1, p2, p3, p4, hof⟩ := ofA_four F (K : Int)
          rw [hof]
          clear hof
          go_upto_region 26 with fail
          refine wp_gen (fun W' => TM w W' b F) (SA.out.below ((Below.refl _ _).alloc (Nat.le_refl _) _)) ?_
          rintro WB hSB
          have SB := Hid.intro hSB
          clear hSB SA
          generalize WA.heap.size = c1 at *
          go_wp2_with fail
          refine (tmove_any b zn nm zt ot F _ SB.out.2.1 SB.out.2.2.1.sz SB.out.2.2.1.kid SB.out.2.2.1.en).mono ?_
          rintro e WC ⟨E2, G, rfl, hm, fC, frC⟩
          have SC := Hid.intro (SB.out.step fC frC (SB.out.2.2.1.mov hm))
          obtain ⟨ne2, hG⟩ := Tr.mov_fails FN.out NE.out hm
          subst hG
          have OW := Hid.intro (HN.out G (fun _ => rfl))
          rw [errV_ne ne2]
          clear hm fC frC SB HN FN NE ne2
          go_wp2_with fail
          refine (tnodes_any b G _ SC.out.2.1).mono ?_
          rintro e WJ ⟨rfl, hW⟩
          subst WJ
          rw [OW.out]
          go_wp2_with fail
          go_ret
          exact ⟨rfl, SC.out.1⟩
theorem tm_any (a0 : Option Addr) (n0 c0 : Nat) (zn zt : Int) (nm ot : ByteArray) (w : World) (h : IsActs0 w a0 n0) :
    Calls Try.prog 8 #[.slice a0 n0 c0, .int .i64 zn, .string nm, .int .i64 zt, .string ot] w fun e w' => e = .returned (.bool true) ∧ Below w.heap.size w w' := by
  by_cases hn : n0 ≤ 80
  · by_cases h0 : 0 < n0
    · obtain ⟨b0, o0, ax, ha, hc⟩ := h.2 h0
      exact tm_near a0 b0 o0 n0 c0 ax zn zt nm ot w hn (fun _ => ha) hc
    · exact tm_near a0 0 0 n0 c0 (fun _ => ⟨⟨#[]⟩, 0, 0, 0, 0, false, ⟨#[]⟩, ⟨#[]⟩⟩) zn zt nm ot w hn (fun k => absurd k h0) (fun i hi => absurd hi (by omega))
  · exact tm_far a0 n0 c0 zn zt nm ot w (by omega)
end Go.Proofs.Ytfgnhldnmbfnkab

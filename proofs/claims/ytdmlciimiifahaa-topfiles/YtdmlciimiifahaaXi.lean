/- TopFiles: the law. -/
import Derived.Test.YtdmlciimiifahaaXh
import Derived.Deep.Cut
namespace Go.Proofs.Ytdmlciimiifahaa
open Go.RowKit
open Fx (Fi)
open Tr (Fo Nd)
open Pp (Pi)

theorem Tk.cnt_keep (F : Fo) (n : Nat) (x : Nd) (hn : n < 40) (h : (F.nd n).kind ≠ 0) (hx : x.kind ≠ 0) : Tr.cntN (F.put n x) 40 = Tr.cntN F 40 := by
  have := Tk.cnt_put F n x 40
  rw [if_pos ⟨hn, h⟩, if_pos ⟨hn, hx⟩] at this
  omega
theorem Tk.cnt_drop (F : Fo) (n : Nat) (x : Nd) (hn : n < 40) (h : (F.nd n).kind ≠ 0) (hx : x.kind = 0) : Tr.cntN (F.put n x) 40 + 1 = Tr.cntN F 40 := by
  have := Tk.cnt_put F n x 40
  rw [if_pos ⟨hn, h⟩, if_neg (fun d => d.2 hx)] at this
  omega
theorem Tk.cnt_end {F : Fo} {A : ByteArray} (k : Tk F 0 2 A) : Tr.cntN (Tr.letT (Tr.letT F 1) 1) 40 + 1 = Tr.cntN F 40 := by
  obtain ⟨k1, e1⟩ := k.letT
  rw [k1.gone]
  rw [Tk.cnt_drop _ 1 Nd.no (by omega) (by rw [Tr.put_same]; show ((Tr.letT F 1).nd 1).kind ≠ 0; rw [k1.k1]; decide) rfl]
  rw [Tk.cnt_keep _ 1 _ (by omega) (by rw [k1.k1]; decide) (by show ((Tr.letT F 1).nd 1).kind ≠ 0; rw [k1.k1]; decide), e1]
  exact Tk.cnt_keep _ 1 _ (by omega) (by rw [k.k1]; decide) (by show (F.nd 1).kind ≠ 0; rw [k.k1]; decide)
theorem Tk.ext_next {A : ByteArray} {pr q : Nat} : A.extract 0 pr ++ A.extract pr (pr + q) = A.extract 0 (pr + q) := by
  rw [ByteArray.extract_append_extract, Nat.zero_min, Nat.max_eq_right (by omega)]
theorem Tk.toL_yes {s : ByteArray} (h : s.size ≠ 0) : (s.toList == []) = false := by
  rw [beq_eq_false_iff_ne]
  intro e
  rw [ByteArray.toList_eq] at e
  apply h
  show s.data.size = 0
  rw [← Array.length_toList, e]
  rfl
theorem Pp.toL0 {t : ByteArray} (h : t.size = 0) : (t.toList == []) = true := by
  have : t = ⟨#[]⟩ := by
    apply ByteArray.ext
    exact Array.eq_empty_of_size_eq_zero h
  rw [this, ByteArray.toList_eq]
  rfl
set_option maxRecDepth 100000 in
set_option maxHeartbeats 2000000 in
theorem tf_far (a0 a1 : Option Addr) (n0 c0 n1 c1 : Nat) (w : World) (h : 40 < n0 ∨ 40 < n1) :
    Calls Try.prog 4 #[.slice a0 n0 c0, .slice a1 n1 c1] w fun e w' => e = .returned (.bool true) ∧ Below w.heap.size w w' := by
  by_cases g : 40 < n0
  · have gI : (40 : Int) < (n0 : Int) := by omega
    clear h
    go_enter Try.func4, Try.ntmps4
    go_wp2_with fail
    refine (tnew_any _).mono ?_
    rintro e W1 ⟨rfl, f1, b1⟩
    have F1 := Hid.intro f1
    have B1 := Hid.intro b1
    clear f1 b1
    go_wp2_with fail
    refine (tplant_any w.heap.size Tr.f0 _ F1.out (by decide)).mono ?_
    rintro e W2 ⟨T, E, G, rfl, hp, h2, f2⟩
    obtain ⟨rfl, rfl, rfl⟩ := Tr.pla_first hp
    have F2 := Hid.intro h2
    have B2 := Hid.intro (f2.below B1.out (Nat.le_refl _) B1.out.size)
    clear hp h2 f2 F1 B1
    rw [errV_zero]
    go_wp2_with fail
    refine (tf_make1 w.heap.size _ F2.out).mono ?_
    rintro e W3 ⟨rfl, h3, f3⟩
    have F3 := Hid.intro h3
    have B3 := Hid.intro (f3.below B2.out (Nat.le_refl _) B2.out.size)
    clear h3 f3 F2 B2
    go_wp2_with fail
    refine (tf_make2 w.heap.size _ F3.out).mono ?_
    rintro e W4 ⟨rfl, h4, f4⟩
    have F4 := Hid.intro h4
    have B4 := Hid.intro (f4.below B3.out (Nat.le_refl _) B3.out.size)
    clear h4 f4 F3 B3
    go_wp2_with (refine Pp.wp_buildS rfl rfl ?_)
    have P5 := Hid.intro (pzero_alloc W4)
    generalize W4.alloc (.cells Pp.zA 55) = W5 at *
    refine (xnew_any w.heap.size W4.heap.size _).mono ?_
    rintro e W6 ⟨rfl, x6, b6⟩
    have S6 : Hid (TS w W6 W5.heap.size w.heap.size W4.heap.size Fi.no Fi.no Fi.no Tk.g3) := Hid.intro (by
      have l4 := F4.out.lt
      have l5 := P5.out.1.lt
      have s4 := B4.out.size
      have s5 := P5.out.2.size
      rw [Fx.tt_nul] at x6
      exact ⟨(B4.out.trans (P5.out.2.mono s4)).trans (b6.mono (by omega)), ⟨x6, (F4.out.below P5.out.2).below b6, P5.out.1.below b6 P5.out.1.lt, by omega, by omega, by omega⟩, by omega, Nat.le_refl _, s4⟩)
    clear F4 B4 P5 x6 b6
    generalize W5.heap.size = t at *
    generalize W4.heap.size = p at *
    obtain ⟨b, hb⟩ : ∃ b, w.heap.size = b := ⟨_, rfl⟩
    rw [hb] at S6
    rw [hb]
    have HB := Hid.intro hb
    clear hb
    go_wp2_with fail
    refine (tf_node1 S6.out).mono ?_
    rintro e W7 ⟨rfl, s7⟩
    have S7 := Hid.intro s7
    clear s7 S6
    go_wp2_with fail
    refine (tf_node2 S7.out).mono ?_
    rintro e W8 ⟨rfl, s8⟩
    have S8 := Hid.intro s8
    clear s8 S7
    go_wp2_with fail
    refine (tf_node3 S8.out).mono ?_
    rintro e W9 ⟨rfl, s9⟩
    have S9 := Hid.intro s9
    clear s9 S8
    go_wp2_with fail
    refine (tf_share S9.out (by decide) (by decide)).mono ?_
    rintro e W10 ⟨rfl, s10⟩
    have S10 := Hid.intro s10
    clear s10 S9
    go_wp2_with fail
    refine (xopen_any t b p _ _ S10.out.2.1.1).mono ?_
    rintro e W11 ⟨rfl, hW⟩
    subst W11
    rw [show Fx.cnt (Fx.tt (Fx.xw 2 0) (Fx.xr 0) (Fx.xo 0)) 24 = 3 from rfl]
    go_wp2_with fail
    go_ret
    rw [← HB.out]
    exact ⟨rfl, S10.out.1⟩
  · have gI : ¬ (40 : Int) < (n0 : Int) := by omega
    have gJ : (40 : Int) < (n1 : Int) := by omega
    clear h
    go_enter Try.func4, Try.ntmps4
    go_wp2_with fail
    refine (tnew_any _).mono ?_
    rintro e W1 ⟨rfl, f1, b1⟩
    have F1 := Hid.intro f1
    have B1 := Hid.intro b1
    clear f1 b1
    go_wp2_with fail
    refine (tplant_any w.heap.size Tr.f0 _ F1.out (by decide)).mono ?_
    rintro e W2 ⟨T, E, G, rfl, hp, h2, f2⟩
    obtain ⟨rfl, rfl, rfl⟩ := Tr.pla_first hp
    have F2 := Hid.intro h2
    have B2 := Hid.intro (f2.below B1.out (Nat.le_refl _) B1.out.size)
    clear hp h2 f2 F1 B1
    rw [errV_zero]
    go_wp2_with fail
    refine (tf_make1 w.heap.size _ F2.out).mono ?_
    rintro e W3 ⟨rfl, h3, f3⟩
    have F3 := Hid.intro h3
    have B3 := Hid.intro (f3.below B2.out (Nat.le_refl _) B2.out.size)
    clear h3 f3 F2 B2
    go_wp2_with fail
    refine (tf_make2 w.heap.size _ F3.out).mono ?_
    rintro e W4 ⟨rfl, h4, f4⟩
    have F4 := Hid.intro h4
    have B4 := Hid.intro (f4.below B3.out (Nat.le_refl _) B3.out.size)
    clear h4 f4 F3 B3
    go_wp2_with (refine Pp.wp_buildS rfl rfl ?_)
    have P5 := Hid.intro (pzero_alloc W4)
    generalize W4.alloc (.cells Pp.zA 55) = W5 at *
    refine (xnew_any w.heap.size W4.heap.size _).mono ?_
    rintro e W6 ⟨rfl, x6, b6⟩
    have S6 : Hid (TS w W6 W5.heap.size w.heap.size W4.heap.size Fi.no Fi.no Fi.no Tk.g3) := Hid.intro (by
      have l4 := F4.out.lt
      have l5 := P5.out.1.lt
      have s4 := B4.out.size
      have s5 := P5.out.2.size
      rw [Fx.tt_nul] at x6
      exact ⟨(B4.out.trans (P5.out.2.mono s4)).trans (b6.mono (by omega)), ⟨x6, (F4.out.below P5.out.2).below b6, P5.out.1.below b6 P5.out.1.lt, by omega, by omega, by omega⟩, by omega, Nat.le_refl _, s4⟩)
    clear F4 B4 P5 x6 b6
    generalize W5.heap.size = t at *
    generalize W4.heap.size = p at *
    obtain ⟨b, hb⟩ : ∃ b, w.heap.size = b := ⟨_, rfl⟩
    rw [hb] at S6
    rw [hb]
    have HB := Hid.intro hb
    clear hb
    go_wp2_with fail
    refine (tf_node1 S6.out).mono ?_
    rintro e W7 ⟨rfl, s7⟩
    have S7 := Hid.intro s7
    clear s7 S6
    go_wp2_with fail
    refine (tf_node2 S7.out).mono ?_
    rintro e W8 ⟨rfl, s8⟩
    have S8 := Hid.intro s8
    clear s8 S7
    go_wp2_with fail
    refine (tf_node3 S8.out).mono ?_
    rintro e W9 ⟨rfl, s9⟩
    have S9 := Hid.intro s9
    clear s9 S8
    go_wp2_with fail
    refine (tf_share S9.out (by decide) (by decide)).mono ?_
    rintro e W10 ⟨rfl, s10⟩
    have S10 := Hid.intro s10
    clear s10 S9
    go_wp2_with fail
    refine (xopen_any t b p _ _ S10.out.2.1.1).mono ?_
    rintro e W11 ⟨rfl, hW⟩
    subst W11
    rw [show Fx.cnt (Fx.tt (Fx.xw 2 0) (Fx.xr 0) (Fx.xo 0)) 24 = 3 from rfl]
    go_wp2_with fail
    go_ret
    rw [← HB.out]
    exact ⟨rfl, S10.out.1⟩
set_option maxRecDepth 100000 in
set_option maxHeartbeats 8000000 in
theorem tf_near (a0 a1 : Option Addr) (b0 o0 n0 c0 b2 o2 n1 c1 : Nat) (f : Nat → ByteArray) (g : Nat → Int) (w : World) (hn : n0 ≤ 40) (hm : n1 ≤ 40) (ha : 0 < n0 → a0 = some ⟨b0, o0, none⟩) (hc : ∀ i, i < n0 → w.cell? ⟨b0, o0 + i, none⟩ = some (.string (f i))) (ha1 : 0 < n1 → a1 = some ⟨b2, o2, none⟩) (hc1 : ∀ i, i < n1 → w.cell? ⟨b2, o2 + i, none⟩ = some (.int .i64 (g i))) :
    Calls Try.prog 4 #[.slice a0 n0 c0, .slice a1 n1 c1] w fun e w' => e = .returned (.bool true) ∧ Below w.heap.size w w' := by
  have gI : ¬ (40 : Int) < (n0 : Int) := by omega
  have gJ : ¬ (40 : Int) < (n1 : Int) := by omega
  have H0 := Hid.intro hc
  have HA := Hid.intro ha
  have H1 := Hid.intro hc1
  have HA1 := Hid.intro ha1
  clear hc ha hc1 ha1
  go_enter Try.func4, Try.ntmps4
  go_wp2_with fail
  refine (tnew_any _).mono ?_
  rintro e W1 ⟨rfl, f1, b1⟩
  have F1 := Hid.intro f1
  have B1 := Hid.intro b1
  clear f1 b1
  go_wp2_with fail
  refine (tplant_any w.heap.size Tr.f0 _ F1.out (by decide)).mono ?_
  rintro e W2 ⟨T, E, G, rfl, hp, h2, f2⟩
  obtain ⟨rfl, rfl, rfl⟩ := Tr.pla_first hp
  have F2 := Hid.intro h2
  have B2 := Hid.intro (f2.below B1.out (Nat.le_refl _) B1.out.size)
  clear hp h2 f2 F1 B1
  rw [errV_zero]
  go_wp2_with fail
  refine (tf_make1 w.heap.size _ F2.out).mono ?_
  rintro e W3 ⟨rfl, h3, f3⟩
  have F3 := Hid.intro h3
  have B3 := Hid.intro (f3.below B2.out (Nat.le_refl _) B2.out.size)
  clear h3 f3 F2 B2
  go_wp2_with fail
  refine (tf_make2 w.heap.size _ F3.out).mono ?_
  rintro e W4 ⟨rfl, h4, f4⟩
  have F4 := Hid.intro h4
  have B4 := Hid.intro (f4.below B3.out (Nat.le_refl _) B3.out.size)
  clear h4 f4 F3 B3
  go_wp2_with (refine Pp.wp_buildS rfl rfl ?_)
  have P5 := Hid.intro (pzero_alloc W4)
  generalize W4.alloc (.cells Pp.zA 55) = W5 at *
  refine (xnew_any w.heap.size W4.heap.size _).mono ?_
  rintro e W6 ⟨rfl, x6, b6⟩
  have S6 : Hid (TS w W6 W5.heap.size w.heap.size W4.heap.size Fi.no Fi.no Fi.no Tk.g3) := Hid.intro (by
    have l4 := F4.out.lt
    have l5 := P5.out.1.lt
    have s4 := B4.out.size
    have s5 := P5.out.2.size
    rw [Fx.tt_nul] at x6
    exact ⟨(B4.out.trans (P5.out.2.mono s4)).trans (b6.mono (by omega)), ⟨x6, (F4.out.below P5.out.2).below b6, P5.out.1.below b6 P5.out.1.lt, by omega, by omega, by omega⟩, by omega, Nat.le_refl _, s4⟩)
  clear F4 B4 P5 x6 b6
  generalize W5.heap.size = t at *
  generalize W4.heap.size = p at *
  obtain ⟨b, hb⟩ : ∃ b, w.heap.size = b := ⟨_, rfl⟩
  rw [hb] at S6
  rw [hb]
  have HB := Hid.intro hb
  clear hb
  go_wp2_with fail
  refine (tf_node1 S6.out).mono ?_
  rintro e W7 ⟨rfl, s7⟩
  have S7 := Hid.intro s7
  clear s7 S6
  go_wp2_with fail
  refine (tf_node2 S7.out).mono ?_
  rintro e W8 ⟨rfl, s8⟩
  have S8 := Hid.intro s8
  clear s8 S7
  go_wp2_with fail
  refine (tf_node3 S8.out).mono ?_
  rintro e W9 ⟨rfl, s9⟩
  have S9 := Hid.intro s9
  clear s9 S8
  go_wp2_with fail
  refine (tf_share S9.out (by decide) (by decide)).mono ?_
  rintro e W10 ⟨rfl, s10⟩
  have S10 := Hid.intro s10
  clear s10 S9
  go_wp2_with fail
  refine (xopen_any t b p _ _ S10.out.2.1.1).mono ?_
  rintro e W11 ⟨rfl, hW⟩
  subst W11
  rw [show Fx.cnt (Fx.tt (Fx.xw 2 0) (Fx.xr 0) (Fx.xo 0)) 24 = 3 from rfl]
  have K0 := Hid.intro Tk.start.1
  have N0 := Hid.intro Tk.start.2
  generalize Tk.g6 = G6 at *
  go_wp2_with fail
  go_loopw [17, 18, 19, 20] (fun al i _ _ wr => ∃ (j : Nat) (A : ByteArray) (F : Fo) (po rw : Nat), i = .int .i64 j ∧ al = .string A ∧ j ≤ n0 ∧ Hid (po ≤ 40) ∧ Hid (Tk F 1 2 A) ∧ Hid (Tk.Nm F) ∧ Hid (rw = if j < 2 then 2 else 1) ∧ Hid (TS w wr t b p (Fx.xw rw A.size) (Fx.xr 0) (Fx.xo po) F)) (fun _ i _ _ _ => n0 - (intOf i).toNat)
  case atStart => exact ⟨0, ⟨#[]⟩, G6, 0, 2, rfl, rfl, by omega, Hid.intro (by omega), K0, N0, Hid.intro rfl, S10⟩
  case round =>
    clear S10 K0 N0
    obtain ⟨j, A, F, po, rw, rfl, rfl, hj, PO, K, N, RW, S⟩ := hrel
    by_cases hlt : j < n0
    · as_aux_lemma =>
        have hltI : (j : Int) < (n0 : Int) := by omega
        have bl : b0 < w.heap.size := World.block_lt_of_cell? _ _ (H0.out j hlt)
        have hae := HA.out (by omega)
        subst hae
        have CL : Hid (∀ W, Below w.heap.size w W → W.cell? ⟨b0, o0 + j, none⟩ = some (.string (f j))) := Hid.intro (fun W hW => (hW.cell (p := ⟨b0, o0 + j, none⟩) bl).trans (H0.out j hlt))
        generalize f j = s at *
        have x0 := CL.out _ S.out.1
        have A40 := K.out.le
        have r0 : rw ≠ 0 := by
          have := RW.out
          by_cases d : j < 2
          · rw [if_pos d] at this; omega
          · rw [if_neg d] at this; omega
        by_cases big : 60 < (s.size : Int)
        · go_wp2_with fail
          go_ret
          rw [← HB.out]
          exact ⟨rfl, S.out.1⟩
        · have s60 : s.size ≤ 60 := by omega
          have lim : ¬ 9223372036854775807 < A.size + s.size := by omega
          have R0 := Hid.intro r0
          have p59 : 60 < 2 ^ 59 := by decide
          have HS : Hid (s.size < 2 ^ 59) := Hid.intro (by omega)
          clear r0 p59 s60 bl
          go_wp2_with fail
          refine (tf_write S.out K.out N.out (by omega) PO.out R0.out s HS.out).mono ?_
          rintro e W5 h5
          rcases h5 with ⟨E, rfl, s5⟩ | ⟨G, rfl, s5, k5, m5⟩
          · have S5 := Hid.intro s5
            have K6 := K
            have N6 := N
            have y0 := CL.out _ S5.out.1
            clear s5 x0 S K N
            by_cases j1 : j = 1
            · have r2 : rw = 2 := by have := RW.out; rw [j1] at this; exact this
              subst r2
              have j1' : ((j : Int) == 1) = true := by simp; omega
              have RN : Hid (1 = if j + 1 < 2 then 2 else 1) := Hid.intro (by rw [if_neg (by omega)])
              clear j1 RW
              go_wp2_with fail
              refine (tf_less S5.out K6.out (by decide)).mono ?_
              rintro e W7 ⟨rfl, s7⟩
              have S6 := Hid.intro s7
              clear s7 S5
              go_wp2_with fail
              refine (tf_other S6.out K6.out N6.out (by omega) PO.out ⟨#[111, 116, 104, 101, 114]⟩ (by decide)).mono ?_
              rintro e W8 ⟨v1, v2, G8, po8, rfl, s8, k8, m8, o8⟩
              have S8 := Hid.intro s8
              clear s8 S6
              go_wp2_with fail
              go_roundw
              case rel => exact ⟨j + 1, A, G8, po8, _, by go_num, rfl, by omega, Hid.intro o8, Hid.intro k8, Hid.intro m8, RN, S8⟩
              case measure => simp [intOf]; omega
            · have j1' : ((j : Int) == 1) = false := by simp; omega
              have RN : Hid (rw = if j + 1 < 2 then 2 else 1) := Hid.intro (by
                have := RW.out
                by_cases d : j < 2
                · rw [if_pos d] at this; rw [if_pos (by omega)]; exact this
                · rw [if_neg d] at this; rw [if_neg (by omega)]; exact this)
              have S6 := S5
              clear j1 RW S5
              go_wp2_with fail
              refine (tf_other S6.out K6.out N6.out (by omega) PO.out ⟨#[111, 116, 104, 101, 114]⟩ (by decide)).mono ?_
              rintro e W8 ⟨v1, v2, G8, po8, rfl, s8, k8, m8, o8⟩
              have S8 := Hid.intro s8
              clear s8 S6
              go_wp2_with fail
              go_roundw
              case rel => exact ⟨j + 1, A, G8, po8, _, by go_num, rfl, by omega, Hid.intro o8, Hid.intro k8, Hid.intro m8, RN, S8⟩
              case measure => simp [intOf]; omega
          · have S5 := Hid.intro s5
            have K6 := Hid.intro k5
            have N6 := Hid.intro m5
            have y0 := CL.out _ S5.out.1
            clear s5 k5 m5 x0 S K N
            obtain ⟨A2, hA2⟩ : ∃ A2, A ++ s = A2 := ⟨_, rfl⟩
            rw [hA2] at S5 K6
            by_cases j1 : j = 1
            · have r2 : rw = 2 := by have := RW.out; rw [j1] at this; exact this
              subst r2
              have j1' : ((j : Int) == 1) = true := by simp; omega
              have RN : Hid (1 = if j + 1 < 2 then 2 else 1) := Hid.intro (by rw [if_neg (by omega)])
              clear j1 RW
              go_wp2_with fail
              refine (tf_less S5.out K6.out (by decide)).mono ?_
              rintro e W7 ⟨rfl, s7⟩
              have S6 := Hid.intro s7
              clear s7 S5
              go_wp2_with fail
              refine (tf_other S6.out K6.out N6.out (by omega) PO.out ⟨#[111, 116, 104, 101, 114]⟩ (by decide)).mono ?_
              rintro e W8 ⟨v1, v2, G8, po8, rfl, s8, k8, m8, o8⟩
              have S8 := Hid.intro s8
              clear s8 S6
              go_wp2_with fail
              go_roundw
              case rel => exact ⟨j + 1, A2, G8, po8, _, by go_num, rfl, by omega, Hid.intro o8, Hid.intro k8, Hid.intro m8, RN, S8⟩
              case measure => simp [intOf]; omega
            · have j1' : ((j : Int) == 1) = false := by simp; omega
              have RN : Hid (rw = if j + 1 < 2 then 2 else 1) := Hid.intro (by
                have := RW.out
                by_cases d : j < 2
                · rw [if_pos d] at this; rw [if_pos (by omega)]; exact this
                · rw [if_neg d] at this; rw [if_neg (by omega)]; exact this)
              have S6 := S5
              clear j1 RW S5
              go_wp2_with fail
              refine (tf_other S6.out K6.out N6.out (by omega) PO.out ⟨#[111, 116, 104, 101, 114]⟩ (by decide)).mono ?_
              rintro e W8 ⟨v1, v2, G8, po8, rfl, s8, k8, m8, o8⟩
              have S8 := Hid.intro s8
              clear s8 S6
              go_wp2_with fail
              go_roundw
              case rel => exact ⟨j + 1, A2, G8, po8, _, by go_num, rfl, by omega, Hid.intro o8, Hid.intro k8, Hid.intro m8, RN, S8⟩
              case measure => simp [intOf]; omega
    · have hltI : ¬ (j : Int) < (n0 : Int) := by omega
      obtain rfl : j = n0 := by omega
      have RWH : Hid (rw ≤ 3 ∧ (j < 2 → rw = 2) ∧ (¬ j < 2 → rw = 1)) := Hid.intro (by
        have := RW.out
        by_cases d : j < 2
        · rw [if_pos d] at this; exact ⟨by omega, fun _ => this, fun e => absurd d e⟩
        · rw [if_neg d] at this; exact ⟨by omega, fun e => absurd e d, fun _ => this⟩)
      clear RW
      go_wp2_with fail
      refine (tremove_any b 0 ⟨#[97]⟩ F _ S.out.2.1.2.1 K.out.ok.sz K.out.ok.kid).mono ?_
      rintro e W5 ⟨E5, G5, rfl, m5, u5, f5⟩
      obtain ⟨rfl, k5⟩ := K.out.rem N.out m5
      have S5 : Hid (TS w W5 t b p (Fx.xw rw A.size) (Fx.xr 0) (Fx.xo po) G5) := Hid.intro (S.out.step (S.out.2.1.fo u5 f5) (Tri.fo f5))
      have K5 := Hid.intro k5
      clear k5 m5 u5 f5 S K N
      rw [errV_zero]
      have A40 := K5.out.le
      go_wp2_with fail
      go_loopw [21, 22, 23, 24] (fun gt i _ _ wr => ∃ (q : Nat) (pr : Nat) (GT : ByteArray), i = .int .i64 q ∧ gt = .string GT ∧ q ≤ n1 ∧ Hid (GT = A.extract 0 pr) ∧ Hid (pr ≤ A.size) ∧ Hid (TS w wr t b p (Fx.xw rw A.size) (Fx.xr pr) (Fx.xo po) G5)) (fun _ i _ _ _ => n1 - (intOf i).toNat)
      case atStart => exact ⟨0, 0, ⟨#[]⟩, rfl, rfl, by omega, Hid.intro (by rw [ByteArray.extract_same]; rfl), Hid.intro (by omega), S5⟩
      case round =>
        clear S5
        obtain ⟨q, pr, GT, rfl, rfl, hq, HG, PR, S⟩ := hrel
        have gs : GT.size ≤ 40 := by rw [HG.out, ByteArray.size_extract]; omega
        by_cases hlt : q < n1
        · as_aux_lemma =>
            have hltI : (q : Int) < (n1 : Int) := by omega
            have bl : b2 < w.heap.size := World.block_lt_of_cell? _ _ (H1.out q hlt)
            have hae := HA1.out (by omega)
            subst hae
            have CL : Hid (∀ W, Below w.heap.size w W → W.cell? ⟨b2, o2 + q, none⟩ = some (.int .i64 (g q))) := Hid.intro (fun W hW => (hW.cell (p := ⟨b2, o2 + q, none⟩) bl).trans (H1.out q hlt))
            generalize g q = m at *
            have x0 := CL.out _ S.out.1
            go_wp2_with fail
            refine (tf_read S.out K5.out PR.out PO.out m).mono ?_
            rintro e W6 h6
            rcases h6 with ⟨m0, rfl, s6⟩ | ⟨m0, d, hd, rfl, s6⟩
            · have S6 := Hid.intro s6
              have y0 := CL.out _ S6.out.1
              have lim : ¬ 9223372036854775807 < GT.size := by omega
              have oe : GT ++ ⟨#[]⟩ = GT := ByteArray.append_empty
              clear s6 S x0
              go_wp2_with fail
              go_roundw
              case rel => exact ⟨q + 1, pr, GT, by go_num, rfl, by omega, HG, PR, S6⟩
              case measure => simp [intOf]; omega
            · have S6 := Hid.intro s6
              have y0 := CL.out _ S6.out.1
              have pA := PR.out
              have zs : (A.extract pr (pr + d)).size = d := by rw [ByteArray.size_extract]; omega
              have HG2 : Hid (GT ++ A.extract pr (pr + d) = A.extract 0 (pr + d)) := Hid.intro (by rw [HG.out]; exact Tk.ext_next)
              have PR2 : Hid (pr + d ≤ A.size) := Hid.intro (by omega)
              have lim : ¬ 9223372036854775807 < GT.size + d := by omega
              have dm : ¬ m < (d : Int) := by omega
              have E1 := Hid.intro (Pp.toL0 (t := A.extract pr (pr + d)))
              have E2 := Hid.intro (Tk.toL_yes (s := A.extract pr (pr + d)))
              have GA : Hid (d = 0 → 0 < m → GT = A) := Hid.intro (fun d0 mp => by
                have : pr = A.size := by omega
                rw [HG.out, this, ByteArray.extract_zero_size])
              clear s6 S x0 pA hd
              generalize A.extract pr (pr + d) = sv at *
              by_cases d0 : d = 0
              · have e1 := E1.out (by omega)
                by_cases mp : 0 < m
                · have gl : GT.toList = A.toList := congrArg ByteArray.toList (GA.out d0 mp)
                  have gl2 : (GT.toList == A.toList) = true := by rw [gl]; exact beq_self_eq_true _
                  clear GA d0 E1 E2
                  go_wp2_with fail
                  go_roundw
                  case rel => exact ⟨q + 1, pr + d, _, by go_num, rfl, by omega, HG2, PR2, S6⟩
                  case measure => simp [intOf]; omega
                · clear GA d0 E1 E2
                  go_wp2_with fail
                  go_roundw
                  case rel => exact ⟨q + 1, pr + d, _, by go_num, rfl, by omega, HG2, PR2, S6⟩
                  case measure => simp [intOf]; omega
              · have e1 := E2.out (by omega)
                clear GA d0 E1 E2
                go_wp2_with fail
                go_roundw
                case rel => exact ⟨q + 1, pr + d, _, by go_num, rfl, by omega, HG2, PR2, S6⟩
                case measure => simp [intOf]; omega
        · as_aux_lemma =>
            have hltI : ¬ (q : Int) < (n1 : Int) := by omega
            obtain rfl : q = n1 := by omega
            go_wp2_with fail
            refine (tf_read S.out K5.out PR.out PO.out 99).mono ?_
            rintro e W6 h6
            rcases h6 with ⟨m0, _, _⟩ | ⟨m0, d, hd, rfl, s6⟩
            · exact absurd m0 (by decide)
            · have S6 := Hid.intro s6
              have pA := PR.out
              have d1 : pr + d = A.size := by
                have e99 : (99 : Int).toNat = 99 := rfl
                omega
              have ga : GT ++ A.extract pr (pr + d) = A := by rw [HG.out, Tk.ext_next, d1, ByteArray.extract_zero_size]
              have zs : (A.extract pr (pr + d)).size = d := by rw [ByteArray.size_extract]; omega
              have lim : ¬ 9223372036854775807 < GT.size + d := by omega
              have a40 : ¬ 40 < (A.size : Int) := by omega
              clear s6 S hd m0 pA d1
              generalize A.extract pr (pr + d) = sv at *
              have CE := Hid.intro K5.out.cnt_end
              have CL := Hid.intro (Tr.cntN_le G5 40)
              have K6 := Hid.intro K5.out.letT.1
              go_wp2_with fail
              refine (tnodes_any b G5 _ S6.out.2.1.2.1).mono ?_
              rintro e W7 ⟨rfl, hW⟩
              subst W7
              go_wp2_with fail
              refine (tf_close1 S6.out K5.out RWH.out.1).mono ?_
              rintro e W7 ⟨rfl, s7⟩
              have S7 := Hid.intro s7
              clear s7 S6
              by_cases j2 : j < 2
              · have j2' : (j : Int) < 2 := by omega
                obtain rfl := RWH.out.2.1 j2
                go_wp2_with fail
                refine (tf_less S7.out K6.out (by decide)).mono ?_
                rintro e W8 ⟨rfl, s8⟩
                have S8 := Hid.intro s8
                clear s8 S7
                go_wp2_with fail
                refine (tf_close0 S8.out K6.out (by decide)).mono ?_
                rintro e W9 ⟨rfl, s9⟩
                have S9 := Hid.intro s9
                clear s9 S8
                go_wp2_with fail
                refine (tnodes_any b _ _ S9.out.2.1.2.1).mono ?_
                rintro e W10 ⟨rfl, hW⟩
                subst W10
                have ce := CE.out
                have cl := CL.out
                generalize Tr.cntN (Tr.letT (Tr.letT G5 1) 1) 40 = cA at *
                generalize Tr.cntN G5 40 = cB at *
                have hw : IntKind.i64.wrap ((cB : Int) - 1) = (cA : Int) := (IntWalk.i64_in _ ⟨by omega, by omega⟩).trans (by omega)
                clear ce cl CE CL
                go_wp2_with fail
                refine (xopen_any t b p _ _ S9.out.2.1.1).mono ?_
                rintro e W11 ⟨rfl, hW⟩
                subst W11
                rw [show Fx.cnt (Fx.tt Fi.no Fi.no (Fx.xo po)) 24 = 1 from rfl]
                go_wp2_with fail
                go_ret
                rw [← HB.out]
                exact ⟨rfl, S9.out.1⟩
              · have j2' : ¬ (j : Int) < 2 := by omega
                obtain rfl := RWH.out.2.2 j2
                go_wp2_with fail
                refine (tf_close0 S7.out K6.out (by decide)).mono ?_
                rintro e W9 ⟨rfl, s9⟩
                have S9 := Hid.intro s9
                clear s9 S7
                go_wp2_with fail
                refine (tnodes_any b _ _ S9.out.2.1.2.1).mono ?_
                rintro e W10 ⟨rfl, hW⟩
                subst W10
                have ce := CE.out
                have cl := CL.out
                generalize Tr.cntN (Tr.letT (Tr.letT G5 1) 1) 40 = cA at *
                generalize Tr.cntN G5 40 = cB at *
                have hw : IntKind.i64.wrap ((cB : Int) - 1) = (cA : Int) := (IntWalk.i64_in _ ⟨by omega, by omega⟩).trans (by omega)
                clear ce cl CE CL
                go_wp2_with fail
                refine (xopen_any t b p _ _ S9.out.2.1.1).mono ?_
                rintro e W11 ⟨rfl, hW⟩
                subst W11
                rw [show Fx.cnt (Fx.tt Fi.no Fi.no (Fx.xo po)) 24 = 1 from rfl]
                go_wp2_with fail
                go_ret
                rw [← HB.out]
                exact ⟨rfl, S9.out.1⟩
theorem tf_any (a0 a1 : Option Addr) (n0 c0 n1 c1 : Nat) (w : World) (h : IsStrs w a0 n0) (h' : IsInts w a1 n1) :
    Calls Try.prog 4 #[.slice a0 n0 c0, .slice a1 n1 c1] w fun e w' => e = .returned (.bool true) ∧ Below w.heap.size w w' := by
  by_cases hn : 40 < n0 ∨ 40 < n1
  · exact tf_far a0 a1 n0 c0 n1 c1 w hn
  · have e0 : ∃ (b0 o0 : Nat) (f : Nat → ByteArray), (0 < n0 → a0 = some ⟨b0, o0, none⟩) ∧ ∀ i, i < n0 → w.cell? ⟨b0, o0 + i, none⟩ = some (.string (f i)) := by
      by_cases h0 : 0 < n0
      · obtain ⟨b0, o0, f, ha, hc⟩ := h.2 h0
        exact ⟨b0, o0, f, fun _ => ha, hc⟩
      · exact ⟨0, 0, fun _ => ⟨#[]⟩, fun d => absurd d h0, fun i hi => absurd hi (by omega)⟩
    have e1 : ∃ (b0 o0 : Nat) (f : Nat → Int), (0 < n1 → a1 = some ⟨b0, o0, none⟩) ∧ ∀ i, i < n1 → w.cell? ⟨b0, o0 + i, none⟩ = some (.int .i64 (f i)) := by
      by_cases h0 : 0 < n1
      · obtain ⟨b0, o0, f, ha, hc⟩ := h'.2 h0
        exact ⟨b0, o0, f, fun _ => ha, hc⟩
      · exact ⟨0, 0, fun _ => 0, fun d => absurd d h0, fun i hi => absurd hi (by omega)⟩
    obtain ⟨b0, o0, f, q1, q2⟩ := e0
    obtain ⟨b2, o2, g, q3, q4⟩ := e1
    exact tf_near a0 a1 b0 o0 n0 c0 b2 o2 n1 c1 f g w (by omega) (by omega) q1 q2 q3 q4
end Go.Proofs.Ytdmlciimiifahaa

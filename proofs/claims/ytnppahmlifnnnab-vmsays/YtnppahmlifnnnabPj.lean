/- The law VmSays. -/
import Derived.Test.YtnppahmlifnnnabPi
import Derived.Test.YtnppahmlifnnnabBb
import Derived.Deep.CutRange
import Derived.Deep.CutBlock
import Derived.Deep.DeepCutAuto
namespace Go.Proofs.Ytnppahmlifnnnab
open Go.RowKit
open Bd (P)
open Mv (Me Bk)

theorem VS.drew {w W : World} {r q gm cm r2 q2 gn cn N : Nat} {bs cs : Nat → Nat} {me : Nat → Me} {ow : Nat → Nat → Bool} {k : Bk} (h : VS w W r q gm cm r2 q2 gn cn N bs cs me ow k) : VS w W.drew r q gm cm r2 q2 gn cn N bs cs me ow k := h.below ⟨rfl, rfl, rfl, Nat.le_refl _, fun _ _ => rfl⟩
theorem infoPtrC : ∃ i, Try.prog.info? 29 = some i ∧ i.zero = some (.pointer none) ∧ i.size = 1 ∧ i.bytes = 8 := by
  have h : (Try.prog.info? 29).map (fun i => (i.zero, i.size, i.bytes)) = some (some (.pointer none), 1, 8) := by kernel_rfl
  cases hi : Try.prog.info? 29 with
  | none => rw [hi] at h; cases h
  | some i =>
    rw [hi] at h
    simp only [Option.map_some, Option.some.injEq, Prod.mk.injEq] at h
    exact ⟨i, rfl, h⟩
theorem infoPtrR : ∃ i, Try.prog.info? 32 = some i ∧ i.zero = some (.pointer none) ∧ i.size = 1 ∧ i.bytes = 8 := by
  have h : (Try.prog.info? 32).map (fun i => (i.zero, i.size, i.bytes)) = some (some (.pointer none), 1, 8) := by kernel_rfl
  cases hi : Try.prog.info? 32 with
  | none => rw [hi] at h; cases h
  | some i =>
    rw [hi] at h
    simp only [Option.map_some, Option.some.injEq, Prod.mk.injEq] at h
    exact ⟨i, rfl, h⟩
set_option maxRecDepth 100000 in
set_option maxHeartbeats 400000 in
theorem vs_far (a0 : Option Addr) (n0 c0 : Nat) (w : World) (h : 120 < n0) :
    Calls Try.prog 3 #[.slice a0 n0 c0] w fun e w' => e = .returned (.bool true) ∧ Below w.heap.size w w' := by
  have d : decide ((n0 : Int) ≤ 120) = false := by simp; omega
  go_enter Try.func3, Try.ntmps3
  go_wp2_with fail
  refine (pages_any _).mono ?_
  rintro e W1 ⟨rfl, b1⟩
  have H1 := Hid.intro b1
  clear b1
  go_wp2_with fail
  refine (light_any _ _ _ _ _).mono ?_
  rintro e W3 ⟨rfl, hW⟩
  subst W3
  rw [d]
  go_wp2_with fail
  go_ret
  exact ⟨rfl, H1.out⟩
set_option maxRecDepth 100000 in
set_option maxHeartbeats 8000000 in
theorem vs_near (a0 : Option Addr) (n0 c0 : Nat) (w : World) (h0 : IsActs0 w a0 n0) (hn : n0 ≤ 120) :
    Calls Try.prog 3 #[.slice a0 n0 c0] w fun e w' => e = .returned (.bool true) ∧ Below w.heap.size w w' := by
  have d : decide ((n0 : Int) ≤ 120) = true := by simp; omega
  have H0 := Hid.intro h0
  clear h0
  go_enter Try.func3, Try.ntmps3
  go_wp2_with fail
  refine (pages_any _).mono ?_
  rintro e W1 ⟨rfl, b1⟩
  have H1 := Hid.intro b1
  clear b1
  go_wp2_with fail
  refine (light_any _ _ _ _ _).mono ?_
  rintro e W3 ⟨rfl, hW⟩
  subst W3
  rw [d]
  clear d
  go_wp2_with fail
  refine (vnewBank_any _).mono ?_
  rintro e W2 ⟨r, rfl, f2, b2, l2⟩
  have H2 : Hid (VAt W2 r W1.heap.size Mv.bk0 ∧ Below w.heap.size w W2 ∧ W1.heap.size < r ∧ w.heap.size ≤ W1.heap.size) := Hid.intro ⟨f2, H1.out.trans (b2.mono H1.out.size), l2, H1.out.size⟩
  clear f2 b2 l2
  generalize W1.heap.size = q at *
  go_wp2_with fail
  refine (newBank_any _).mono ?_
  rintro e W3 ⟨r2, rfl, f3, b3, l3⟩
  have H3 : Hid (VAt W3 r q Mv.bk0 ∧ NAt W3 r2 W2.heap.size Mv.bk0 ∧ Below w.heap.size w W3 ∧ w.heap.size ≤ q ∧ q < r ∧ w.heap.size ≤ W2.heap.size ∧ W2.heap.size < r2) := Hid.intro ⟨H2.out.1.below b3, f3, H2.out.2.1.trans (b3.mono H2.out.2.1.size), H2.out.2.2.2, H2.out.2.2.1, H2.out.2.1.size, l3⟩
  clear f3 b3 l3 H2 H1
  generalize W2.heap.size = q2 at *
  go_wp2_with fail
  refine (vnew_any r _).mono ?_
  rintro e W4 ⟨rfl, u4, b4⟩
  have H4 : Hid (CS w (W4.alloc (.cells #[.pointer (some ⟨W3.heap.size, 0, none⟩)] 29)) r q W4.heap.size 1 1 (fun _ => W3.heap.size) (fun _ => Mv.me0) Mv.bk0 ∧ NAt (W4.alloc (.cells #[.pointer (some ⟨W3.heap.size, 0, none⟩)] 29)) r2 q2 Mv.bk0 ∧ w.heap.size ≤ q2 ∧ q2 < r2) := Hid.intro (by
    have h := H3.out
    have lr := h.1.lt
    have lq := h.1.ltq
    have bb : Below W4.heap.size W4 (W4.alloc (.cells #[.pointer (some ⟨W3.heap.size, 0, none⟩)] 29)) := (Below.refl _ _).alloc (Nat.le_refl _) _
    exact ⟨CS.start (h.1.below b4) u4 (h.2.2.1.trans (b4.mono h.2.2.1.size)) (by omega) (by omega) h.2.2.1.size (by omega) (by omega), (h.2.1.below b4).below bb, h.2.2.2.2.2.1, h.2.2.2.2.2.2⟩)
  clear u4 b4 H3
  go_upto_region 7 with fail
  refine wp_gen (fun W => CS w W r q W4.heap.size 1 1 (fun _ => W3.heap.size) (fun _ => Mv.me0) Mv.bk0 ∧ NAt W r2 q2 Mv.bk0 ∧ w.heap.size ≤ q2 ∧ q2 < r2) H4.out ?_
  intro W5 h5
  have S5 := Hid.intro h5
  clear h5 H4
  generalize W4.heap.size = gm0 at *
  generalize W3.heap.size = bm0 at *
  obtain ⟨A0, hA0⟩ : ∃ A, memM r2 Mv.me0 noOwn = A := ⟨_, rfl⟩
  have S6 : Hid (VS w ((W5.alloc (.cells A0 36)).alloc (.cells #[.pointer (some ⟨W5.heap.size, 0, none⟩)] 32)) r q gm0 1 r2 q2 (W5.heap.size + 1) 1 1 (fun _ => bm0) (fun _ => W5.heap.size) (fun _ => Mv.me0) (fun _ => noOwn) Mv.bk0) := Hid.intro (by
    have s := S5.out
    have lr := s.2.1.lt
    have lq := s.2.1.ltq
    have b1 : Below W5.heap.size W5 (W5.alloc (.cells A0 36)) := (Below.refl _ _).alloc (Nat.le_refl _) _
    have b2 : Below (W5.alloc (.cells A0 36)).heap.size (W5.alloc (.cells A0 36)) ((W5.alloc (.cells A0 36)).alloc (.cells #[.pointer (some ⟨W5.heap.size, 0, none⟩)] 32)) := (Below.refl _ _).alloc (Nat.le_refl _) _
    have hb := heap_alloc_new W5 (.cells A0 36)
    rw [← hA0] at hb
    have rs := RS.start (w := w) (s.2.1.below b1) (by rw [← hA0]; exact m_new hb) (s.1.bel.trans (b1.mono s.1.bel.size)) (by omega) s.2.2.1 s.1.bel.size (by omega) (by omega)
    rw [show (W5.alloc (.cells A0 36)).heap.size = W5.heap.size + 1 by simp] at rs
    exact ⟨(s.1.below b1).below b2, rs, Mv.vi0⟩)
  go_upto_region 8 with (first | (refine wpList_build_m1 rfl _ r2 rfl rfl ?_; rw [hA0]) | (refine wpList_box_m rfl _ A0 rfl rfl ?_))
  refine wp_gen (fun W => VS w W r q gm0 1 r2 q2 (W5.heap.size + 1) 1 1 (fun _ => bm0) (fun _ => W5.heap.size) (fun _ => Mv.me0) (fun _ => noOwn) Mv.bk0) S6.out ?_
  intro W6 h6
  have S7 := Hid.intro h6
  clear h6 S6 S5 hA0
  generalize W5.heap.size = b5 at *
  go_wp2_with fail
  go_loopw [6, 7, 8] (fun ms ws i wr => ∃ (j N gm cm gn cn : Nat) (bs cs : Nat → Nat) (me : Nat → Me) (ow : Nat → Nat → Bool) (k : Bk), ms = .slice (some ⟨gm, 0, none⟩) N cm ∧ ws = .slice (some ⟨gn, 0, none⟩) N cn ∧ i = .int .i64 j ∧ j ≤ n0 ∧ 0 < N ∧ Hid (VS w wr r q gm cm r2 q2 gn cn N bs cs me ow k)) (fun _ _ i _ => n0 - (intOf i).toNat)
  case atStart => exact ⟨0, 1, _, _, _, _, _, _, _, _, _, rfl, rfl, rfl, by omega, by omega, S7⟩
  case round =>
    clear S7
    obtain ⟨j, N, gm, cm, gn, cn, bs, cs, me, ow, k, rfl, rfl, rfl, hj, N1, S⟩ := hrel
    have N8 := S.out.2.2.wld.n8
    by_cases hlt : j < n0
    · have hltI : (j : Int) < (n0 : Int) := by omega
      obtain ⟨b0, o0, ax, ha, hc⟩ := H0.out.2 (by omega)
      subst ha
      obtain ⟨kd, A, B, C, K, On, S1, T1, hax⟩ : ∃ kd A B C K On S1 T1, ax j = ⟨kd, A, B, C, K, On, S1, T1⟩ := ⟨_, _, _, _, _, _, _, _, rfl⟩
      have CL : Hid (∀ W, Below w.heap.size w W → W.cell? ⟨b0, o0 + j * 8, none⟩ = some (.string kd) ∧ W.cell? ⟨b0, o0 + j * 8 + 1, none⟩ = some (.int .i64 A) ∧ W.cell? ⟨b0, o0 + j * 8 + 2, none⟩ = some (.int .i64 B) ∧ W.cell? ⟨b0, o0 + j * 8 + 3, none⟩ = some (.int .i64 C) ∧ W.cell? ⟨b0, o0 + j * 8 + 4, none⟩ = some (.int .u64 K) ∧ W.cell? ⟨b0, o0 + j * 8 + 5, none⟩ = some (.bool On) ∧ W.cell? ⟨b0, o0 + j * 8 + 6, none⟩ = some (.string S1) ∧ W.cell? ⟨b0, o0 + j * 8 + 7, none⟩ = some (.string T1)) := Hid.intro (fun W bel => by
        have bl : b0 < w.heap.size := World.block_lt_of_cell? _ _ (hc j hlt 0 (by omega))
        have cl : ∀ i, i < 8 → W.cell? ⟨b0, o0 + j * 8 + i, none⟩ = some ((⟨kd, A, B, C, K, On, S1, T1⟩ : Act8).cell i) := fun i hi => by
          rw [← hax]; exact (bel.cell (p := ⟨b0, o0 + j * 8 + i, none⟩) bl).trans (hc j hlt i hi)
        exact ⟨cl 0 (by omega), cl 1 (by omega), cl 2 (by omega), cl 3 (by omega), cl 4 (by omega), cl 5 (by omega), cl 6 (by omega), cl 7 (by omega)⟩)
      have c0' := (CL.out wr S.out.1.bel).1
      have c4 := (CL.out wr S.out.1.bel).2.2.2.2.1
      clear hax hc
      obtain ⟨i, hi⟩ : ∃ i, K % N = i := ⟨_, rfl⟩
      have hiN : i < N := by rw [← hi]; exact Nat.mod_lt _ N1
      have hkw : wrap64 ((K : Int) % (N : Int)) = (i : Int) := by
        rw [show ((K : Int) % (N : Int)) = (i : Int) by rw [← hi, Int.natCast_emod]]
        unfold wrap64; omega
      have hiI : (i : Int) < (N : Int) := by omega
      clear hi
      go_upto_region 12 with fail
      rw [hkw]
      clear hkw c4
      by_cases k1 : (kd.toList == [102, 111, 114, 107]) = true
      · as_aux_lemma =>
        by_cases n8 : N < 8
        · have n8I : (N : Int) < 8 := by omega
          obtain ⟨i0, hi0, hz0, hz1, hz2⟩ := infoPtrC
          obtain ⟨i1, hi1, hy0, hy1, hy2⟩ := infoPtrR
          have p0 := S.out.1.cell i hiN
          go_wp2_with fail
          refine (vfork_any (bs i) r q (me i) k _ (S.out.1.ub hiN) (S.out.2.2.wld.le i hiN) (fun g hg => by have := S.out.2.2.wld.refl g hg; omega)).mono ?_
          rintro e w4 ⟨rfl, u4, ub4, F4⟩
          have Y4 : Hid (CS w w4 r q gm cm N bs me (Mv.foK (me i) k 16) ∧ RS w w4 r2 q2 gn cn N cs me ow k) := Hid.intro (by
            have t : Thr (bs i) r q wr w4 := ⟨F4.os, F4.tape, F4.output, F4.size, fun j hj _ h2 _ => F4.block j hj h2⟩
            have kp := S.out.1.kept hiN t
            exact ⟨S.out.1.forked hiN ub4 F4, S.out.2.1.keep kp.1 kp.2⟩)
          have N4 : Hid (UAt w4 wr.heap.size r (me i) ∧ (∀ j, j < N → bs j ≠ wr.heap.size) ∧ w.heap.size ≤ wr.heap.size) := Hid.intro ⟨u4, fun j hj => by have := (S.out.1.all.mem j hj).1.lt; omega, S.out.1.bel.size⟩
          have VI6 := Hid.intro (S.out.2.2.fork hiN n8)
          have WG := Hid.intro (And.intro (S.out.2.2.wld.le i hiN) (fun g (hg : g < 64) => show k.refs g < 2 ^ 58 by have := S.out.2.2.wld.refl g hg; omega))
          clear u4 ub4 F4 c0' p0 S
          generalize wr.heap.size = nb at *
          go_upto_region 18 with (at_builtin; refine wpList_append_lies _ rfl _ _ 31 (by rfl) w.heap.size 29 i0 (.pointer none) 1 8 Try.underlying31 hi0 hz0 hz1 hz2 rfl (by decide) (.slice (some ⟨gm, 0, none⟩) N cm) N (ptrs bs N) (by rfl) (Y4.out.1.own.alloc _) ⟨w4.heap.size, 0, none⟩ 1 1 [.pointer (some ⟨nb, 0, none⟩)] (by rfl) rfl (cell_one_new _ _ _) (by simp [Value.oneCell']) (by decide) (by unfold maxLen; omega) (by omega) (by have := Y4.out.1.bel.size; simp; omega) (w4.heap.size + 1) (by simp) ?_; intro gg cap2 w5 hown hgrow hat hlt2; have Y5 : Hid (CS w w5 r q gg cap2 (N + 1) (addB bs N nb) (Mv.setP me N (me i)) (Mv.foK (me i) k 16) ∧ RS w w5 r2 q2 gn cn N cs me ow k) := Hid.intro (by have mo := Y4.out.1.more N4.out.1 N4.out.2.1 N4.out.2.2 _ hown hgrow; exact ⟨mo.1, Y4.out.2.keep mo.2 mo.1.bel⟩); clear hown hgrow hat hlt2)
          have p1 := Y5.out.2.cell i hiN
          clear N4 Y4
          go_wp2_with fail
          refine (fork_any (cs i) r2 q2 (me i) (ow i) k _ (Y5.out.2.mb hiN) WG.out.1 WG.out.2).mono ?_
          rintro e w6 ⟨rfl, h6⟩
          have Y6 : Hid (CS w w6 r q gg cap2 (N + 1) (addB bs N nb) (Mv.setP me N (me i)) (Mv.foK (me i) k 16) ∧ RS w w6 r2 q2 gn cn N cs me (Mv.setO ow i noOwn) (Mv.foK (me i) k 16)) := Hid.intro (by
            have t : Thr (cs i) r2 q2 w5 w6 := ⟨h6.2.2.os, h6.2.2.tape, h6.2.2.output, h6.2.2.size, fun j hj h1 h2 _ => h6.2.2.block j hj h1 h2⟩
            have kp := Y5.out.2.kept hiN t
            exact ⟨Y5.out.1.keep kp.1 kp.2 h6.2.2.size, Y5.out.2.forked hiN h6.2.1 h6.2.2⟩)
          have N6 : Hid (MAt w6 w5.heap.size r2 (me i) noOwn ∧ (∀ j, j < N → cs j ≠ w5.heap.size) ∧ w.heap.size ≤ w5.heap.size) := Hid.intro ⟨h6.1, fun j hj => by have := (Y5.out.2.mem j hj).1.lt; omega, Y5.out.1.bel.size⟩
          clear h6 p1 Y5 WG
          generalize w5.heap.size = nc at *
          go_wp2_with (at_builtin; refine wpList_append_lies _ rfl _ _ 37 (by rfl) w.heap.size 32 i1 (.pointer none) 1 8 Try.underlying37 hi1 hy0 hy1 hy2 rfl (by decide) (.slice (some ⟨gn, 0, none⟩) N cn) N (ptrs cs N) (by rfl) (Y6.out.2.own.alloc _) ⟨w6.heap.size, 0, none⟩ 1 1 [.pointer (some ⟨nc, 0, none⟩)] (by rfl) rfl (cell_one_new _ _ _) (by simp [Value.oneCell']) (by decide) (by unfold maxLen; omega) (by omega) (by have := Y6.out.1.bel.size; simp; omega) (w6.heap.size + 1) (by simp) ?_; intro gg2 cap3 w7 hown hgrow hat hlt2; have Y7 : Hid (VS w w7 r q gg cap2 r2 q2 gg2 cap3 (N + 1) (addB bs N nb) (addB cs N nc) (Mv.setP me N (me i)) (Mv.setO (Mv.setO ow i noOwn) N noOwn) (Mv.foK (me i) k 16)) := Hid.intro (by have mo := Y6.out.2.more N6.out.1 N6.out.2.1 N6.out.2.2 _ hown hgrow; exact ⟨Y6.out.1.keep mo.2 mo.1.bel (grown_blk hgrow).1, mo.1, VI6.out⟩); clear hown hgrow hat hlt2)
          go_roundw
          case rel => first | exact ⟨j + 1, N + 1, _, _, _, _, _, _, _, _, _, rfl, rfl, by go_num, by omega, by omega, Y7⟩ | ((repeat apply Exists.intro); exact ⟨⟨rfl, rfl, by go_num, by omega, by omega, Y7⟩, rfl⟩)
          case measure => simp [intOf]; omega
        · have n8I : ¬ (N : Int) < 8 := by omega
          go_wp2_with fail
          go_roundw
          case rel => first | exact ⟨j + 1, N, _, _, _, _, _, _, _, _, _, rfl, rfl, by go_num, by omega, N1, S⟩ | ((repeat apply Exists.intro); exact ⟨⟨rfl, rfl, by go_num, by omega, N1, S⟩, rfl⟩)
          case measure => simp [intOf]; omega
      · have k1' : (kd.toList == [102, 111, 114, 107]) = false := by simpa using k1
        clear k1
        as_aux_lemma =>
        have KK : Hid (∀ W' me' ow' k', VS w W' r q gm cm r2 q2 gn cn N bs cs me' ow' k' → W'.cell? ⟨gm, i, none⟩ = some (.pointer (some ⟨bs i, 0, none⟩)) ∧ W'.cell? ⟨gn, i, none⟩ = some (.pointer (some ⟨cs i, 0, none⟩)) ∧ W'.cell? ⟨b0, o0 + j * 8, none⟩ = some (.string kd) ∧ W'.cell? ⟨b0, o0 + j * 8 + 1, none⟩ = some (.int .i64 A) ∧ W'.cell? ⟨b0, o0 + j * 8 + 2, none⟩ = some (.int .i64 B) ∧ W'.cell? ⟨b0, o0 + j * 8 + 3, none⟩ = some (.int .i64 C) ∧ W'.cell? ⟨b0, o0 + j * 8 + 4, none⟩ = some (.int .u64 K) ∧ W'.cell? ⟨b0, o0 + j * 8 + 5, none⟩ = some (.bool On) ∧ W'.cell? ⟨b0, o0 + j * 8 + 6, none⟩ = some (.string S1) ∧ W'.cell? ⟨b0, o0 + j * 8 + 7, none⟩ = some (.string T1)) := Hid.intro (fun W' me' ow' k' v => ⟨v.1.cell i hiN, v.2.1.cell i hiN, CL.out W' v.1.bel⟩)
        have K0 := Hid.intro (KK.out wr me ow k S.out)
        go_upto_region 19 with fail
        clear c0'
        go_region_held3 (fun w' => w'.cell? ⟨gm, i, none⟩ = some (.pointer (some ⟨bs i, 0, none⟩)) ∧ w'.cell? ⟨gn, i, none⟩ = some (.pointer (some ⟨cs i, 0, none⟩)) ∧ w'.cell? ⟨b0, o0 + j * 8, none⟩ = some (.string kd) ∧ w'.cell? ⟨b0, o0 + j * 8 + 1, none⟩ = some (.int .i64 A) ∧ w'.cell? ⟨b0, o0 + j * 8 + 2, none⟩ = some (.int .i64 B) ∧ w'.cell? ⟨b0, o0 + j * 8 + 3, none⟩ = some (.int .i64 C) ∧ w'.cell? ⟨b0, o0 + j * 8 + 4, none⟩ = some (.int .u64 K) ∧ w'.cell? ⟨b0, o0 + j * 8 + 5, none⟩ = some (.bool On) ∧ w'.cell? ⟨b0, o0 + j * 8 + 6, none⟩ = some (.string S1) ∧ w'.cell? ⟨b0, o0 + j * 8 + 7, none⟩ = some (.string T1)) (first | exact K0.out | exact K4.out) ((go_at_call 16; refine (memory_any w _ r q gm cm r2 q2 gn cn N i bs cs me ow k kd A B C K On S1 T1 S.out.drew hiN).mono ?_; rintro e w4 ⟨rfl, me', ow', k', v4⟩; have V4 := Hid.intro v4; have K4 := Hid.intro (KK.out w4 me' ow' k' v4); clear v4))
        clear K0 K4 S
        have K5 : Hid (w4.cell? ⟨r2, 0, none⟩ = some (.pointer (some ⟨q2, 0, none⟩))) := Hid.intro V4.out.2.1.bk.cP
        go_wp2_with fail
        go_region_held3 (fun w' => w'.cell? ⟨r2, 0, none⟩ = some (.pointer (some ⟨q2, 0, none⟩))) (first | exact K5.out | exact K6.out) ((first | (go_at_call 17; refine (vleft_any r q k' _ V4.out.drew.1.all.bk V4.out.2.2.wld.inv.le).mono ?_; rintro e w5 ⟨rfl, b5⟩; have V5 := Hid.intro (V4.out.drew.below b5); have K6 : Hid (w5.cell? ⟨r2, 0, none⟩ = some (.pointer (some ⟨q2, 0, none⟩))) := Hid.intro V5.out.2.1.bk.cP; clear b5) | (go_at_call 18; refine (kleft_any q2 k'.pool _ V5.out.2.1.bk.pool V4.out.2.2.wld.inv.le).mono ?_; rintro e w6 ⟨rfl, hw6⟩; subst w6)))
        clear K5 K6 V4
        go_wp2_with fail
        go_roundw
        case rel => first | exact ⟨j + 1, N, _, _, _, _, _, _, _, _, _, rfl, rfl, by go_num, by omega, N1, V5⟩ | ((repeat apply Exists.intro); exact ⟨⟨rfl, rfl, by go_num, by omega, N1, V5⟩, rfl⟩)
        case measure => simp [intOf]; omega
    · have hjn : j = n0 := by omega
      subst hjn
      clear hlt
      as_aux_lemma =>
      go_wp2_with fail
      go_loopw [12, 13] (fun v _ wr => ∃ (y : Nat), v = .int .i64 y ∧ y ≤ N ∧ Hid (VS w wr r q gm cm r2 q2 gn cn N bs cs me ow k)) (fun v _ _ => N - (intOf v).toNat)
      case atStart => exact ⟨0, rfl, by omega, S⟩
      case round =>
        clear S
        obtain ⟨y, rfl, hyN, S⟩ := hrel
        by_cases hy : y < N
        · have hyI : (y : Int) < (N : Int) := by omega
          have K0 : Hid (wr.cell? ⟨gm, y, none⟩ = some (.pointer (some ⟨bs y, 0, none⟩)) ∧ wr.cell? ⟨gn, y, none⟩ = some (.pointer (some ⟨cs y, 0, none⟩))) := Hid.intro ⟨S.out.1.cell y hy, S.out.2.1.cell y hy⟩
          go_wp2_with fail
          go_region_held3 (fun w' => w'.cell? ⟨gm, y, none⟩ = some (.pointer (some ⟨bs y, 0, none⟩)) ∧ w'.cell? ⟨gn, y, none⟩ = some (.pointer (some ⟨cs y, 0, none⟩))) (first | exact K0.out | exact K4.out) ((go_at_call 19; refine (asMemory_any (bs y) r (cs y) r2 (me y) (ow y) _ (S.out.drew.1.all.mem y hy).1 (S.out.drew.2.1.mem y hy).1 (S.out.2.2.wld.le y hy) (S.out.2.2.ok y hy)).mono ?_; rintro e w4 ⟨rfl, b4⟩; have V4 := Hid.intro (S.out.drew.below b4); have K4 : Hid (w4.cell? ⟨gm, y, none⟩ = some (.pointer (some ⟨bs y, 0, none⟩)) ∧ w4.cell? ⟨gn, y, none⟩ = some (.pointer (some ⟨cs y, 0, none⟩))) := Hid.intro ⟨V4.out.1.cell y hy, V4.out.2.1.cell y hy⟩; clear b4))
          clear K0 K4 S
          go_wp2_with fail
          go_roundw
          case rel => first | exact ⟨y + 1, by go_num, by omega, V4⟩ | ((repeat apply Exists.intro); exact ⟨⟨by go_num, by omega, V4⟩, rfl⟩)
          case measure => simp [intOf]; omega
        · have hyI : ¬ (y : Int) < (N : Int) := by omega
          go_wp2_with fail
          go_loopw [14, 15, 16] (fun v _ _ wr => ∃ (z : Int), v = .int .i64 z ∧ -1 ≤ z ∧ z ≤ 65 ∧ Hid (VS w wr r q gm cm r2 q2 gn cn N bs cs me ow k)) (fun v _ _ _ => (65 - intOf v).toNat)
          case atStart => exact ⟨-1, rfl, by omega, by omega, S⟩
          case round =>
            clear S
            obtain ⟨z, rfl, hz1, hz2, S⟩ := hrel
            by_cases hz : z < 65
            · by_cases e1 : z = -1
              · subst e1
                go_wp2_with fail
                refine (vrefs_bad r (-1) _ (.inl rfl)).mono ?_
                rintro e w4 ⟨rfl, hw4⟩
                subst w4
                go_wp2_with fail
                refine (same_any 1 (by omega) _).mono ?_
                rintro e w4 ⟨rfl, hw4⟩
                subst w4
                go_wp2_with fail
                go_roundw
                case rel => exact ⟨0, by go_num, by omega, by omega, S⟩
                case measure => simp [intOf]
              · by_cases e2 : z = 64
                · subst e2
                  go_wp2_with fail
                  refine (vrefs_bad r 64 _ (.inr rfl)).mono ?_
                  rintro e w4 ⟨rfl, hw4⟩
                  subst w4
                  go_wp2_with fail
                  refine (same_any 1 (by omega) _).mono ?_
                  rintro e w4 ⟨rfl, hw4⟩
                  subst w4
                  go_wp2_with fail
                  go_roundw
                  case rel => exact ⟨65, by go_num, by omega, by omega, S⟩
                  case measure => simp [intOf]
                · obtain ⟨f, rfl⟩ := Int.eq_ofNat_of_zero_le (show 0 ≤ z by omega)
                  have f64 : f < 64 := by omega
                  have fI : (f : Int) < 64 := by omega
                  have f65 : (f : Int) < 65 := by omega
                  have d1 : decide (63 < (f : Int)) = false := by simp; omega
                  have d0 : decide ((f : Int) < 0) = false := by simp
                  have q0 := S.out.2.1.bk.cRefs f f64
                  clear hz1 hz2 hz e1 e2
                  have VR := Hid.intro (vrefs_any r q f k wr S.out.1.all.bk f64)
                  generalize k.refs f = rf at *
                  go_wp2_with fail
                  refine VR.out.mono ?_
                  rintro e w4 ⟨rfl, hw4⟩
                  subst w4
                  rw [errV_zero]
                  clear VR
                  go_wp2_with fail
                  go_roundw
                  case rel => exact ⟨(f : Int) + 1, by go_num, by omega, by omega, S⟩
                  case measure => simp [intOf]; omega
            · have hzI : ¬ z < 65 := hz
              obtain rfl : z = 65 := by omega
              go_wp2_with fail
              go_ret
              exact ⟨rfl, S.out.1.bel⟩
theorem vs_any (a : Option Addr) (len cap : Nat) (w : World) (h : IsActs0 w a len) :
    Calls Try.prog 3 #[.slice a len cap] w fun e w' => e = .returned (.bool true) ∧ Below w.heap.size w w' := by
  by_cases hf : 120 < len
  · exact vs_far a len cap w hf
  · exact vs_near a len cap w h (by omega)
end Go.Proofs.Ytnppahmlifnnnab

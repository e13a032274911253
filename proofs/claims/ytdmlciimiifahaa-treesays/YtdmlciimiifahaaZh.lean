/- The law TreeSays: a closed fact: a file is made. -/
import Derived.Test.YtdmlciimiifahaaZg
import Derived.Test.YtdmlciimiifahaaWq
namespace Go.Proofs.Ytdmlciimiifahaa
open Go.RowKit
open Tr (Fo Nd RN)

def Tr.g3 : Fo := Tr.makF Tr.g1 0 ⟨#[97]⟩ 1 1
def Tr.g4 : Fo := Tr.wriF Tr.g3 1 0 ⟨#[120, 121]⟩
theorem Tr.mak_g1 : Tr.MakTo Tr.g1 (0 : Int) ⟨#[97]⟩ 1 1 0 Tr.g3 := by
  refine .inr ⟨.inl rfl, 0, .inr ⟨by decide, .inr ⟨by decide +kernel, .inr ⟨.inr ⟨rfl, fun j hj => ?_⟩, .inr ⟨by decide, rfl⟩⟩⟩⟩, .inr ⟨rfl, 1, 0, Tr.free_g1, .inr ⟨rfl, rfl, rfl, rfl⟩⟩⟩
  exact absurd hj (Nat.not_lt_zero j)
theorem Tr.g3_facts : Tr.wriE Tr.g3 1 0 ⟨#[120, 121]⟩ = 0 ∧ Tr.reaE Tr.g4 1 1 9 = 0 ∧ Tr.reaS Tr.g4 1 1 9 = ⟨#[121]⟩ ∧ Tr.cntN Tr.g4 40 = 2 ∧ Tr.rootE Tr.g1 0 = 0 ∧ Tr.rootN Tr.g1 0 = 0 := ⟨by decide +kernel, by decide +kernel, by decide +kernel, by decide +kernel, by decide +kernel, by decide +kernel⟩
set_option maxRecDepth 100000 in
set_option maxHeartbeats 2000000 in
theorem grows_any (w : World) : Calls Try.prog 5 #[] w fun e w' => e = .returned (.bool true) ∧ Below w.heap.size w w' := by
  have GF := Hid.intro Tr.g3_facts
  go_enter Try.func5, Try.ntmps5
  go_wp2_with fail
  refine (tnew_any _).mono ?_
  rintro e W1 ⟨rfl, f1, b1⟩
  have S1 : Hid (TM w W1 w.heap.size Tr.f0) := Hid.intro ⟨b1, f1, Tr.ok0, Nat.le_refl _⟩
  clear f1 b1
  go_wp2_with fail
  refine (tplant_any w.heap.size Tr.f0 _ S1.out.2.1 (by decide)).mono ?_
  rintro e W2 ⟨T, E, G, rfl, hp, h2, f2⟩
  obtain ⟨rfl, rfl, rfl⟩ := Tr.pla_first hp
  have S2 : Hid (TM w W2 w.heap.size Tr.g1) := Hid.intro (S1.out.step h2 f2 Tr.ok_g1)
  clear hp h2 f2 S1
  rw [errV_zero]
  go_wp2_with fail
  refine (troot_any w.heap.size (0 : Int) Tr.g1 _ S2.out.2.1).mono ?_
  rintro e W3 ⟨rfl, hW3⟩
  subst W3
  rw [GF.out.2.2.2.2.1, GF.out.2.2.2.2.2, errV_zero]
  go_wp2_with fail
  refine (tmake_any w.heap.size (0 : Int) ⟨#[97]⟩ 1 Tr.g1 _ S2.out.2.1 S2.out.2.2.1.sz).mono ?_
  rintro e W4 ⟨KK, E, G, rfl, hm, h4, f4⟩
  obtain ⟨rfl, rfl, rfl⟩ := Tr.mak_g1.unique hm
  have S4 : Hid (TM w W4 w.heap.size Tr.g3) := Hid.intro (S2.out.step h4 f4 (S2.out.2.2.1.mak hm))
  clear hm h4 f4 S2
  rw [errV_zero]
  go_wp2_with fail
  refine (twrite_any w.heap.size (1 : Int) (0 : Int) ⟨#[120, 121]⟩ Tr.g3 _ S4.out.2.1 (by decide)).mono ?_
  rintro e W5 ⟨rfl, h5, f5⟩
  have S5 : Hid (TM w W5 w.heap.size Tr.g4) := Hid.intro (S4.out.step h5 f5 (S4.out.2.2.1.wri _ _ _))
  clear h5 f5 S4
  rw [GF.out.1, errV_zero]
  go_wp2_with fail
  refine (tread_any w.heap.size (1 : Int) (1 : Int) (9 : Int) Tr.g4 _ S5.out.2.1 S5.out.2.2.1.fz).mono ?_
  rintro e W6 ⟨rfl, _, b6⟩
  have S6 := Hid.intro (S5.out.below b6)
  clear b6 S5
  rw [GF.out.2.1, GF.out.2.2.1, errV_zero]
  go_wp2_with (first | (go_at_call 27; refine (same_nil _).mono ?_; rintro e w7 ⟨rfl, hw7⟩; subst w7) | (go_at_call 23; refine (tnodes_any w.heap.size Tr.g4 _ S6.out.2.1).mono ?_; rintro e w7 ⟨rfl, hw7⟩; subst w7; rw [GF.out.2.2.2.1]))
  go_ret
  exact ⟨rfl, S6.out.1⟩
end Go.Proofs.Ytdmlciimiifahaa
/- The law TreeSays. -/
namespace Go.Proofs.Ytdmlciimiifahaa
open Go.RowKit
open Tr (Fo Nd RN)

theorem quiet_rname (s : ByteArray) (v : Bool) (h : Tr.nameB s = v) (w : World) : Calls Try.prog 11 #[.string s] w fun e w' => e = .returned (.bool v) ∧ w' = w := by rw [← h]; exact rname_any s w
def rzA : Array Value := ((List.range 321).map fun o => if o < 320 then rcell RN.no (o % 8) else .slice none 0 0).toArray
theorem rz_at (i : Nat) (h : i < 321) : rzA[i]? = some (if i < 320 then rcell RN.no (i % 8) else .slice none 0 0) := by simp [rzA, h]
theorem rz_eq : Try.zeroCells34 = rzA := by kernel_rfl
theorem fr_zero (W : World) : FR W.heap.size (W.alloc (.cells Try.zeroCells34 34)) W.heap.size Tr.f0 (fun _ => RN.no) (.slice none 0 0) := by
  have h := heap_alloc_new W (.cells Try.zeroCells34 34)
  have h2 : (W.alloc (.cells Try.zeroCells34 34)).heap[W.heap.size]? = some (.cells rzA 34 (0, 0)) := by rw [← rz_eq]; exact h
  refine ⟨⟨⟨_, h2, by simp [rzA]⟩, fun n j hn hj => ?_, ?_, fun _ _ => ⟨⟨_, _, _, rfl⟩, ⟨_, _, _, rfl⟩⟩⟩, Nat.le_refl _, World.ownsRow_nil _ _ _ _, (fun e => by cases e), fun n _ => nr_no _ _ _ _ _ rfl⟩
  · rw [cell_blk h2, rz_at _ (by omega), if_pos (by omega), show (n * 8 + j) % 8 = j by omega]
  · rw [cell_blk h2, rz_at _ (by omega), if_neg (by omega)]
set_option maxRecDepth 100000 in
set_option maxHeartbeats 4000000 in
theorem ts_far (a0 : Option Addr) (n0 c0 : Nat) (w : World) (h : 100 < n0) :
    Calls Try.prog 3 #[.slice a0 n0 c0] w fun e w' => e = .returned (.bool true) ∧ Below w.heap.size w w' := by
  have d : decide ((n0 : Int) ≤ 100) = false := by simp; omega
  go_enter Try.func3, Try.ntmps3
  go_wp2_with fail
  refine (grows_any _).mono ?_
  rintro e W1 ⟨rfl, b1⟩
  have S1 := Hid.intro b1
  clear b1
  go_wp2_with fail
  refine (light_any _ _ _ _ _).mono ?_
  rintro e W4 ⟨rfl, hW⟩
  subst W4
  rw [d]
  go_wp2_with fail
  go_ret
  exact ⟨rfl, S1.out⟩
set_option maxRecDepth 100000 in
set_option maxHeartbeats 4000000 in
theorem ts_near (a0 : Option Addr) (b0 o0 n0 c0 : Nat) (ax : Nat → Act8) (w : World) (hn : n0 ≤ 100) (ha : 0 < n0 → a0 = some ⟨b0, o0, none⟩) (hc : ∀ i, i < n0 → ∀ j, j < 8 → w.cell? ⟨b0, o0 + i * 8 + j, none⟩ = some ((ax i).cell j)) :
    Calls Try.prog 3 #[.slice a0 n0 c0] w fun e w' => e = .returned (.bool true) ∧ Below w.heap.size w w' := by
  have d : decide ((n0 : Int) ≤ 100) = true := by simp; omega
  have H0 := Hid.intro hc
  have HA := Hid.intro ha
  clear hc ha
  go_enter Try.func3, Try.ntmps3
  go_wp2_with fail
  refine (grows_any _).mono ?_
  rintro e W1 ⟨rfl, b1⟩
  have S1 := Hid.intro b1
  clear b1
  go_wp2_with fail
  refine (light_any _ _ _ _ _).mono ?_
  rintro e W4 ⟨rfl, hW⟩
  subst W4
  rw [d]
  clear d
  go_wp2_with fail
  have HC3 : Hid (∀ i, i < n0 → ∀ j, j < 8 → W1.cell? ⟨b0, o0 + i * 8 + j, none⟩ = some ((ax i).cell j)) := Hid.intro (fun i hi j hj => (S1.out.cell (p := ⟨b0, o0 + i * 8 + j, none⟩) (World.block_lt_of_cell? _ _ (H0.out i hi j hj))).trans (H0.out i hi j hj))
  refine (lightT_any a0 b0 o0 n0 c0 60 ax _ (by omega) HA.out HC3.out).mono ?_
  rintro e W4 ⟨v, rfl, hv, hW⟩
  subst W4
  rcases hv with rfl | ⟨rfl, hlt⟩
  · go_wp2_with fail
    go_ret
    exact ⟨rfl, S1.out⟩
  · have HLT := Hid.intro hlt
    clear hlt
    go_wp2_with fail
    refine (tnew_any _).mono ?_
    rintro e W2 ⟨rfl, f2, b2⟩
    have S2 : Hid (Below w.heap.size w W2 ∧ FAt W2 W1.heap.size Tr.f0 ∧ w.heap.size ≤ W1.heap.size) := Hid.intro ⟨S1.out.trans (b2.mono S1.out.size), f2, S1.out.size⟩
    clear f2 b2
    generalize W1.heap.size = b at *
    go_upto_region 6 with fail
    refine wp_gen (fun W' => GS w W' b W2.heap.size W2.heap.size Tr.f0 Tr.f0) (by
      have bb := (Below.refl W2.heap.size W2).alloc (Nat.le_refl _) (.cells Try.zeroCells34 34)
      exact ⟨S2.out.1.trans (bb.mono S2.out.1.size), S2.out.2.1.below bb, ⟨_, _, fr_zero W2⟩, S2.out.2.2, S2.out.2.1.lt⟩) ?_
    intro W3 h3
    have S3 : Hid (GS w W3 b W2.heap.size W2.heap.size Tr.f0 Tr.f0 ∧ PF 0 Tr.f0) := Hid.intro ⟨h3, Tr.ok0, fun n _ => Nat.le_refl _, Tr.zb0⟩
    clear h3 S2 HC3 S1
    generalize W2.heap.size = c at *
    go_wp2_with fail
    go_loopw [6, 7] (fun i x wr => ∃ (j : Nat) (F : Fo), i = .int .i64 j ∧ j ≤ n0 ∧ Hid (GS w wr b c c F F ∧ PF j F)) (fun i _ _ => n0 - (intOf i).toNat)
    case atStart => exact ⟨0, Tr.f0, rfl, by omega, S3⟩
    case round =>
      clear S3
      obtain ⟨j, F, rfl, hj, S⟩ := hrel
      by_cases hlt : j < n0
      · have hltI : (j : Int) < (n0 : Int) := by omega
        have hl := HLT.out j hlt
        obtain ⟨kd, A, B, C, K, On, S1, T1, hax⟩ : ∃ kd A B C K On S1 T1, ax j = ⟨kd, A, B, C, K, On, S1, T1⟩ := ⟨_, _, _, _, _, _, _, _, rfl⟩
        rw [hax] at hl
        have HL : Hid (S1.size < 2 ^ 60) := Hid.intro (by have : (S1.size : Int) ≤ 60 := hl.1; omega)
        have bl : b0 < w.heap.size := World.block_lt_of_cell? _ _ (H0.out j hlt 0 (by omega))
        have hae := HA.out (by omega)
        subst hae
        have CC : Hid (∀ V, Below w.heap.size w V → ∀ i, i < 8 → V.cell? ⟨b0, o0 + j * 8 + i, none⟩ = some ((⟨kd, A, B, C, K, On, S1, T1⟩ : Act8).cell i)) := Hid.intro (fun V hV i hi => by
          rw [← hax]; exact (hV.cell (p := ⟨b0, o0 + j * 8 + i, none⟩) bl).trans (H0.out j hlt i hi))
        have cl := CC.out wr S.out.1.1
        have c0' : wr.cell? ⟨b0, o0 + j * 8, none⟩ = some (.string kd) := cl 0 (by omega)
        have c1 : wr.cell? ⟨b0, o0 + j * 8 + 1, none⟩ = some (.int .i64 A) := cl 1 (by omega)
        have c2 : wr.cell? ⟨b0, o0 + j * 8 + 2, none⟩ = some (.int .i64 B) := cl 2 (by omega)
        have c3 : wr.cell? ⟨b0, o0 + j * 8 + 3, none⟩ = some (.int .i64 C) := cl 3 (by omega)
        have c4 : wr.cell? ⟨b0, o0 + j * 8 + 4, none⟩ = some (.int .u64 K) := cl 4 (by omega)
        have c5 : wr.cell? ⟨b0, o0 + j * 8 + 5, none⟩ = some (.bool On) := cl 5 (by omega)
        have c6 : wr.cell? ⟨b0, o0 + j * 8 + 6, none⟩ = some (.string S1) := cl 6 (by omega)
        have c7 : wr.cell? ⟨b0, o0 + j * 8 + 7, none⟩ = some (.string T1) := cl 7 (by omega)
        have HJ : Hid (j < 999) := Hid.intro (by omega)
        clear cl hax bl hl
        go_wp2_with fail
        refine (grown_any w wr b c c j F kd A B C K On S1 T1 S.out.1 S.out.2 HJ.out HL.out).mono ?_
        rintro e W5 ⟨rfl, G, g5, p5⟩
        have S5 := Hid.intro (And.intro g5 p5)
        clear g5 p5 S c0' c1 c2 c3 c4 c5 c6 c7
        have c6 : W5.cell? ⟨b0, o0 + j * 8 + 6, none⟩ = some (.string S1) := CC.out W5 S5.out.1.1 6 (by omega)
        go_upto_region 10 with fail
        cases hnb : Tr.nameB S1
        · have NB := Hid.intro hnb
          clear hnb
          by_cases j9 : j % 9 = 0
          · have j9I : (j : Int).tmod 9 = 0 := by rw [Int.tmod_eq_emod_of_nonneg (by omega)]; omega
            have K0 := Hid.intro c6
            clear j9
            go_region_held3 (fun w' => w'.cell? ⟨b0, o0 + j * 8 + 6, none⟩ = some (.string S1)) (first | exact K0.out | exact K6.out) ((first | (go_at_call 10; refine (Calls.quiet_name S1 false NB.out _).mono ?_; rintro e w7 ⟨rfl, hw7⟩; subst w7) | (go_at_call 11; refine (quiet_rname S1 false NB.out _).mono ?_; rintro e w7 ⟨rfl, hw7⟩; subst w7) | (go_at_call 12; refine (asForest_any w W5.drew b c c (j + 1) G (S5.out.1.below ⟨rfl, rfl, rfl, Nat.le_refl _, fun _ _ => rfl⟩) S5.out.2).mono ?_; rintro e W6 ⟨rfl, g6⟩; have S6 := Hid.intro (And.intro g6 S5.out.2); have K6 := Hid.intro (CC.out W6 g6.1 6 (by omega)); clear g6)))
            go_wp2_with fail
            go_roundw
            case rel => exact ⟨j + 1, G, by go_num, by omega, S6⟩
            case measure => simp [intOf]; omega
          · have j9I : ((j : Int).tmod 9 == 0) = false := by rw [Int.tmod_eq_emod_of_nonneg (by omega)]; simp; omega
            have j9J : ¬ (j : Int).tmod 9 = 0 := by rw [Int.tmod_eq_emod_of_nonneg (by omega)]; omega
            have j9K : ((j : Int) % 9 == 0) = false := by simp; omega
            have j9L : ¬ (9 : Int) ∣ (j : Int) := by omega
            have j9M : ¬ 9 ∣ j := by omega
            have j9N : decide ((j : Int) % 9 = 0) = false := decide_eq_false (by omega)
            have j9O : decide (j % 9 = 0) = false := decide_eq_false j9
            have j9P : (j % 9 == 0) = false := by simp; omega
            have j9Q : IntKind.i64.wrap ((j : Int).tmod 9) = (j : Int).tmod 9 := IntWalk.i64_in _ (by rw [Int.tmod_eq_emod_of_nonneg (by omega)]; constructor <;> omega)
            have S6 : Hid (∀ nq, GS w (W5.drewN nq) b c c G G ∧ PF (j + 1) G) := Hid.intro (fun nq => ⟨S5.out.1.below ⟨rfl, rfl, rfl, Nat.le_refl _, fun _ _ => rfl⟩, S5.out.2⟩)
            clear j9
            go_big_quiet ((first | (go_at_call 10; refine Calls.quiet_of_same (Calls.quiet_name S1 false NB.out _)) | (go_at_call 11; refine Calls.quiet_of_same (quiet_rname S1 false NB.out _))))
            go_wp2_with fail
            go_roundw
            case rel => exact ⟨j + 1, G, by go_num, by omega, Hid.intro (S6.out _)⟩
            case measure => simp [intOf]; omega
        · have NB := Hid.intro hnb
          clear hnb
          by_cases j9 : j % 9 = 0
          · have j9I : (j : Int).tmod 9 = 0 := by rw [Int.tmod_eq_emod_of_nonneg (by omega)]; omega
            have K0 := Hid.intro c6
            clear j9
            go_region_held3 (fun w' => w'.cell? ⟨b0, o0 + j * 8 + 6, none⟩ = some (.string S1)) (first | exact K0.out | exact K6.out) ((first | (go_at_call 10; refine (Calls.quiet_name S1 true NB.out _).mono ?_; rintro e w7 ⟨rfl, hw7⟩; subst w7) | (go_at_call 11; refine (quiet_rname S1 true NB.out _).mono ?_; rintro e w7 ⟨rfl, hw7⟩; subst w7) | (go_at_call 12; refine (asForest_any w W5.drew b c c (j + 1) G (S5.out.1.below ⟨rfl, rfl, rfl, Nat.le_refl _, fun _ _ => rfl⟩) S5.out.2).mono ?_; rintro e W6 ⟨rfl, g6⟩; have S6 := Hid.intro (And.intro g6 S5.out.2); have K6 := Hid.intro (CC.out W6 g6.1 6 (by omega)); clear g6)))
            go_wp2_with fail
            go_roundw
            case rel => exact ⟨j + 1, G, by go_num, by omega, S6⟩
            case measure => simp [intOf]; omega
          · have j9I : ((j : Int).tmod 9 == 0) = false := by rw [Int.tmod_eq_emod_of_nonneg (by omega)]; simp; omega
            have j9J : ¬ (j : Int).tmod 9 = 0 := by rw [Int.tmod_eq_emod_of_nonneg (by omega)]; omega
            have j9K : ((j : Int) % 9 == 0) = false := by simp; omega
            have j9L : ¬ (9 : Int) ∣ (j : Int) := by omega
            have j9M : ¬ 9 ∣ j := by omega
            have j9N : decide ((j : Int) % 9 = 0) = false := decide_eq_false (by omega)
            have j9O : decide (j % 9 = 0) = false := decide_eq_false j9
            have j9P : (j % 9 == 0) = false := by simp; omega
            have j9Q : IntKind.i64.wrap ((j : Int).tmod 9) = (j : Int).tmod 9 := IntWalk.i64_in _ (by rw [Int.tmod_eq_emod_of_nonneg (by omega)]; constructor <;> omega)
            have S6 : Hid (∀ nq, GS w (W5.drewN nq) b c c G G ∧ PF (j + 1) G) := Hid.intro (fun nq => ⟨S5.out.1.below ⟨rfl, rfl, rfl, Nat.le_refl _, fun _ _ => rfl⟩, S5.out.2⟩)
            clear j9
            go_big_quiet ((first | (go_at_call 10; refine Calls.quiet_of_same (Calls.quiet_name S1 true NB.out _)) | (go_at_call 11; refine Calls.quiet_of_same (quiet_rname S1 true NB.out _))))
            go_wp2_with fail
            go_roundw
            case rel => exact ⟨j + 1, G, by go_num, by omega, Hid.intro (S6.out _)⟩
            case measure => simp [intOf]; omega
      · have hltI : ¬ (j : Int) < (n0 : Int) := by omega
        clear HLT H0
        go_wp2_with fail
        refine (asForest_any w wr b c c j F S.out.1 S.out.2).mono ?_
        rintro e W6 ⟨rfl, g6⟩
        have S6 := Hid.intro g6
        clear g6
        go_wp2_with fail
        go_ret
        exact ⟨rfl, S6.out.1⟩
end Go.Proofs.Ytdmlciimiifahaa
/- The law TreeSays, for all lists. -/
namespace Go.Proofs.Ytdmlciimiifahaa
open Go.RowKit
theorem ts_any (a0 : Option Addr) (n0 c0 : Nat) (w : World) (h : IsActs0 w a0 n0) :
    Calls Try.prog 3 #[.slice a0 n0 c0] w fun e w' => e = .returned (.bool true) ∧ Below w.heap.size w w' := by
  by_cases hn : n0 ≤ 100
  · by_cases h0 : 0 < n0
    · obtain ⟨b0, o0, ax, ha, hc⟩ := h.2 h0
      exact ts_near a0 b0 o0 n0 c0 ax w hn (fun _ => ha) hc
    · exact ts_near a0 0 0 n0 c0 (fun _ => ⟨⟨#[]⟩, 0, 0, 0, 0, false, ⟨#[]⟩, ⟨#[]⟩⟩) w hn (fun k => absurd k h0) (fun i hi => absurd hi (by omega))
  · exact ts_far a0 n0 c0 w (by omega)
end Go.Proofs.Ytdmlciimiifahaa

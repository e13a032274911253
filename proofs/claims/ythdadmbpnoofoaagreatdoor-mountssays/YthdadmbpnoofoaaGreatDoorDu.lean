/- MountsSays: the law. -/
import Derived.Test.YthdadmbpnoofoaaGreatDoorDt
import Derived.Deep.RegionHeld3
import Derived.Deep.CutRange
import Derived.Deep.CutBlock
namespace Go.Proofs.YthdadmbpnoofoaaGreatDoor
open Go.RowKit
open Tr (Fo Nd RN)
open Mo (Wh Mt Tb)

def Mo.gj : Nat → Fo
  | 0 => Tr.f0
  | 1 => Tr.g1
  | _ => Tr.g2
theorem Mo.kinds {kd : ByteArray} {l l' : List UInt8} (h : (kd.toList == l) = true) (d : (l == l') = false) : (kd.toList == l') = false := by
  have : kd.toList = l := by simpa using h
  rw [this]; exact d
/-- Take an operation first, its slot told. -/
theorem Mo.take_h {P : Program} {md : Region.Mode} {ops : Array Oper} {Q : Exit → Act → World → Prop} {S : World → Prop} {i d : Nat} {oi : Oper} {v : Value} {fuel : Nat} {listed : Array Bool} {a : Act} {w : World} (hi : ops[i]? = some oi) (hd : oi.dst = some d)
    (hs : Region.noSelect ops = true) (hf : Region.free md ops listed i = true) (hr : (Region.ready md ops listed).contains i = true)
    (hQ : ∀ c a w, Q (.panic c) (a.put (some d) v) w → Q (.panic c) a w) (hy : YieldsIf P ops S oi v a) (hS : S w)
    (h : wpAnyH P md ops Q S fuel (listed.setIfInBounds i true) (a.put (some d) v) w) : wpAnyH P md ops Q S (fuel + 1) listed a w :=
  wpAnyH_take hi hs hf hr (by rw [hd]; exact hQ) hy hS (by rw [hd]; exact h)
theorem Mo.QI.start : Mo.QI (Tr.hol Tr.g2 (0 : Nat)) Mo.T0 := ⟨Mo.pi_start, fun i j m m' hi => by simp [Mo.T0] at hi, ((Tr.zb0.pla (T := 0) (E := 0) (.inr ⟨by decide, 0, 0, .inl ⟨rfl, by omega, rfl, fun m hm => by omega⟩, .inr ⟨rfl, rfl, rfl, rfl⟩⟩)).pla (T := 1) (E := 0) (.inr ⟨by decide, 1, 0, Tr.free_g1, .inr ⟨rfl, rfl, rfl, rfl⟩⟩)).hol _⟩
open Mo in
theorem Mo.copy_facts {F : Fo} {T : Tb} (M : Mo.QI F T) : Tr.Hb (hoA F T) 26 ∧ leA (hoA F T) T = F ∧ (Tr.rootE (hoA F T) 1 = 0 → Tr.Hb (Tr.hol (leA (hoA F T) T) (Tr.rootN (hoA F T) 1)) 14 ∧ leA (Tr.hol (leA (hoA F T) T) (Tr.rootN (hoA F T) 1)) ⟨(1, (Tr.rootN (hoA F T) 1 : Int)), []⟩ = F) := by
  have hz := M.pi.hi.nds M.pi.rg
  have ha : hoA F T = addH F (fun n => 0 + cl (nds T) n) := by rw [hoA_nds]; exact fold_ho F (nds T) (fun _ => 0) hz
  have hl := le_ho M.pi.ok hz
  refine ⟨fun n hn => ?_, hl, fun e0 => ?_⟩
  · rw [ha]
    show (F.nd n).held + (0 + cl (nds T) n) ≤ 26
    have h1 := M.pi.hb n hn
    have h2 := tc_le T M.pi.six n
    rw [cl_nds]
    omega
  · have e1 : Tr.rootE F 1 = 0 := by rw [ha] at e0; exact e0
    have rn : Tr.rootN (hoA F T) 1 = Tr.rootN F 1 := by rw [ha]; rfl
    rw [rn]
    refine ⟨?_, copy_same M.pi.ok hz (root_alive M.pi.ok e1)⟩
    rw [hl]
    exact M.pi.hb.hol _
theorem TAt.kept {W2 W4 : World} {n0 b f c : Nat} {T : Tb} {v : Value} (h : TAt W2 n0 c f T v) (hc : n0 ≤ c) (lb : b < n0) (lf : f < n0) (k : Onl (BF b f) W2 W4) : TAt W4 n0 c f T v :=
  h.same (k.block c h.lt (fun e => by rcases e with e | e <;> omega)) (fun g hg => k.block g (h.row.lt g hg).2 (fun e => by have := (h.row.lt g hg).1; rcases e with e | e <;> omega))
set_option maxRecDepth 100000 in
set_option maxHeartbeats 4000000 in
theorem ms_far (a0 : Option Addr) (n0 c0 : Nat) (w : World) (h : 100 < n0) :
    Calls Tryz.prog 3 #[.slice a0 n0 c0] w fun e w' => e = .returned (.bool true) ∧ Below w.heap.size w w' := by
  have d : decide ((n0 : Int) ≤ 100) = false := by simp; omega
  go_enter Tryz.func3, Tryz.ntmps3
  go_wp2_with fail
  refine (leads_any _).mono ?_
  rintro e W1 ⟨rfl, b1⟩
  have S1 := Hid.intro b1
  clear b1
  go_wp2_with fail
  refine (light_any _ _ _ _ _).mono ?_
  rintro e W4 ⟨rfl, hW⟩
  subst W4
  rw [d]
  go_wp2_with fail
  go_ret
  exact ⟨rfl, S1.out⟩
set_option maxRecDepth 100000 in
set_option maxHeartbeats 16000000 in
set_option linter.unusedSimpArgs false in
theorem ms_near (a0 : Option Addr) (b0 o0 n0 c0 : Nat) (ax : Nat → Act8) (w : World) (hn : n0 ≤ 100) (ha : 0 < n0 → a0 = some ⟨b0, o0, none⟩) (hc : ∀ i, i < n0 → ∀ j, j < 8 → w.cell? ⟨b0, o0 + i * 8 + j, none⟩ = some ((ax i).cell j)) :
    Calls Tryz.prog 3 #[.slice a0 n0 c0] w fun e w' => e = .returned (.bool true) ∧ Below w.heap.size w w' := by
  have d : decide ((n0 : Int) ≤ 100) = true := by simp; omega
  have H0 := Hid.intro hc
  have HA := Hid.intro ha
  clear hc ha
  go_enter Tryz.func3, Tryz.ntmps3
  go_wp2_with fail
  refine (leads_any _).mono ?_
  rintro e W1 ⟨rfl, b1⟩
  have S1 := Hid.intro b1
  clear b1
  go_wp2_with fail
  refine (light_any _ _ _ _ _).mono ?_
  rintro e W4 ⟨rfl, hW⟩
  subst W4
  rw [d]
  clear d
  go_wp2_with fail
  have HC3 : Hid (∀ i, i < n0 → ∀ j, j < 8 → W1.cell? ⟨b0, o0 + i * 8 + j, none⟩ = some ((ax i).cell j)) := Hid.intro (fun i hi j hj => (S1.out.cell (p := ⟨b0, o0 + i * 8 + j, none⟩) (World.block_lt_of_cell? _ _ (H0.out i hi j hj))).trans (H0.out i hi j hj))
  refine (lightT_any a0 b0 o0 n0 c0 80 ax _ (by omega) HA.out HC3.out).mono ?_
  rintro e W4 ⟨v, rfl, hv, hW⟩
  subst W4
  rcases hv with rfl | ⟨rfl, hlt⟩
  · go_wp2_with fail
    go_ret
    exact ⟨rfl, S1.out⟩
  · have HLT := Hid.intro hlt
    clear hlt
    go_wp2_with fail
    refine (tnew_any _).mono ?_
    rintro e W2 ⟨rfl, f2, b2⟩
    have S2 : Hid (Below w.heap.size w W2 ∧ FAt W2 W1.heap.size Tr.f0 ∧ w.heap.size ≤ W1.heap.size) := Hid.intro ⟨S1.out.trans (b2.mono S1.out.size), f2, S1.out.size⟩
    clear f2 b2
    generalize W1.heap.size = f at *
    go_upto_region 6 with fail
    refine wp_gen (fun W' => BG w W' f W2.heap.size Tr.f0) (by
      have bb := (Below.refl W2.heap.size W2).alloc (Nat.le_refl _) (.cells Tryz.zeroCells34 34)
      exact ⟨S2.out.1.trans (bb.mono S2.out.1.size), S2.out.2.1.below bb, ⟨_, _, Mo.fr_zero W2⟩, S2.out.2.2, S2.out.2.1.lt, S2.out.1.size⟩) ?_
    intro W3 h3
    have S3 := Hid.intro h3
    clear h3 S2 HC3 S1
    generalize W2.heap.size = g at *
    have R0 : Tr.rootE Tr.f0 0 = 2 := by decide +kernel
    go_wp2_with fail
    refine (new_no f Tr.f0 0 _ S3.out.2.1 (by rw [R0]; decide)).mono ?_
    rintro e W4 ⟨rfl, b4⟩
    rw [R0]
    have S4 := Hid.intro (S3.out.below b4)
    clear b4 S3 R0
    go_wp2_with fail
    refine (same_any 2 (by decide) _).mono ?_
    rintro e W5 ⟨rfl, hW⟩
    subst W5
    go_wp2_with fail
    go_loopw [8] (fun i wr => ∃ j : Nat, i = .int .i64 j ∧ j ≤ 2 ∧ Hid (BG w wr f g (Mo.gj j))) (fun i _ => 2 - (intOf i).toNat)
    case atStart => exact ⟨0, rfl, by omega, S4⟩
    case round =>
      clear S4
      obtain ⟨j, rfl, hj, S⟩ := hrel
      match j, hj, S with
      | 0, hj, S =>
        go_wp2_with fail
        refine (tplant_any f Tr.f0 _ S.out.2.1 (by decide)).mono ?_
        rintro e W5 ⟨TT, E, G, rfl, hp, h5, f5⟩
        obtain ⟨rfl, rfl, rfl⟩ := Tr.pla_first hp
        obtain ⟨d1, d2, R, rv, q⟩ := S.out.code h5 f5
        have S5 := Hid.intro (And.intro d1 (And.intro d2 q))
        clear hp h5 f5 d1 d2 q
        rw [errV_zero]
        go_wp2_with fail
        refine (rplant_any ⟨g, fun _ => False⟩ g Tr.f0 _ _ _ S5.out.2.2 (by decide)).mono ?_
        rintro e W6 ⟨TT, E, G, rfl, hp, h6, f6⟩
        obtain ⟨rfl, rfl, rfl⟩ := Tr.pla_first hp
        have S6 : Hid (BG w W6 f g Tr.g1) := Hid.intro ⟨S5.out.1.trans (f6.mono S.out.2.2.2.2.2), S5.out.2.1.same (f6.block f S.out.2.2.2.2.1), h6, S.out.2.2.2⟩
        clear hp h6 f6 S5
        go_wp2_with fail
        go_roundw
        case rel => exact ⟨1, by go_num, by omega, S6⟩
        case measure => simp [intOf]
      | 1, hj, S =>
        go_wp2_with fail
        refine (tplant_any f Tr.g1 _ S.out.2.1 (by decide)).mono ?_
        rintro e W5 ⟨TT, E, G, rfl, hp, h5, f5⟩
        obtain ⟨rfl, rfl, rfl⟩ := Tr.pla_second hp
        obtain ⟨d1, d2, R, rv, q⟩ := S.out.code h5 f5
        have S5 := Hid.intro (And.intro d1 (And.intro d2 q))
        clear hp h5 f5 d1 d2 q
        rw [errV_zero]
        go_wp2_with fail
        refine (rplant_any ⟨g, fun _ => False⟩ g Tr.g1 _ _ _ S5.out.2.2 (by decide)).mono ?_
        rintro e W6 ⟨TT, E, G, rfl, hp, h6, f6⟩
        obtain ⟨rfl, rfl, rfl⟩ := Tr.pla_second hp
        have S6 : Hid (BG w W6 f g Tr.g2) := Hid.intro ⟨S5.out.1.trans (f6.mono S.out.2.2.2.2.2), S5.out.2.1.same (f6.block f S.out.2.2.2.2.1), h6, S.out.2.2.2⟩
        clear hp h6 f6 S5
        go_wp2_with fail
        go_roundw
        case rel => exact ⟨2, by go_num, by omega, S6⟩
        case measure => simp [intOf]
      | 2, hj, S =>
        have S5 : Hid (BG w wr f g Tr.g2) := S
        clear S
        go_wp2_with fail
        refine (new_yes f 0 Tr.g2 0 _ S5.out.2.1 Mo.g2_root.1 (Mo.hi_g2.hb (fun _ _ => Nat.le_refl _)) (by decide)).mono ?_
        rintro e W6 ⟨b, rfl, lb, t6, f6, k6⟩
        have T6 := Hid.intro (And.intro (t6 w.heap.size) (And.intro f6 (And.intro k6 lb)))
        obtain ⟨R, rv, q⟩ := S5.out.2.2.1
        have Q6 : Hid (FR ⟨g, fun n => False ∨ n = b⟩ W6 g Tr.g2 R rv) := Hid.intro (q.grow2 (S := fun n => n = f) (Onl.of_frm k6 rfl) (fun n e => by subst e; exact .inr S5.out.2.2.2.2.1) (Nat.ne_of_gt S5.out.2.2.2.2.1) (fun n e => by subst e; exact ⟨lb, (t6 0).lt⟩))
        clear t6 f6 k6 lb q
        go_wp2_with fail
        refine (rnewm_yes g 0 _ Tr.g2 R rv 0 _ Q6.out Mo.g2_root.1 (Mo.hi_g2.hb (fun _ _ => Nat.le_refl _)) (by decide)).mono ?_
        rintro e W7 ⟨m, rfl, lm, r7, k7⟩
        have S7 := Hid.intro (MS.start S5.out T6.out.2.2.2 T6.out.1 T6.out.2.1 T6.out.2.2.1 lm (r7 _) k7)
        clear lm r7 k7 Q6 T6 S5
        generalize (⟨g, fun n => (False ∨ n = b) ∨ n = m⟩ : Bs) = B at *
        go_wp2_with fail
        go_loopw [9, 12, 13, 14, 15] (fun t i _ _ _ wr => ∃ (b j : Nat) (B : Bs) (T : Tb) (v v' : Value) (F : Fo), t = .pointer (some ⟨b, 0, none⟩) ∧ i = .int .i64 j ∧ j ≤ n0 ∧ Hid (MS w wr f b g m B T v F T v' F) ∧ Hid (Mo.QI F T)) (fun _ i _ _ _ _ => n0 - (intOf i).toNat)
        case atStart => exact ⟨b, 0, B, _, _, _, _, rfl, rfl, by omega, S7, Hid.intro Mo.QI.start⟩
        case round =>
          clear S7
          obtain ⟨b, j, B, T, v, v', F, rfl, rfl, hj, S, M⟩ := hrel
          by_cases hlt : j < n0
          · have hltI : (j : Int) < (n0 : Int) := by omega
            obtain ⟨kd, A, B', C, K, On, S1, T1, hax⟩ : ∃ kd A B C K On S1 T1, ax j = ⟨kd, A, B, C, K, On, S1, T1⟩ := ⟨_, _, _, _, _, _, _, _, rfl⟩
            have bl : b0 < w.heap.size := World.block_lt_of_cell? _ _ (H0.out j hlt 0 (by omega))
            have hae := HA.out (by omega)
            subst hae
            have cl : ∀ i, i < 8 → wr.cell? ⟨b0, o0 + j * 8 + i, none⟩ = some ((⟨kd, A, B', C, K, On, S1, T1⟩ : Act8).cell i) := fun i hi => by
              rw [← hax]; exact (S.out.bel.cell (p := ⟨b0, o0 + j * 8 + i, none⟩) bl).trans (H0.out j hlt i hi)
            have c0' : wr.cell? ⟨b0, o0 + j * 8, none⟩ = some (.string kd) := cl 0 (by omega)
            have c1 : wr.cell? ⟨b0, o0 + j * 8 + 1, none⟩ = some (.int .i64 A) := cl 1 (by omega)
            have c2 : wr.cell? ⟨b0, o0 + j * 8 + 2, none⟩ = some (.int .i64 B') := cl 2 (by omega)
            have c3 : wr.cell? ⟨b0, o0 + j * 8 + 3, none⟩ = some (.int .i64 C) := cl 3 (by omega)
            have c4 : wr.cell? ⟨b0, o0 + j * 8 + 4, none⟩ = some (.int .u64 K) := cl 4 (by omega)
            have c5 : wr.cell? ⟨b0, o0 + j * 8 + 5, none⟩ = some (.bool On) := cl 5 (by omega)
            have c6 : wr.cell? ⟨b0, o0 + j * 8 + 6, none⟩ = some (.string S1) := cl 6 (by omega)
            have c7 : wr.cell? ⟨b0, o0 + j * 8 + 7, none⟩ = some (.string T1) := cl 7 (by omega)
            clear cl hax bl
            go_upto_region 22 with fail
            refine wp_gen (fun W' => MS w W' f b g m B T v F T v' F ∧ ActAt W' wr.heap.size (acA kd A B' C K On S1 T1)) ⟨S.out.below ((Below.refl _ _).alloc (Nat.le_refl _) _), heap_alloc_new wr _⟩ ?_
            rintro W1 ⟨g1, a1⟩
            have G1 := Hid.intro g1
            clear c0' c1 c2 c3 c4 c5 c6 c7 S g1
            generalize wr.heap.size = ba at *
            have x0 := act_cells a1 0 (.string kd) rfl
            have x1 := act_cells a1 1 (.int .i64 A) rfl
            have x2 := act_cells a1 2 (.int .i64 B') rfl
            have x3 := act_cells a1 3 (.int .i64 C) rfl
            have x4 := act_cells a1 4 (.int .u64 K) rfl
            have x5 := act_cells a1 5 (.bool On) rfl
            have x6 := act_cells a1 6 (.string S1) rfl
            have x7 := act_cells a1 7 (.string T1) rfl
            clear a1
            go_upto_block 4 with fail
            go_cut [9, 14, 15] from 84 to 106 (fun t ok _ wx => ∃ (b2 : Nat) (B2 : Bs) (T2 : Tb) (v2 v2' : Value) (F2 : Fo), t = .pointer (some ⟨b2, 0, none⟩) ∧ ok = .bool true ∧ Hid (MS w wx f b2 g m B2 T2 v2 F2 T2 v2' F2) ∧ Hid (Mo.QI F2 T2))
            case first =>
              by_cases m1 : (kd.toList == [109, 97, 107, 101]) = true
              · as_aux_lemma =>
                have YG := Hid.intro (mgrown_make w W1 f b g m B T v v' F kd A B' C K On S1 T1 G1.out M.out (Mo.kinds m1 (by decide)) m1)
                go_wp2_with fail
                refine YG.out.mono ?_
                rintro e W2 ⟨rfl, B2, T2, v2, F2, v2', g2, q2⟩
                have G2 := Hid.intro g2
                have Q2 := Hid.intro q2
                clear g2 q2
                go_wp2_with fail
                go_meet
                case rel => exact ⟨b, B2, T2, v2, v2', F2, rfl, rfl, G2, Q2⟩
              · have m1' : (kd.toList == [109, 97, 107, 101]) = false := by simpa using m1
                clear m1
                by_cases m2 : (kd.toList == [114, 101, 109, 111, 118, 101]) = true
                · as_aux_lemma =>
                  have YG := Hid.intro (mgrown_remove w W1 f b g m B T v v' F kd A B' C K On S1 T1 G1.out M.out (Mo.kinds m2 (by decide)) m1' (Mo.kinds m2 (by decide)) m2)
                  go_wp2_with fail
                  refine YG.out.mono ?_
                  rintro e W2 ⟨rfl, B2, T2, v2, F2, v2', g2, q2⟩
                  have G2 := Hid.intro g2
                  have Q2 := Hid.intro q2
                  clear g2 q2
                  go_wp2_with fail
                  go_meet
                  case rel => exact ⟨b, B2, T2, v2, v2', F2, rfl, rfl, G2, Q2⟩
                · have m2' : (kd.toList == [114, 101, 109, 111, 118, 101]) = false := by simpa using m2
                  clear m2
                  by_cases m3 : (kd.toList == [109, 111, 118, 101]) = true
                  · as_aux_lemma =>
                    have YG := Hid.intro (mgrown_move w W1 f b g m B T v v' F kd A B' C K On S1 T1 G1.out M.out (Mo.kinds m3 (by decide)) m1' (Mo.kinds m3 (by decide)) m2' m3)
                    go_wp2_with fail
                    refine YG.out.mono ?_
                    rintro e W2 ⟨rfl, B2, T2, v2, F2, v2', g2, q2⟩
                    have G2 := Hid.intro g2
                    have Q2 := Hid.intro q2
                    clear g2 q2
                    go_wp2_with fail
                    go_meet
                    case rel => exact ⟨b, B2, T2, v2, v2', F2, rfl, rfl, G2, Q2⟩
                  · have m3' : (kd.toList == [109, 111, 118, 101]) = false := by simpa using m3
                    clear m3
                    by_cases m4 : (kd.toList == [99, 111, 112, 121]) = true
                    · as_aux_lemma =>
                      have CF := Hid.intro (Mo.copy_facts M.out)
                      go_wp2_with fail
                      refine (copy_any w.heap.size b f 13 T v F _ G1.out.ct G1.out.co M.out.pi.hb (by decide)).mono ?_
                      rintro e W2 ⟨c, v2, rfl, lc, t2, f2, k2⟩
                      have S2 := Hid.intro (And.intro (G1.out.ct.ofF G1.out.co k2) (And.intro f2 (And.intro t2 (And.intro lc (Onl.of_frm (S := BF b f) k2 (.inr rfl))))))
                      clear lc t2 f2 k2
                      by_cases e0 : Tr.rootE (Mo.hoA F T) 1 = 0
                      · obtain ⟨hb3, eq3⟩ := CF.out.2.2 e0
                        have E3 := Hid.intro eq3
                        have HB3 := Hid.intro hb3
                        clear hb3 eq3
                        go_wp2_with fail
                        refine (pivot_yes w.heap.size b f 26 T v (Mo.hoA F T) 1 _ S2.out.1 S2.out.2.1 e0 CF.out.1 (by decide)).mono ?_
                        rintro e W3 ⟨rfl, t3, f3, k3⟩
                        have S3 := Hid.intro (And.intro t3 (And.intro f3 k3))
                        clear t3 f3 k3 e0
                        generalize Tr.rootN (Mo.hoA F T) 1 = r at *
                        go_wp2_with fail
                        refine (close_any w.heap.size b f 14 _ _ _ _ S3.out.1 S3.out.2.1 HB3.out (by decide)).mono ?_
                        rintro e W4 ⟨rfl, f4, k4⟩
                        have FIN : Hid (∃ B2, MS w W4 f c g m B2 T v2 F T v' F) := Hid.intro (G1.out.copied (by rw [← E3.out]; exact f4) (S2.out.2.2.1.kept S2.out.2.2.2.1 G1.out.ct.lt G1.out.co.lt (S3.out.2.2.trans k4)) (S2.out.2.2.2.2.trans (S3.out.2.2.trans k4)) S2.out.2.2.2.1)
                        clear f4 k4
                        go_wp2_with fail
                        obtain ⟨B2, g2⟩ := FIN.out
                        have G2 := Hid.intro g2
                        clear g2
                        go_meet
                        case rel => exact ⟨c, B2, T, v2, v', F, rfl, rfl, G2, M⟩
                      · go_wp2_with fail
                        refine (pivot_no w.heap.size b f T v (Mo.hoA F T) 1 _ S2.out.1 S2.out.2.1 e0).mono ?_
                        rintro e W3 ⟨rfl, k3⟩
                        have S3 := Hid.intro (And.intro (S2.out.1.below k3) (And.intro (S2.out.2.1.below k3) (Onl.of_below (S := BF b f) k3)))
                        clear k3
                        generalize errV (Tr.rootE (Mo.hoA F T) 1) = ev
                        clear e0
                        go_wp2_with fail
                        refine (close_any w.heap.size b f 26 T v (Mo.hoA F T) _ S3.out.1 S3.out.2.1 CF.out.1 (by decide)).mono ?_
                        rintro e W4 ⟨rfl, f4, k4⟩
                        have FIN : Hid (∃ B2, MS w W4 f c g m B2 T v2 F T v' F) := Hid.intro (G1.out.copied (by have := CF.out.2.1; rw [this] at f4; exact f4) (S2.out.2.2.1.kept S2.out.2.2.2.1 G1.out.ct.lt G1.out.co.lt (S3.out.2.2.trans k4)) (S2.out.2.2.2.2.trans (S3.out.2.2.trans k4)) S2.out.2.2.2.1)
                        clear f4 k4
                        go_wp2_with fail
                        obtain ⟨B2, g2⟩ := FIN.out
                        have G2 := Hid.intro g2
                        clear g2
                        go_meet
                        case rel => exact ⟨c, B2, T, v2, v', F, rfl, rfl, G2, M⟩
                    · have m4' : (kd.toList == [99, 111, 112, 121]) = false := by simpa using m4
                      clear m4
                      as_aux_lemma =>
                      have YM : Hid (Calls Tryz.prog 17 #[.pointer (some ⟨b, 0, none⟩), .pointer (some ⟨m, 0, none⟩), .agg (acA kd A B' C K On S1 T1)] W1 fun e w' => MP w f b g m e w') := Hid.intro (by
                        by_cases y1 : (kd.toList == [98, 105, 110, 100]) = true
                        · exact mounted_bind w W1 f b g m B T v v' F kd A B' C K On S1 T1 G1.out M.out y1
                        · have y1' : (kd.toList == [98, 105, 110, 100]) = false := by simpa using y1
                          by_cases y2 : (kd.toList == [117, 110, 98, 105, 110, 100]) = true
                          · exact mounted_unbind w W1 f b g m B T v v' F kd A B' C K On S1 T1 G1.out M.out y1' y2
                          · have y2' : (kd.toList == [117, 110, 98, 105, 110, 100]) = false := by simpa using y2
                            by_cases y3 : (kd.toList == [112, 105, 118, 111, 116]) = true
                            · exact mounted_pivot w W1 f b g m B T v v' F kd A B' C K On S1 T1 G1.out M.out y1' y2' y3
                            · exact mounted_walk w W1 f b g m B T v v' F kd A B' C K On S1 T1 G1.out M.out y1' y2' (by simpa using y3))
                      go_wp2_with fail
                      refine YM.out.mono ?_
                      rintro e W2 ⟨rfl, B2, T2, v2, F2, v2', g2, q2⟩
                      have G2 := Hid.intro g2
                      have Q2 := Hid.intro q2
                      clear g2 q2
                      go_wp2_with fail
                      go_meet
                      case rel => exact ⟨b, B2, T2, v2, v2', F2, rfl, rfl, G2, Q2⟩
            clear G1 M x0 x1 x2 x3 x4 x5 x6 x7
            clear B T v v' F
            obtain ⟨b2, B2, T2, v2, v2', F2, rfl, rfl, G2, M2⟩ := hcut
            have GA : Hid (∀ V, MS w V f b2 g m B2 T2 v2 F2 T2 v2' F2 → GR V V f g B2 F2 F2 ∧ PF 13 F2) := Hid.intro (fun V h => ⟨⟨Below.refl _ _, h.co, h.rm.fo, trivial⟩, M2.out.pi.ok, M2.out.pi.hb, M2.out.zb⟩)
            obtain ⟨va, vc, hv⟩ := G2.out.rm.tb.row.sl
            obtain ⟨N, hN⟩ : ∃ N, T2.ms.length = N := ⟨_, rfl⟩
            rw [hN] at hv
            subst hv
            have KF : Hid (∀ V, MS w V f b2 g m B2 T2 v2 F2 T2 (.slice va N vc) F2 → V.cell? ⟨m, 1, none⟩ = some (.int .i64 T2.rt.1) ∧ V.cell? ⟨m, 2, none⟩ = some (.int .i64 T2.rt.2) ∧ V.cell? ⟨m, 3, none⟩ = some (.slice va N vc)) := Hid.intro (fun V h => ⟨h.rm.tb.c1, h.rm.tb.c2, h.rm.tb.c3⟩)
            have K0 := Hid.intro (KF.out wc G2.out)
            clear hN
            go_upto_region 36 with fail
            by_cases j9 : j % 9 = 0
            · as_aux_lemma =>
              have j9I : (j : Int).tmod 9 = 0 := by rw [Int.tmod_eq_emod_of_nonneg (by omega)]; omega
              clear j9
              go_region_held3 (fun w' => w'.cell? ⟨m, 1, none⟩ = some (.int .i64 T2.rt.1) ∧ w'.cell? ⟨m, 2, none⟩ = some (.int .i64 T2.rt.2) ∧ w'.cell? ⟨m, 3, none⟩ = some (.slice va N vc)) (first | exact K0.out | exact K4.out | exact K5.out | exact K6.out | exact K7.out) ((first | (go_at_call 18; refine (root_any _ b2 f T2 v2 _ G2.out.drew.ct).mono ?_; rintro e w4 ⟨rfl, b4⟩; have G4 := Hid.intro (G2.out.drew.below b4); have K4 := Hid.intro (KF.out w4 G4.out); clear b4) | (go_at_call 20; refine (mounts_any _ b2 f T2 v2 _ G4.out.ct).mono ?_; rintro e w5 ⟨v5, rfl, r5, b5⟩; have G5 := Hid.intro (And.intro (G4.out.below b5) r5); have K5 := Hid.intro (KF.out w5 G5.out.1); clear b5 r5) | (go_at_call 19; refine (sameM_any _ _ T2.ms v5 _ _ G5.out.2 G5.out.1.rm.tb.row G5.out.1.rm.tb.six).mono ?_; rintro e w6 ⟨rfl, k6, hw6⟩; have G6 : Hid (MS w w6 f b2 g m B2 T2 v2 F2 T2 (.slice va N vc) F2) := Hid.intro (by rw [hw6]; exact G5.out.1.below ⟨rfl, rfl, rfl, Nat.le_refl _, fun _ _ => rfl⟩); have K6 := Hid.intro (KF.out w6 G6.out); clear hw6) | (go_at_call 21; refine (asForestR_any w6 w6 f g B2 13 F2 (GA.out w6 G6.out).1 (GA.out w6 G6.out).2).mono ?_; rintro e w7 ⟨rfl, g7⟩; have G7 := Hid.intro (G6.out.below g7.1); have K7 := Hid.intro (KF.out w7 G7.out); clear g7)))
              go_wp2_with fail
              go_roundw
              case rel => exact ⟨b2, j + 1, B2, T2, v2, _, F2, rfl, by go_num, by omega, G7, M2⟩
              case measure => simp [intOf]; omega
            · as_aux_lemma =>
              have j9I : ((j : Int).tmod 9 == 0) = false := by rw [Int.tmod_eq_emod_of_nonneg (by omega)]; simp; omega
              have j9J : ¬ (j : Int).tmod 9 = 0 := by rw [Int.tmod_eq_emod_of_nonneg (by omega)]; omega
              have j9K : ((j : Int) % 9 == 0) = false := by simp; omega
              have j9L : ¬ (9 : Int) ∣ (j : Int) := by omega
              have j9M : ¬ 9 ∣ j := by omega
              have j9N : decide ((j : Int) % 9 = 0) = false := decide_eq_false (by omega)
              have j9O : decide (j % 9 = 0) = false := decide_eq_false j9
              have j9P : (j % 9 == 0) = false := by simp; omega
              have j9Q : IntKind.i64.wrap ((j : Int).tmod 9) = (j : Int).tmod 9 := IntWalk.i64_in _ (by rw [Int.tmod_eq_emod_of_nonneg (by omega)]; constructor <;> omega)
              clear j9
              -- FALSE-ARM-BEGIN
              refine wp_region_held_drew (S := (fun w' => w'.cell? ⟨m, 1, none⟩ = some (.int .i64 T2.rt.1) ∧ w'.cell? ⟨m, 2, none⟩ = some (.int .i64 T2.rt.2) ∧ w'.cell? ⟨m, 3, none⟩ = some (.slice va N vc))) (by kernel_rfl) K0.out (fun hHeld => ?_)
              refine Mo.take_h (i := 0) (d := 107) (v := ?v0) rfl rfl (by kernel_rfl) (by kernel_rfl) (by kernel_rfl) (fun _ _ _ h => h) (Or.inl ⟨by rfl, ?hy0⟩) (by assumption) ?rest0
              case hy0 => first | (intro w hSw; (try dsimp only at hSw); go_simp; done) | (intro w hSw; (try dsimp only at hSw); go_simp; with_reducible rfl)
              try simp only [Act.put, List.setIfInBounds_toArray, List.set_cons_zero, List.set_cons_succ]
              refine Mo.take_h (i := 1) (d := 108) (v := ?v1) rfl rfl (by kernel_rfl) (by kernel_rfl) (by kernel_rfl) (fun _ _ _ h => h) (Or.inl ⟨by rfl, ?hy1⟩) (by assumption) ?rest1
              case hy1 => first | (intro w hSw; (try dsimp only at hSw); go_simp; done) | (intro w hSw; (try dsimp only at hSw); go_simp; with_reducible rfl)
              try simp only [Act.put, List.setIfInBounds_toArray, List.set_cons_zero, List.set_cons_succ]
              refine Mo.take_h (i := 2) (d := 109) (v := ?v2) rfl rfl (by kernel_rfl) (by kernel_rfl) (by kernel_rfl) (fun _ _ _ h => h) (Or.inl ⟨by rfl, ?hy2⟩) (by assumption) ?rest2
              case hy2 => first | (intro w hSw; (try dsimp only at hSw); go_simp; done) | (intro w hSw; (try dsimp only at hSw); go_simp; with_reducible rfl)
              try simp only [Act.put, List.setIfInBounds_toArray, List.set_cons_zero, List.set_cons_succ]
              refine Mo.take_h (i := 3) (d := 110) (v := ?v3) rfl rfl (by kernel_rfl) (by kernel_rfl) (by kernel_rfl) (fun _ _ _ h => h) (Or.inl ⟨by rfl, ?hy3⟩) (by assumption) ?rest3
              case hy3 => first | (intro w hSw; (try dsimp only at hSw); go_simp; done) | (intro w hSw; (try dsimp only at hSw); go_simp; with_reducible rfl)
              try simp only [Act.put, List.setIfInBounds_toArray, List.set_cons_zero, List.set_cons_succ]
              refine Mo.take_h (i := 5) (d := 112) (v := ?v5) rfl rfl (by kernel_rfl) (by kernel_rfl) (by kernel_rfl) (fun _ _ _ h => h) (Or.inl ⟨by rfl, ?hy5⟩) (by assumption) ?rest5
              case hy5 => first | (intro w hSw; (try dsimp only at hSw); go_simp; done) | (intro w hSw; (try dsimp only at hSw); go_simp; with_reducible rfl)
              try simp only [Act.put, List.setIfInBounds_toArray, List.set_cons_zero, List.set_cons_succ]
              refine Mo.take_h (i := 6) (d := 113) (v := ?v6) rfl rfl (by kernel_rfl) (by kernel_rfl) (by kernel_rfl) (fun _ _ _ h => h) (Or.inl ⟨by rfl, ?hy6⟩) (by assumption) ?rest6
              case hy6 => first | (intro w hSw; (try dsimp only at hSw); go_simp; done) | (intro w hSw; (try dsimp only at hSw); go_simp; with_reducible rfl)
              try simp only [Act.put, List.setIfInBounds_toArray, List.set_cons_zero, List.set_cons_succ]
              refine Mo.take_h (i := 7) (d := 114) (v := ?v7) rfl rfl (by kernel_rfl) (by kernel_rfl) (by kernel_rfl) (fun _ _ _ h => h) (Or.inl ⟨by rfl, ?hy7⟩) (by assumption) ?rest7
              case hy7 => first | (intro w hSw; (try dsimp only at hSw); go_simp; done) | (intro w hSw; (try dsimp only at hSw); go_simp; with_reducible rfl)
              try simp only [Act.put, List.setIfInBounds_toArray, List.set_cons_zero, List.set_cons_succ]
              refine Mo.take_h (i := 8) (d := 115) (v := ?v8) rfl rfl (by kernel_rfl) (by kernel_rfl) (by kernel_rfl) (fun _ _ _ h => h) (Or.inl ⟨by rfl, ?hy8⟩) (by assumption) ?rest8
              case hy8 => first | (intro w hSw; (try dsimp only at hSw); go_simp; done) | (intro w hSw; (try dsimp only at hSw); go_simp; with_reducible rfl)
              try simp only [Act.put, List.setIfInBounds_toArray, List.set_cons_zero, List.set_cons_succ]
              refine wpAnyH_ready (rs := [4]) (by kernel_rfl) (by simp) ?_
              refine AllReadyH.cons rfl (fun K hK => ?_) AllReadyH.nil
              go_simp
              refine (root_any _ b2 f T2 v2 _ G2.out.drew.ct).mono ?_; rintro e w4 ⟨rfl, b4⟩; have G4 := Hid.intro (G2.out.drew.below b4); have K4 := Hid.intro (KF.out w4 G4.out); clear b4
              go_wp2_with fail
              refine hK.out _ _ K4.out (fun hHeld => ?_)
              clear hK K
              try simp only [Act.put, List.setIfInBounds_toArray, List.set_cons_zero, List.set_cons_succ]
              refine Mo.take_h (i := 9) (d := 116) (v := ?v9) rfl rfl (by kernel_rfl) (by kernel_rfl) (by kernel_rfl) (fun _ _ _ h => h) (Or.inl ⟨by rfl, ?hy9⟩) (by assumption) ?rest9
              case hy9 => first | (intro w hSw; (try dsimp only at hSw); go_simp; done) | (intro w hSw; (try dsimp only at hSw); go_simp; with_reducible rfl)
              try simp only [Act.put, List.setIfInBounds_toArray, List.set_cons_zero, List.set_cons_succ]
              refine Mo.take_h (i := 10) (d := 117) (v := ?v10) rfl rfl (by kernel_rfl) (by kernel_rfl) (by kernel_rfl) (fun _ _ _ h => h) (Or.inl ⟨by rfl, ?hy10⟩) (by assumption) ?rest10
              case hy10 => first | (intro w hSw; (try dsimp only at hSw); go_simp; done) | (intro w hSw; (try dsimp only at hSw); go_simp; with_reducible rfl)
              try simp only [Act.put, List.setIfInBounds_toArray, List.set_cons_zero, List.set_cons_succ]
              refine Mo.take_h (i := 11) (d := 118) (v := ?v11) rfl rfl (by kernel_rfl) (by kernel_rfl) (by kernel_rfl) (fun _ _ _ h => h) (Or.inl ⟨by rfl, ?hy11⟩) (by assumption) ?rest11
              case hy11 => first | (intro w hSw; (try dsimp only at hSw); go_simp; done) | (intro w hSw; (try dsimp only at hSw); go_simp; with_reducible rfl)
              try simp only [Act.put, List.setIfInBounds_toArray, List.set_cons_zero, List.set_cons_succ]
              refine Mo.take_h (i := 12) (d := 119) (v := ?v12) rfl rfl (by kernel_rfl) (by kernel_rfl) (by kernel_rfl) (fun _ _ _ h => h) (Or.inl ⟨by rfl, ?hy12⟩) (by assumption) ?rest12
              case hy12 => first | (intro w hSw; (try dsimp only at hSw); go_simp; done) | (intro w hSw; (try dsimp only at hSw); go_simp; with_reducible rfl)
              try simp only [Act.put, List.setIfInBounds_toArray, List.set_cons_zero, List.set_cons_succ]
              refine Mo.take_h (i := 14) (d := 121) (v := ?v14) rfl rfl (by kernel_rfl) (by kernel_rfl) (by kernel_rfl) (fun _ _ _ h => h) (Or.inl ⟨by rfl, ?hy14⟩) (by assumption) ?rest14
              case hy14 => first | (intro w hSw; (try dsimp only at hSw); go_simp; done) | (intro w hSw; (try dsimp only at hSw); go_simp; with_reducible rfl)
              try simp only [Act.put, List.setIfInBounds_toArray, List.set_cons_zero, List.set_cons_succ]
              refine Mo.take_h (i := 15) (d := 122) (v := ?v15) rfl rfl (by kernel_rfl) (by kernel_rfl) (by kernel_rfl) (fun _ _ _ h => h) (Or.inl ⟨by rfl, ?hy15⟩) (by assumption) ?rest15
              case hy15 => first | (intro w hSw; (try dsimp only at hSw); go_simp; done) | (intro w hSw; (try dsimp only at hSw); go_simp; with_reducible rfl)
              try simp only [Act.put, List.setIfInBounds_toArray, List.set_cons_zero, List.set_cons_succ]
              refine Mo.take_h (i := 16) (d := 123) (v := ?v16) rfl rfl (by kernel_rfl) (by kernel_rfl) (by kernel_rfl) (fun _ _ _ h => h) (Or.inl ⟨by rfl, ?hy16⟩) (by assumption) ?rest16
              case hy16 => first | (intro w hSw; (try dsimp only at hSw); go_simp; done) | (intro w hSw; (try dsimp only at hSw); go_simp; with_reducible rfl)
              try simp only [Act.put, List.setIfInBounds_toArray, List.set_cons_zero, List.set_cons_succ]
              refine Mo.take_h (i := 17) (d := 124) (v := ?v17) rfl rfl (by kernel_rfl) (by kernel_rfl) (by kernel_rfl) (fun _ _ _ h => h) (Or.inl ⟨by rfl, ?hy17⟩) (by assumption) ?rest17
              case hy17 => first | (intro w hSw; (try dsimp only at hSw); go_simp; done) | (intro w hSw; (try dsimp only at hSw); go_simp; with_reducible rfl)
              try simp only [Act.put, List.setIfInBounds_toArray, List.set_cons_zero, List.set_cons_succ]
              refine wpAnyH_ready (rs := [13]) (by kernel_rfl) (by simp) ?_
              refine AllReadyH.cons rfl (fun K hK => ?_) AllReadyH.nil
              go_simp
              refine (mounts_any _ b2 f T2 v2 _ G4.out.ct).mono ?_; rintro e w5 ⟨v5, rfl, r5, b5⟩; have G5 := Hid.intro (And.intro (G4.out.below b5) r5); have K5 := Hid.intro (KF.out w5 G5.out.1); clear b5 r5
              go_wp2_with fail
              refine hK.out _ _ K5.out (fun hHeld => ?_)
              clear hK K
              try simp only [Act.put, List.setIfInBounds_toArray, List.set_cons_zero, List.set_cons_succ]
              refine wpAnyH_ready (rs := [18]) (by kernel_rfl) (by simp) ?_
              refine AllReadyH.cons rfl (fun K hK => ?_) AllReadyH.nil
              go_simp
              refine (sameM_any _ _ T2.ms v5 _ _ G5.out.2 G5.out.1.rm.tb.row G5.out.1.rm.tb.six).mono ?_; rintro e w6 ⟨rfl, k6, hw6⟩; have G6 : Hid (MS w w6 f b2 g m B2 T2 v2 F2 T2 (.slice va N vc) F2) := Hid.intro (by rw [hw6]; exact G5.out.1.below ⟨rfl, rfl, rfl, Nat.le_refl _, fun _ _ => rfl⟩); have K6 := Hid.intro (KF.out w6 G6.out); clear hw6
              go_wp2_with fail
              refine hK.out _ _ K6.out (fun hHeld => ?_)
              clear hK K
              try simp only [Act.put, List.setIfInBounds_toArray, List.set_cons_zero, List.set_cons_succ]
              refine Mo.take_h (i := 19) (d := 126) (v := ?v19) rfl rfl (by kernel_rfl) (by kernel_rfl) (by kernel_rfl) (fun _ _ _ h => h) (Or.inl ⟨by rfl, ?hy19⟩) (by assumption) ?rest19
              case hy19 => first | (intro w hSw; (try dsimp only at hSw); go_simp; done) | (intro w hSw; (try dsimp only at hSw); go_simp; with_reducible rfl)
              try simp only [Act.put, List.setIfInBounds_toArray, List.set_cons_zero, List.set_cons_succ]
              refine Mo.take_h (i := 20) (d := 127) (v := ?v20) rfl rfl (by kernel_rfl) (by kernel_rfl) (by kernel_rfl) (fun _ _ _ h => h) (Or.inl ⟨by rfl, ?hy20⟩) (by assumption) ?rest20
              case hy20 => first | (intro w hSw; (try dsimp only at hSw); go_simp; done) | (intro w hSw; (try dsimp only at hSw); go_simp; with_reducible rfl)
              try simp only [Act.put, List.setIfInBounds_toArray, List.set_cons_zero, List.set_cons_succ]
              refine Mo.take_h (i := 21) (d := 128) (v := ?v21) rfl rfl (by kernel_rfl) (by kernel_rfl) (by kernel_rfl) (fun _ _ _ h => h) (Or.inl ⟨by rfl, ?hy21⟩) (by assumption) ?rest21
              case hy21 => first | (intro w hSw; (try dsimp only at hSw); go_simp; done) | (intro w hSw; (try dsimp only at hSw); go_simp; with_reducible rfl)
              try simp only [Act.put, List.setIfInBounds_toArray, List.set_cons_zero, List.set_cons_succ]
              refine Mo.take_h (i := 22) (d := 129) (v := ?v22) rfl rfl (by kernel_rfl) (by kernel_rfl) (by kernel_rfl) (fun _ _ _ h => h) (Or.inl ⟨by rfl, ?hy22⟩) (by assumption) ?rest22
              case hy22 => first | (intro w hSw; (try dsimp only at hSw); go_simp; done) | (intro w hSw; (try dsimp only at hSw); go_simp; with_reducible rfl)
              try simp only [Act.put, List.setIfInBounds_toArray, List.set_cons_zero, List.set_cons_succ]
              refine Mo.take_h (i := 23) (d := 130) (v := ?v23) rfl rfl (by kernel_rfl) (by kernel_rfl) (by kernel_rfl) (fun _ _ _ h => h) (Or.inl ⟨by rfl, ?hy23⟩) (by assumption) ?rest23
              case hy23 => first | (intro w hSw; (try dsimp only at hSw); go_simp; done) | (intro w hSw; (try dsimp only at hSw); go_simp; with_reducible rfl)
              try simp only [Act.put, List.setIfInBounds_toArray, List.set_cons_zero, List.set_cons_succ]
              refine Mo.take_h (i := 24) (d := 131) (v := ?v24) rfl rfl (by kernel_rfl) (by kernel_rfl) (by kernel_rfl) (fun _ _ _ h => h) (Or.inl ⟨by rfl, ?hy24⟩) (by assumption) ?rest24
              case hy24 => first | (intro w hSw; (try dsimp only at hSw); go_simp; done) | (intro w hSw; (try dsimp only at hSw); go_simp; with_reducible rfl)
              try simp only [Act.put, List.setIfInBounds_toArray, List.set_cons_zero, List.set_cons_succ]
              refine Mo.take_h (i := 25) (d := 132) (v := ?v25) rfl rfl (by kernel_rfl) (by kernel_rfl) (by kernel_rfl) (fun _ _ _ h => h) (Or.inl ⟨by rfl, ?hy25⟩) (by assumption) ?rest25
              case hy25 => first | (intro w hSw; (try dsimp only at hSw); go_simp; done) | (intro w hSw; (try dsimp only at hSw); go_simp; with_reducible rfl)
              try simp only [Act.put, List.setIfInBounds_toArray, List.set_cons_zero, List.set_cons_succ]
              refine Mo.take_h (i := 26) (d := 133) (v := undef) rfl rfl (by kernel_rfl) (by kernel_rfl) (by kernel_rfl) (fun _ _ _ h => h) (Or.inr ⟨by rfl, rfl⟩) (by assumption) ?_
              try simp only [Act.put, List.setIfInBounds_toArray, List.set_cons_zero, List.set_cons_succ]
              refine Mo.take_h (i := 27) (d := 134) (v := undef) rfl rfl (by kernel_rfl) (by kernel_rfl) (by kernel_rfl) (fun _ _ _ h => h) (Or.inr ⟨by rfl, rfl⟩) (by assumption) ?_
              try simp only [Act.put, List.setIfInBounds_toArray, List.set_cons_zero, List.set_cons_succ]
              refine Mo.take_h (i := 28) (d := 135) (v := undef) rfl rfl (by kernel_rfl) (by kernel_rfl) (by kernel_rfl) (fun _ _ _ h => h) (Or.inr ⟨by rfl, rfl⟩) (by assumption) ?_
              try simp only [Act.put, List.setIfInBounds_toArray, List.set_cons_zero, List.set_cons_succ]
              refine Mo.take_h (i := 29) (d := 136) (v := undef) rfl rfl (by kernel_rfl) (by kernel_rfl) (by kernel_rfl) (fun _ _ _ h => h) (Or.inr ⟨by rfl, rfl⟩) (by assumption) ?_
              try simp only [Act.put, List.setIfInBounds_toArray, List.set_cons_zero, List.set_cons_succ]
              refine Mo.take_h (i := 30) (d := 137) (v := ?v30) rfl rfl (by kernel_rfl) (by kernel_rfl) (by kernel_rfl) (fun _ _ _ h => h) (Or.inl ⟨by rfl, ?hy30⟩) (by assumption) ?rest30
              case hy30 => first | (intro w hSw; (try dsimp only at hSw); go_simp; done) | (intro w hSw; (try dsimp only at hSw); go_simp; with_reducible rfl)
              try simp only [Act.put, List.setIfInBounds_toArray, List.set_cons_zero, List.set_cons_succ]
              refine Mo.take_h (i := 31) (d := 138) (v := ?v31) rfl rfl (by kernel_rfl) (by kernel_rfl) (by kernel_rfl) (fun _ _ _ h => h) (Or.inl ⟨by rfl, ?hy31⟩) (by assumption) ?rest31
              case hy31 => first | (intro w hSw; (try dsimp only at hSw); go_simp; done) | (intro w hSw; (try dsimp only at hSw); go_simp; with_reducible rfl)
              try simp only [Act.put, List.setIfInBounds_toArray, List.set_cons_zero, List.set_cons_succ]
              refine wpAnyH_done (by kernel_rfl) ?_ _
              -- FALSE-ARM-END
              go_wp2_with fail
              go_roundw
              case rel => exact ⟨b2, j + 1, B2, T2, v2, _, F2, rfl, by go_num, by omega, G6, M2⟩
              case measure => simp [intOf]; omega
          · have hltI : ¬ (j : Int) < (n0 : Int) := by omega
            have HL : Hid (GR wr wr f g B F F ∧ PF 13 F) := Hid.intro ⟨⟨Below.refl _ _, S.out.co, S.out.rm.fo, trivial⟩, M.out.pi.ok, M.out.pi.hb, M.out.zb⟩
            go_wp2_with fail
            refine (asForestR_any wr wr f g B 13 F HL.out.1 HL.out.2).mono ?_
            rintro e W8 ⟨rfl, g8⟩
            have G8 := Hid.intro (S.out.below g8.1).bel
            clear g8
            go_wp2_with fail
            go_ret
            exact ⟨rfl, G8.out⟩
      | (_ + 3), hj, S => exact absurd hj (by omega)
theorem ms_any (a0 : Option Addr) (n0 c0 : Nat) (w : World) (h : IsActs0 w a0 n0) :
    Calls Tryz.prog 3 #[.slice a0 n0 c0] w fun e w' => e = .returned (.bool true) ∧ Below w.heap.size w w' := by
  by_cases hn : n0 ≤ 100
  · by_cases h0 : 0 < n0
    · obtain ⟨b0, o0, ax, ha, hc⟩ := h.2 h0
      exact ms_near a0 b0 o0 n0 c0 ax w hn (fun _ => ha) hc
    · exact ms_near a0 0 0 n0 c0 (fun _ => ⟨⟨#[]⟩, 0, 0, 0, 0, false, ⟨#[]⟩, ⟨#[]⟩⟩) w hn (fun k => absurd k h0) (fun i hi => absurd hi (by omega))
  · exact ms_far a0 n0 c0 w (by omega)
end Go.Proofs.YthdadmbpnoofoaaGreatDoor

/- TopPipe: the acts. -/
import Derived.Test.YtddjjfapbbeahaaPe
namespace Go.Proofs.Ytddjjfapbbeahaa
open Go.RowKit
open Pp (Pi)

theorem Pp.ext_app (o T : ByteArray) : (o ++ T).extract 0 o.size = o := by
  rw [ByteArray.extract_append, ByteArray.extract_zero_size, Nat.zero_sub, Nat.sub_self, ByteArray.extract_same, ByteArray.append_empty]
theorem Pp.ext_two (T : ByteArray) (k : Nat) (h : k ≤ T.size) : T.extract 0 k ++ T.extract k T.size = T := by
  rw [ByteArray.extract_append_extract, Nat.zero_min, Nat.max_eq_right h, ByteArray.extract_zero_size]
theorem Pp.empty_of {s : ByteArray} (h : s.size = 0) : s = ⟨#[]⟩ := by
  apply ByteArray.ext
  exact Array.eq_empty_of_size_eq_zero h
theorem Pp.nonempty {s : ByteArray} (h : s.size ≠ 0) : (s.toList == []) = false := by
  rw [beq_eq_false_iff_ne]
  intro e
  rw [ByteArray.toList_eq] at e
  apply h
  show s.data.size = 0
  rw [← Array.length_toList, e]
  rfl
set_option maxRecDepth 100000 in
set_option maxHeartbeats 4000000 in
theorem tp_near (a0 : Option Addr) (b0 o0 n0 c0 : Nat) (ax : Nat → Act8) (w : World) (hn : n0 ≤ 150) (ha : 0 < n0 → a0 = some ⟨b0, o0, none⟩) (hc : ∀ i, i < n0 → ∀ j, j < 8 → w.cell? ⟨b0, o0 + i * 8 + j, none⟩ = some ((ax i).cell j)) :
    Calls Try.prog 4 #[.slice a0 n0 c0] w fun e w' => e = .returned (.bool true) ∧ Below w.heap.size w w' := by
  have d : decide ((n0 : Int) ≤ 150) = true := by simp; omega
  have H0 := Hid.intro hc
  have HA := Hid.intro ha
  clear hc ha
  go_enter Try.func4, Try.ntmps4
  go_upto_region 2 with (refine Pp.wp_buildS rfl rfl ?_)
  refine wp_gen (fun W' => PAt W' w.heap.size Pp.none ∧ Below w.heap.size w W') (pzero_alloc w) ?_
  rintro W1 ⟨f1, b1⟩
  have F1 := Hid.intro f1
  have B1 := Hid.intro b1
  clear f1 b1
  go_wp2_with fail
  refine (pmake_first w.heap.size _ F1.out).mono ?_
  rintro e W2 ⟨rfl, h2, f2⟩
  have S2 : Hid (TP w W2 w.heap.size ⟨#[]⟩) := Hid.intro ⟨f2.below B1.out (Nat.le_refl _) B1.out.size, h2, Nat.le_refl _⟩
  clear h2 f2 F1 B1
  go_wp2_with fail
  refine (ppipes_any w.heap.size _ _ S2.out.2.1).mono ?_
  rintro e W3 ⟨rfl, hW⟩
  subst W3
  rw [Pp.one_cnt]
  go_wp2_with fail
  refine (light_any _ _ _ _ _).mono ?_
  rintro e W4 ⟨rfl, hW⟩
  subst W4
  rw [d]
  clear d
  go_wp2_with fail
  have HC3 : Hid (∀ i, i < n0 → ∀ j, j < 8 → W2.cell? ⟨b0, o0 + i * 8 + j, none⟩ = some ((ax i).cell j)) := Hid.intro (fun i hi j hj => (S2.out.1.cell (p := ⟨b0, o0 + i * 8 + j, none⟩) (World.block_lt_of_cell? _ _ (H0.out i hi j hj))).trans (H0.out i hi j hj))
  refine (lightT_any a0 b0 o0 n0 c0 60 ax _ (by omega) HA.out HC3.out).mono ?_
  rintro e W4 ⟨v, rfl, hv, hW⟩
  subst W4
  rcases hv with rfl | ⟨rfl, hlt⟩
  · go_wp2_with fail
    go_ret
    exact ⟨rfl, S2.out.1⟩
  · have HLT := Hid.intro hlt
    obtain ⟨b, hb⟩ : ∃ b, w.heap.size = b := ⟨_, rfl⟩
    rw [hb] at S2
    clear hlt HC3
    rw [hb]
    have HB := Hid.intro hb
    clear hb
    go_wp2_with fail
    go_loopw [6, 7, 8, 9, 10, 11, 12] (fun iv ov i x y z u wr => ∃ (j : Nat) (O T V : ByteArray), i = .int .i64 j ∧ iv = .string V ∧ ov = .string O ∧ j ≤ n0 ∧ Hid (V = O ++ T) ∧ Hid (O.size + T.size ≤ 60 * j) ∧ Hid (TP w wr b T)) (fun _ _ i _ _ _ _ _ => n0 - (intOf i).toNat)
    case atStart => exact ⟨0, ⟨#[]⟩, ⟨#[]⟩, ⟨#[]⟩, rfl, rfl, rfl, by omega, Hid.intro rfl, Hid.intro (Nat.zero_le _), S2⟩
    case round =>
      clear S2
      obtain ⟨j, O, T, V, rfl, rfl, rfl, hj, HV, SZ, S⟩ := hrel
      by_cases hlt : j < n0
      · have hltI : (j : Int) < (n0 : Int) := by omega
        have hl := HLT.out j hlt
        obtain ⟨kd, A, B, C, K, On, S1, T1, hax⟩ : ∃ kd A B C K On S1 T1, ax j = ⟨kd, A, B, C, K, On, S1, T1⟩ := ⟨_, _, _, _, _, _, _, _, rfl⟩
        rw [hax] at hl
        have HL : Hid (S1.size ≤ 60) := Hid.intro (by have : (S1.size : Int) ≤ 60 := hl.1; omega)
        have bl : b0 < w.heap.size := World.block_lt_of_cell? _ _ (H0.out j hlt 0 (by omega))
        have hae := HA.out (by omega)
        subst hae
        have CL : Hid (∀ W, Below w.heap.size w W → W.cell? ⟨b0, o0 + j * 8, none⟩ = some (.string kd) ∧ W.cell? ⟨b0, o0 + j * 8 + 2, none⟩ = some (.int .i64 B) ∧ W.cell? ⟨b0, o0 + j * 8 + 6, none⟩ = some (.string S1)) := Hid.intro (fun W hW => by
          have cl : ∀ i, i < 8 → W.cell? ⟨b0, o0 + j * 8 + i, none⟩ = some ((⟨kd, A, B, C, K, On, S1, T1⟩ : Act8).cell i) := fun i hi => by
            rw [← hax]; exact (hW.cell (p := ⟨b0, o0 + j * 8 + i, none⟩) bl).trans (H0.out j hlt i hi)
          exact ⟨cl 0 (by omega), cl 2 (by omega), cl 6 (by omega)⟩)
        obtain ⟨c0', c2, c6⟩ := CL.out _ S.out.1
        clear hax bl hl
        by_cases m0 : (kd.toList == [119, 114, 105, 116, 101]) = true
        · go_wp2_with fail
          refine (pone_write b T S1 _ S.out.2.1 (by have := HL.out; omega)).mono ?_
          rintro e W5 h5
          rcases h5 with ⟨s0, rfl, h5, f5⟩ | ⟨k, rfl, hk, k0, h5, f5⟩
          · clear s0
            have S5 := Hid.intro (S.out.step h5 f5)
            clear h5 f5 S c0' c2 c6
            obtain ⟨c0x, c2x, c6x⟩ := CL.out _ S5.out.1
            have h12 : T.size ≤ 12 := S5.out.2.1.small 0 (by omega)
            have zz := SZ.out
            have sV : V.size = O.size + T.size := by rw [HV.out, ByteArray.size_append]
            have xI : V.extract 0 O.size = O := by rw [HV.out]; exact Pp.ext_app _ _
            have NS : Hid (O.size + T.size ≤ 60 * (j + 1)) := Hid.intro (by omega)
            have lim : ¬ 9223372036854775807 < V.size := by omega
            have q1 : ¬ (S1.size : Int) < 0 := by omega
            have g1 : ¬ (V.size : Int) < (O.size : Int) := by omega
            have g2 : IntKind.i64.wrap ((V.size : Int) - (O.size : Int)) = (V.size : Int) - (O.size : Int) := IntWalk.i64_in _ ⟨by omega, by omega⟩
            have g3 : ¬ 12 < (V.size : Int) - (O.size : Int) := by omega
            have g4 : (O.size : Int) ≤ (V.size : Int) := by omega
            clear zz sV h12
            go_wp2_with fail
            go_roundw
            case rel => exact ⟨j + 1, O, T, V, by go_num, rfl, rfl, by omega, HV, NS, S5⟩
            case measure => simp [intOf]; omega
          · have S5 := Hid.intro (S.out.step h5 f5)
            clear h5 f5 S c0' c2 c6
            by_cases kz : k = 0
            · have q0 : (S1.toList == []) = true := by rw [Pp.empty_of (k0 kz), ByteArray.toList_eq]; rfl
              have q1 : ((k : Int) == 0) = true := by simp; omega
              have q2 : ¬ (S1.size : Int) < (k : Int) := by omega
              have q3 : (k : Int) ≤ (S1.size : Int) := by omega
              clear k0 kz
              obtain ⟨c0x, c2x, c6x⟩ := CL.out _ S5.out.1
              have h12 : (T ++ S1.extract 0 k).size ≤ 12 := S5.out.2.1.small 0 (by omega)
              have zz := SZ.out
              have hS1 := HL.out
              have e1 : (S1.extract 0 k).size = k := by rw [ByteArray.size_extract]; omega
              rw [ByteArray.size_append, e1] at h12
              have NS : Hid (O.size + (T ++ S1.extract 0 k).size ≤ 60 * (j + 1)) := Hid.intro (by rw [ByteArray.size_append, e1]; omega)
              have sV : V.size = O.size + T.size := by rw [HV.out, ByteArray.size_append]
              obtain ⟨IN, hIN⟩ : ∃ IN, V ++ S1.extract 0 k = IN := ⟨_, rfl⟩
              have HN : Hid (IN = O ++ (T ++ S1.extract 0 k)) := Hid.intro (by rw [← hIN, HV.out, ByteArray.append_assoc])
              have sI : IN.size = O.size + T.size + k := by rw [← hIN, ByteArray.size_append, e1, sV]
              have xI : IN.extract 0 O.size = O := by rw [HN.out]; exact Pp.ext_app _ _
              have mk : min k S1.size = k := by omega
              have lim : ¬ 9223372036854775807 < V.size + k := by omega
              have g1 : ¬ (IN.size : Int) < (O.size : Int) := by omega
              have g2 : IntKind.i64.wrap ((IN.size : Int) - (O.size : Int)) = (IN.size : Int) - (O.size : Int) := IntWalk.i64_in _ ⟨by omega, by omega⟩
              have g3 : ¬ 12 < (IN.size : Int) - (O.size : Int) := by omega
              have g4 : (O.size : Int) ≤ (IN.size : Int) := by omega
              clear zz sV h12 e1 sI
              go_wp2_with fail
              go_roundw
              case rel => exact ⟨j + 1, O, T ++ S1.extract 0 k, IN, by go_num, rfl, rfl, by omega, HN, NS, S5⟩
              case measure => simp [intOf]; omega
            · have q0 := Pp.nonempty (s := S1) (by omega)
              have q1 : ((k : Int) == 0) = false := by simp; omega
              have q2 : ¬ (S1.size : Int) < (k : Int) := by omega
              have q3 : (k : Int) ≤ (S1.size : Int) := by omega
              clear k0 kz
              obtain ⟨c0x, c2x, c6x⟩ := CL.out _ S5.out.1
              have h12 : (T ++ S1.extract 0 k).size ≤ 12 := S5.out.2.1.small 0 (by omega)
              have zz := SZ.out
              have hS1 := HL.out
              have e1 : (S1.extract 0 k).size = k := by rw [ByteArray.size_extract]; omega
              rw [ByteArray.size_append, e1] at h12
              have NS : Hid (O.size + (T ++ S1.extract 0 k).size ≤ 60 * (j + 1)) := Hid.intro (by rw [ByteArray.size_append, e1]; omega)
              have sV : V.size = O.size + T.size := by rw [HV.out, ByteArray.size_append]
              obtain ⟨IN, hIN⟩ : ∃ IN, V ++ S1.extract 0 k = IN := ⟨_, rfl⟩
              have HN : Hid (IN = O ++ (T ++ S1.extract 0 k)) := Hid.intro (by rw [← hIN, HV.out, ByteArray.append_assoc])
              have sI : IN.size = O.size + T.size + k := by rw [← hIN, ByteArray.size_append, e1, sV]
              have xI : IN.extract 0 O.size = O := by rw [HN.out]; exact Pp.ext_app _ _
              have mk : min k S1.size = k := by omega
              have lim : ¬ 9223372036854775807 < V.size + k := by omega
              have g1 : ¬ (IN.size : Int) < (O.size : Int) := by omega
              have g2 : IntKind.i64.wrap ((IN.size : Int) - (O.size : Int)) = (IN.size : Int) - (O.size : Int) := IntWalk.i64_in _ ⟨by omega, by omega⟩
              have g3 : ¬ 12 < (IN.size : Int) - (O.size : Int) := by omega
              have g4 : (O.size : Int) ≤ (IN.size : Int) := by omega
              clear zz sV h12 e1 sI
              go_wp2_with fail
              go_roundw
              case rel => exact ⟨j + 1, O, T ++ S1.extract 0 k, IN, by go_num, rfl, rfl, by omega, HN, NS, S5⟩
              case measure => simp [intOf]; omega
        · have m0' : (kd.toList == [119, 114, 105, 116, 101]) = false := by simpa using m0
          clear m0
          go_wp2_with fail
          refine (pone_read b T B _ S.out.2.1).mono ?_
          rintro e W5 h5
          rcases h5 with ⟨E, e0, rfl, h5, f5⟩ | ⟨k, B0, rfl, kB, kT, h5, f5⟩
          · clear e0
            have S5 := Hid.intro (S.out.step h5 f5)
            clear h5 f5 S c0' c2 c6
            obtain ⟨c0x, c2x, c6x⟩ := CL.out _ S5.out.1
            have h12 : T.size ≤ 12 := S5.out.2.1.small 0 (by omega)
            have zz := SZ.out
            have sV : V.size = O.size + T.size := by rw [HV.out, ByteArray.size_append]
            have xI : V.extract 0 O.size = O := by rw [HV.out]; exact Pp.ext_app _ _
            have NS : Hid (O.size + T.size ≤ 60 * (j + 1)) := Hid.intro (by omega)
            have lim : ¬ 9223372036854775807 < O.size := by omega
            have oe : O ++ ⟨#[]⟩ = O := ByteArray.append_empty
            have g1 : ¬ (V.size : Int) < (O.size : Int) := by omega
            have g2 : IntKind.i64.wrap ((V.size : Int) - (O.size : Int)) = (V.size : Int) - (O.size : Int) := IntWalk.i64_in _ ⟨by omega, by omega⟩
            have g3 : ¬ 12 < (V.size : Int) - (O.size : Int) := by omega
            have g4 : (O.size : Int) ≤ (V.size : Int) := by omega
            clear zz sV h12
            go_wp2_with fail
            go_roundw
            case rel => exact ⟨j + 1, O, T, V, by go_num, rfl, rfl, by omega, HV, NS, S5⟩
            case measure => simp [intOf]; omega
          · have S5 := Hid.intro (S.out.step h5 f5)
            have h12 : T.size ≤ 12 := S.out.2.1.small 0 (by omega)
            clear h5 f5 S c0' c2 c6
            obtain ⟨c0x, c2x, c6x⟩ := CL.out _ S5.out.1
            have zz := SZ.out
            have e1 : (T.extract 0 k).size = k := by rw [ByteArray.size_extract]; omega
            have e2 : (T.extract k T.size).size = T.size - k := by rw [ByteArray.size_extract, Nat.min_self]
            have sV : V.size = O.size + T.size := by rw [HV.out, ByteArray.size_append]
            obtain ⟨ON, hON⟩ : ∃ ON, O ++ T.extract 0 k = ON := ⟨_, rfl⟩
            have sO : ON.size = O.size + k := by rw [← hON, ByteArray.size_append, e1]
            have HN : Hid (V = ON ++ T.extract k T.size) := Hid.intro (by rw [← hON, ByteArray.append_assoc, Pp.ext_two T k kT]; exact HV.out)
            have xI : V.extract 0 ON.size = ON := by rw [HN.out]; exact Pp.ext_app _ _
            have NS : Hid (ON.size + (T.extract k T.size).size ≤ 60 * (j + 1)) := Hid.intro (by rw [e2]; omega)
            have mk : min k T.size = k := by omega
            have lim : ¬ 9223372036854775807 < O.size + k := by omega
            have q1 : max B 0 = B := by omega
            have q2 : (if B < 0 then 0 else B) = B := if_neg (by omega)
            have q3 : ¬ B < (k : Int) := by omega
            have g1 : ¬ (V.size : Int) < (ON.size : Int) := by omega
            have g2 : IntKind.i64.wrap ((V.size : Int) - (ON.size : Int)) = (V.size : Int) - (ON.size : Int) := IntWalk.i64_in _ ⟨by omega, by omega⟩
            have g3 : ¬ 12 < (V.size : Int) - (ON.size : Int) := by omega
            have g4 : (ON.size : Int) ≤ (V.size : Int) := by omega
            clear zz sV sO e1 e2 h12
            go_wp2_with fail
            go_roundw
            case rel => exact ⟨j + 1, ON, T.extract k T.size, V, by go_num, rfl, rfl, by omega, HN, NS, S5⟩
            case measure => simp [intOf]; omega
      · have hltI : ¬ (j : Int) < (n0 : Int) := by omega
        obtain rfl : j = n0 := by omega
        have zz := SZ.out
        have h12 : T.size ≤ 12 := S.out.2.1.small 0 (by omega)
        have ST := Hid.intro S.out.2.2
        have H12 := Hid.intro h12
        have lim : ¬ 9223372036854775807 < O.size + T.size := by omega
        have VV : V = O ++ T := HV.out
        have B0 := Hid.intro S.out.1
        clear zz h12
        go_wp2_with fail
        refine (pdrop_any b 0 true _ _ S.out.2.1 (Pp.tim_one T true)).mono ?_
        rintro e W6 ⟨rfl, h6, f6⟩
        rw [Pp.dro_one] at h6
        rw [Pp.one_op, errV_zero]
        have S6 := Hid.intro h6
        have B6 := Hid.intro (f6.below B0.out ST.out B0.out.size)
        clear h6 f6
        go_wp2_with fail
        refine (pread_any b 0 99 _ _ S6.out).mono ?_
        rintro e W7 ⟨rfl, h7, f7⟩
        rw [Pp.en_reaF T H12.out] at h7
        rw [Pp.en_reaT T H12.out, Pp.en_reaE, errV_zero]
        have S7 := Hid.intro h7
        have B7 := Hid.intro (f7.below B6.out ST.out B6.out.size)
        clear h7 f7
        go_wp2_with fail
        refine (pread_any b 0 99 _ _ S7.out).mono ?_
        rintro e W8 ⟨rfl, h8, f8⟩
        rw [Pp.en_reaF ⟨#[]⟩ (by decide)] at h8
        rw [Pp.en_reaT ⟨#[]⟩ (by decide), Pp.en_reaE, errV_zero]
        have S8 := Hid.intro h8
        have B8 := Hid.intro (f8.below B7.out ST.out B7.out.size)
        clear h8 f8
        go_wp2_with fail
        refine (pdrop_any b 0 false _ _ S8.out (Pp.tim_en _ false)).mono ?_
        rintro e W9 ⟨rfl, h9, f9⟩
        rw [Pp.dro_en] at h9
        rw [show Pp.opE (Pp.en ⟨#[]⟩) 0 false = 0 from rfl, errV_zero]
        have S9 := Hid.intro h9
        have B9 := Hid.intro (f9.below B8.out ST.out B8.out.size)
        clear h9 f9
        go_wp2_with fail
        refine (ppipes_any b _ _ S9.out).mono ?_
        rintro e W10 ⟨rfl, hW⟩
        subst W10
        rw [Pp.none_cnt]
        go_wp2_with fail
        go_ret
        exact ⟨rfl, B9.out⟩
theorem tp_any (a0 : Option Addr) (n0 c0 : Nat) (w : World) (h : IsActs0 w a0 n0) :
    Calls Try.prog 4 #[.slice a0 n0 c0] w fun e w' => e = .returned (.bool true) ∧ Below w.heap.size w w' := by
  by_cases hn : n0 ≤ 150
  · by_cases h0 : 0 < n0
    · obtain ⟨b0, o0, ax, ha, hc⟩ := h.2 h0
      exact tp_near a0 b0 o0 n0 c0 ax w hn (fun _ => ha) hc
    · exact tp_near a0 0 0 n0 c0 (fun _ => ⟨⟨#[]⟩, 0, 0, 0, 0, false, ⟨#[]⟩, ⟨#[]⟩⟩) w hn (fun h => absurd h h0) (fun i hi => absurd hi (by omega))
  · exact tp_far a0 n0 c0 w (by omega)
end Go.Proofs.Ytddjjfapbbeahaa

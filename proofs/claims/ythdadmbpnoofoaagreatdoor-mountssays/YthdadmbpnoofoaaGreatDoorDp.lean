/- MountsSays: an act on a table: walk. -/
import Derived.Test.YthdadmbpnoofoaaGreatDoorZa
namespace Go.Proofs.YthdadmbpnoofoaaGreatDoor
open Go.RowKit
open Tr (Fo Nd)
open Mo (Wh Mt Tb)

set_option maxRecDepth 100000 in
set_option maxHeartbeats 1000000 in
theorem sameT_off (g1 g2 o1 o2 n c1 c2 : Nat) (f : Nat → ByteArray) (hn : n < 1000000) (w : World) (h1 : ∀ i, i < n → w.cell? ⟨g1, o1 + i, none⟩ = some (.string (f i))) (h2 : ∀ i, i < n → w.cell? ⟨g2, o2 + i, none⟩ = some (.string (f i))) :
    Calls Tryz.prog 61 #[.slice (some ⟨g1, o1, none⟩) n c1, .slice (some ⟨g2, o2, none⟩) n c2] w fun e w' => e = .returned (.bool true) ∧ ∃ k, w' = w.drewN k := by
  have H := Hid.intro (And.intro h1 h2)
  clear h1 h2
  go_enter Tryz.func61, Tryz.ntmps61
  go_wp2_with fail
  go_loopw [5] (fun i wr => ∃ j : Nat, i = .int .i64 j ∧ j ≤ n ∧ Hid (∃ k, wr = w.drewN k)) (fun i _ => n - (intOf i).toNat)
  case atStart => exact ⟨0, rfl, by omega, Hid.intro ⟨0, rfl⟩⟩
  case round =>
    obtain ⟨j, rfl, hj, R⟩ := hrel
    by_cases hlt : j < n
    · have hltI : (j : Int) < (n : Int) := by omega
      have c1 : wr.cell? ⟨g1, o1 + j, none⟩ = some (.string (f j)) := by obtain ⟨k, e⟩ := R.out; rw [e]; exact H.out.1 j hlt
      have c2 : wr.cell? ⟨g2, o2 + j, none⟩ = some (.string (f j)) := by obtain ⟨k, e⟩ := R.out; rw [e]; exact H.out.2 j hlt
      have RN : Hid (∀ q, ∃ k, wr.drewN q = w.drewN k) := Hid.intro (fun q => by obtain ⟨k, e⟩ := R.out; exact ⟨k + q, by rw [e]; unfold World.drewN; simp [Nat.add_assoc]⟩)
      generalize f j = nm at c1 c2
      go_wp2_with fail
      go_quiet (fail)
      go_wp2_with fail
      go_roundw
      case rel => exact ⟨j + 1, by go_num, by omega, Hid.intro (RN.out _)⟩
      case measure => simp [intOf]; omega
    · have hltI : ¬ (j : Int) < (n : Int) := by omega
      go_wp2_with fail
      go_ret
      exact ⟨rfl, R.out⟩
theorem sameNS_any {L : List ByteArray} {v1 v2 : Value} {w : World} (h1 : NS w v1 L) (h2 : NS w v2 L) (hL : L.length < 1000000) :
    Calls Tryz.prog 61 #[v1, v2] w fun e w' => e = .returned (.bool true) ∧ ∃ k, w' = w.drewN k := by
  obtain ⟨a1, c1, rfl, _, k1⟩ := h1
  obtain ⟨a2, c2, rfl, _, k2⟩ := h2
  by_cases hl : L = []
  · rw [hl]
    exact sameT_none a1 a2 c1 c2 w
  · obtain ⟨g1, o1, rfl, q1⟩ := k1 hl
    obtain ⟨g2, o2, rfl, q2⟩ := k2 hl
    exact sameT_off g1 g2 o1 o2 L.length c1 c2 (fun i => L.getD i ⟨#[]⟩) hL w (fun i hi => q1 i _ (by simp [List.getD_eq_getElem?_getD, hi])) (fun i hi => q2 i _ (by simp [List.getD_eq_getElem?_getD, hi]))
/-- What an act on a table leaves: both sides in step. -/
def MP (w : World) (f b g m : Nat) (e : Ending) (w' : World) : Prop := e = .returned (.bool true) ∧ ∃ B T v F v', MS w w' f b g m B T v F T v' F ∧ Mo.QI F T
section
variable (w W : World) (f b g m : Nat) (B : Bs) (T : Tb) (v v' : Value) (F : Fo) (kd : ByteArray) (A B' C : Int) (K : Nat) (On : Bool) (S1 T1 : ByteArray)
set_option maxRecDepth 100000 in
set_option maxHeartbeats 4000000 in
theorem mounted_walk (h : MS w W f b g m B T v F T v' F) (hp : Mo.QI F T) (k1 : (kd.toList == [98, 105, 110, 100]) = false) (k2 : (kd.toList == [117, 110, 98, 105, 110, 100]) = false) (k3 : (kd.toList == [112, 105, 118, 111, 116]) = false) :
    Calls Tryz.prog 17 #[.pointer (some ⟨b, 0, none⟩), .pointer (some ⟨m, 0, none⟩), .agg (acA kd A B' C K On S1 T1)] W fun e w' => MP w f b g m e w' := by
  have HP := Hid.intro hp
  have NL := Mo.splN_len S1
  have SN := Mo.splE_nn S1
  have S0 : Hid (MS w (W.alloc (.cells (acA kd A B' C K On S1 T1) 50)) f b g m B T v F T v' F ∧ ActAt (W.alloc (.cells (acA kd A B' C K On S1 T1) 50)) W.heap.size (acA kd A B' C K On S1 T1)) := Hid.intro ⟨h.below ((Below.refl _ _).alloc (Nat.le_refl _) _), heap_alloc_new W _⟩
  clear h hp
  go_enter Tryz.func17, Tryz.ntmps17
  go_upto_region 1 with fail
  refine wp_gen (fun W' => MS w W' f b g m B T v F T v' F ∧ ActAt W' W.heap.size (acA kd A B' C K On S1 T1)) S0.out ?_
  rintro W1 ⟨hS1, hbx⟩
  have G1 := Hid.intro hS1
  have A1 := Hid.intro hbx
  clear S0
  generalize W.heap.size = ba at *
  have x0 := act_cells hbx 0 (.string kd) rfl
  have x6 := act_cells hbx 6 (.string S1) rfl
  clear hS1 hbx
  go_wp2_with fail
  refine (walk_any _ b f T v F S1 _ G1.out.ct G1.out.co HP.out.pi.ok.sz).mono ?_
  rintro e V1 ⟨x, E1, rfl, u1, b1⟩
  have H1 := Hid.intro u1
  clear u1
  go_upto_region 18 with fail
  have bb1 : Below W1.heap.size W1 (V1.alloc (.cells #[.int .i64 x.1, .int .i64 x.2] 56)) := b1.alloc b1.size _
  refine wp_gen (fun W' => WB W' V1.heap.size x ∧ Below W1.heap.size W1 W') ⟨heap_alloc_new V1 _, bb1⟩ ?_
  rintro U1 ⟨p1, q1⟩
  have G2 := Hid.intro (G1.out.below q1)
  have A2 := Hid.intro (A1.out.below q1)
  have X1_1 := Hid.intro p1
  clear x0 x6 b1 bb1 p1 q1 G1 A1
  generalize V1.heap.size = P1 at *
  have x6 := act_cells A2.out 6 (.string S1) rfl
  obtain ⟨R1, rv1, hr1⟩ := G2.out.rm.fo
  go_wp2_with fail
  refine (rwalk_any _ m g T v' B F R1 rv1 S1 _ G2.out.rm.tb hr1 HP.out.pi.ok).mono ?_
  rintro e V2 ⟨x2, E2, rfl, u2, b2⟩
  obtain ⟨e2, e2'⟩ := H1.out.unique u2
  subst e2 e2'
  clear u2 hr1
  go_upto_region 19 with fail
  have bb2 : Below U1.heap.size U1 (V2.alloc (.cells #[.int .i64 x.1, .int .i64 x.2] 56)) := b2.alloc b2.size _
  refine wp_gen (fun W' => WB W' V2.heap.size x ∧ Below U1.heap.size U1 W') ⟨heap_alloc_new V2 _, bb2⟩ ?_
  rintro U2 ⟨p2, q2⟩
  have G3 := Hid.intro (G2.out.below q2)
  have A3 := Hid.intro (A2.out.below q2)
  have X1_2 := Hid.intro (X1_1.out.below q2)
  have X2_2 := Hid.intro p2
  clear  x6 b2 bb2 p2 q2 G2 A2 X1_1
  generalize V2.heap.size = P2 at *
  have x6 := act_cells A3.out 6 (.string S1) rfl
  go_wp2_with fail
  refine (last_any _ b f T v F S1 _ G3.out.ct G3.out.co HP.out.pi.ok.sz).mono ?_
  rintro e V3 ⟨y, s, E3, rfl, u3, b3⟩
  have H3 := Hid.intro u3
  clear u3
  go_upto_region 20 with fail
  have bb3 : Below U2.heap.size U2 (V3.alloc (.cells #[.int .i64 y.1, .int .i64 y.2] 56)) := b3.alloc b3.size _
  refine wp_gen (fun W' => WB W' V3.heap.size y ∧ Below U2.heap.size U2 W') ⟨heap_alloc_new V3 _, bb3⟩ ?_
  rintro U3 ⟨p3, q3⟩
  have G4 := Hid.intro (G3.out.below q3)
  have A4 := Hid.intro (A3.out.below q3)
  have X1_3 := Hid.intro (X1_2.out.below q3)
  have X2_3 := Hid.intro (X2_2.out.below q3)
  have X3_3 := Hid.intro p3
  clear  x6 b3 bb3 p3 q3 G3 A3 X1_2 X2_2
  generalize V3.heap.size = P3 at *
  have x6 := act_cells A4.out 6 (.string S1) rfl
  obtain ⟨R3, rv3, hr3⟩ := G4.out.rm.fo
  go_wp2_with fail
  refine (rlast_any _ m g T v' B F R3 rv3 S1 _ G4.out.rm.tb hr3 HP.out.pi.ok).mono ?_
  rintro e V4 ⟨y2, s2, E4, rfl, u4, b4⟩
  obtain ⟨e4, e4', e4''⟩ := H3.out.unique u4
  subst e4 e4' e4''
  clear u4 hr3
  go_upto_region 21 with fail
  have bb4 : Below U3.heap.size U3 (V4.alloc (.cells #[.int .i64 y.1, .int .i64 y.2] 56)) := b4.alloc b4.size _
  refine wp_gen (fun W' => WB W' V4.heap.size y ∧ Below U3.heap.size U3 W') ⟨heap_alloc_new V4 _, bb4⟩ ?_
  rintro U4 ⟨p4, q4⟩
  have G5 := Hid.intro (G4.out.below q4)
  have A5 := Hid.intro (A4.out.below q4)
  have X1_4 := Hid.intro (X1_3.out.below q4)
  have X2_4 := Hid.intro (X2_3.out.below q4)
  have X3_4 := Hid.intro (X3_3.out.below q4)
  have X4_4 := Hid.intro p4
  clear  x6 b4 bb4 p4 q4 G4 A4 X1_3 X2_3 X3_3
  generalize V4.heap.size = P4 at *
  have x6 := act_cells A5.out 6 (.string S1) rfl
  go_wp2_with fail
  refine (raw_any _ b f T v F S1 _ G5.out.ct G5.out.co HP.out.pi.ok.sz).mono ?_
  rintro e V5 ⟨z, E5, rfl, u5, b5⟩
  have H5 := Hid.intro u5
  clear u5
  go_upto_region 22 with fail
  have bb5 : Below U4.heap.size U4 (V5.alloc (.cells #[.int .i64 z.1, .int .i64 z.2] 56)) := b5.alloc b5.size _
  refine wp_gen (fun W' => WB W' V5.heap.size z ∧ Below U4.heap.size U4 W') ⟨heap_alloc_new V5 _, bb5⟩ ?_
  rintro U5 ⟨p5, q5⟩
  have G6 := Hid.intro (G5.out.below q5)
  have A6 := Hid.intro (A5.out.below q5)
  have X1_5 := Hid.intro (X1_4.out.below q5)
  have X2_5 := Hid.intro (X2_4.out.below q5)
  have X3_5 := Hid.intro (X3_4.out.below q5)
  have X4_5 := Hid.intro (X4_4.out.below q5)
  have X5_5 := Hid.intro p5
  clear  x6 b5 bb5 p5 q5 G5 A5 X1_4 X2_4 X3_4 X4_4
  generalize V5.heap.size = P5 at *
  have x6 := act_cells A6.out 6 (.string S1) rfl
  obtain ⟨R5, rv5, hr5⟩ := G6.out.rm.fo
  go_wp2_with fail
  refine (rraw_any _ m g T v' B F R5 rv5 S1 _ G6.out.rm.tb hr5 HP.out.pi.ok).mono ?_
  rintro e V6 ⟨z2, E6, rfl, u6, b6⟩
  obtain ⟨e6, e6'⟩ := H5.out.unique u6
  subst e6 e6'
  clear u6 hr5
  go_upto_region 23 with fail
  have bb6 : Below U5.heap.size U5 (V6.alloc (.cells #[.int .i64 z.1, .int .i64 z.2] 56)) := b6.alloc b6.size _
  refine wp_gen (fun W' => WB W' V6.heap.size z ∧ Below U5.heap.size U5 W') ⟨heap_alloc_new V6 _, bb6⟩ ?_
  rintro U6 ⟨p6, q6⟩
  have G7 := Hid.intro (G6.out.below q6)
  have A7 := Hid.intro (A6.out.below q6)
  have X1_6 := Hid.intro (X1_5.out.below q6)
  have X2_6 := Hid.intro (X2_5.out.below q6)
  have X3_6 := Hid.intro (X3_5.out.below q6)
  have X4_6 := Hid.intro (X4_5.out.below q6)
  have X5_6 := Hid.intro (X5_5.out.below q6)
  have X6_6 := Hid.intro p6
  clear  x6 b6 bb6 p6 q6 G6 A6 X1_5 X2_5 X3_5 X4_5 X5_5
  generalize V6.heap.size = P6 at *
  have x6 := act_cells A7.out 6 (.string S1) rfl
  go_wp2_with fail
  refine (split_any S1 _).mono ?_
  rintro e V7 ⟨vn, rfl, n7, b7⟩
  have G8 := Hid.intro (G7.out.below b7)
  have x6' := act_cells (A7.out.below b7) 6 (.string S1) rfl
  have Y8 : Hid (WB V7 P1 x ∧ WB V7 P2 x ∧ WB V7 P3 y ∧ WB V7 P4 y ∧ WB V7 P5 z ∧ WB V7 P6 z ∧ NS V7 vn (Mo.splN S1)) := Hid.intro ⟨X1_6.out.below b7, X2_6.out.below b7, X3_6.out.below b7, X4_6.out.below b7, X5_6.out.below b7, X6_6.out.below b7, n7⟩
  clear n7 b7 x6 G7 A7 X1_6 X2_6 X3_6 X4_6 X5_6 X6_6
  go_wp2_with fail
  refine (rnames_any S1 _).mono ?_
  rintro e V8 ⟨vn2, rfl, n8, b8⟩
  have G9 := Hid.intro (G8.out.below b8)
  have Y9 : Hid (WB V8 P1 x ∧ WB V8 P2 x ∧ WB V8 P3 y ∧ WB V8 P4 y ∧ WB V8 P5 z ∧ WB V8 P6 z ∧ NS V8 vn (Mo.splN S1) ∧ NS V8 vn2 (Mo.splN S1)) := Hid.intro ⟨Y8.out.1.below b8, Y8.out.2.1.below b8, Y8.out.2.2.1.below b8, Y8.out.2.2.2.1.below b8, Y8.out.2.2.2.2.1.below b8, Y8.out.2.2.2.2.2.1.below b8, Y8.out.2.2.2.2.2.2.below b8, n8⟩
  clear n8 b8 x6' G8 Y8
  have c10 := Y9.out.1.c0
  have c11 := Y9.out.1.c1
  have c20 := Y9.out.2.1.c0
  have c21 := Y9.out.2.1.c1
  have c30 := Y9.out.2.2.1.c0
  have c31 := Y9.out.2.2.1.c1
  have c40 := Y9.out.2.2.2.1.c0
  have c41 := Y9.out.2.2.2.1.c1
  have c50 := Y9.out.2.2.2.2.1.c0
  have c51 := Y9.out.2.2.2.2.1.c1
  have c60 := Y9.out.2.2.2.2.2.1.c0
  have c61 := Y9.out.2.2.2.2.2.1.c1
  go_wp2_with fail
  refine (sameNS_any Y9.out.2.2.2.2.2.2.1 Y9.out.2.2.2.2.2.2.2 (by omega)).mono ?_
  rintro e V9 ⟨rfl, k9, hV9⟩
  have FIN : Hid (MS w V9 f b g m B T v F T v' F) := Hid.intro (G9.out.below (by rw [hV9]; exact ⟨rfl, rfl, rfl, Nat.le_refl _, fun _ _ => rfl⟩))
  clear hV9 c10 c11 c20 c21 c30 c31 c40 c41 c50 c51 c60 c61 G9 Y9
  go_wp2_with fail
  refine (same_any _ H1.out.nn _).mono ?_
  rintro e V10 ⟨rfl, hV⟩
  subst V10
  go_wp2_with fail
  refine (same_any _ H3.out.nn _).mono ?_
  rintro e V10 ⟨rfl, hV⟩
  subst V10
  go_wp2_with fail
  refine (same_any _ H5.out.nn _).mono ?_
  rintro e V10 ⟨rfl, hV⟩
  subst V10
  go_wp2_with fail
  refine (same_any _ SN _).mono ?_
  rintro e V10 ⟨rfl, hV⟩
  subst V10
  go_wp2_with fail
  go_ret
  exact ⟨rfl, B, T, v, F, v', FIN.out, HP.out⟩
end
end Go.Proofs.YthdadmbpnoofoaaGreatDoor

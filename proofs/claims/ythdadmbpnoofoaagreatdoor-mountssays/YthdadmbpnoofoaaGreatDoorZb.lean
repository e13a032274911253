/- MountsSays: an act on a table: bind. -/
import Derived.Test.YthdadmbpnoofoaaGreatDoorDq
import Derived.Test.YthdadmbpnoofoaaGreatDoorZa
namespace Go.Proofs.YthdadmbpnoofoaaGreatDoor
open Go.RowKit
open Tr (Fo Nd)
open Mo (Wh Mt Tb)

theorem Mo.QI.bin {F : Fo} {T : Tb} (h : Mo.QI F T) (x y : Wh) : Mo.QI (Mo.binF F T x y) (Mo.binT F T x y) := by
  refine ⟨h.pi.bin x y, ?_, ?_⟩
  · unfold Mo.binT
    split
    · rename_i c
      refine Mo.uq_bin h.uq ?_
      obtain ⟨c1, c2, _⟩ := Mo.binE_0 c
      unfold Mo.binE at c
      rw [c1, if_neg (fun d => d rfl), c2, if_neg (fun d => d rfl)] at c
      by_cases e : x = y
      · rw [if_pos e] at c; omega
      · rw [if_neg e] at c
        cases hl : Mo.lk T.ms x with
        | none => rfl
        | some q => rw [hl] at c; simp at c
    · exact h.uq
  · unfold Mo.binF
    split
    · exact (h.zb.hol _).hol _
    · exact h.zb
section
variable (w W : World) (f b g m : Nat) (B : Bs) (T : Tb) (v v' : Value) (F : Fo) (kd : ByteArray) (A B' C : Int) (K : Nat) (On : Bool) (S1 T1 : ByteArray)
set_option maxRecDepth 100000 in
set_option maxHeartbeats 4000000 in
theorem mounted_bind (h : MS w W f b g m B T v F T v' F) (hp : Mo.QI F T) (k1 : (kd.toList == [98, 105, 110, 100]) = true) :
    Calls Tryz.prog 17 #[.pointer (some ⟨b, 0, none⟩), .pointer (some ⟨m, 0, none⟩), .agg (acA kd A B' C K On S1 T1)] W fun e w' => MP w f b g m e w' := by
  have HP := Hid.intro hp
  have S0 : Hid (MS w (W.alloc (.cells (acA kd A B' C K On S1 T1) 50)) f b g m B T v F T v' F ∧ ActAt (W.alloc (.cells (acA kd A B' C K On S1 T1) 50)) W.heap.size (acA kd A B' C K On S1 T1)) := Hid.intro ⟨h.below ((Below.refl _ _).alloc (Nat.le_refl _) _), heap_alloc_new W _⟩
  clear h hp
  go_enter Tryz.func17, Tryz.ntmps17
  go_upto_region 1 with fail
  refine wp_gen (fun W' => MS w W' f b g m B T v F T v' F ∧ ActAt W' W.heap.size (acA kd A B' C K On S1 T1)) S0.out ?_
  rintro W1 ⟨hS1, hbx⟩
  have G1 := Hid.intro hS1
  have A1 := Hid.intro hbx
  clear S0
  generalize W.heap.size = ba at *
  have x0 := act_cells hbx 0 (.string kd) rfl
  have x6 := act_cells hbx 6 (.string S1) rfl
  clear hS1 hbx
  have x7 := act_cells A1.out 7 (.string T1) rfl
  have D0 := Hid.intro (Below.refl W1.heap.size W1)
  have GG := G1
  go_wp2_with fail
  refine (raw_any _ b f T v F S1 _ G1.out.ct G1.out.co HP.out.pi.ok.sz).mono ?_
  rintro e V1 ⟨x, E1, rfl, u1, b1⟩
  have H1 := Hid.intro u1
  clear u1
  go_upto_region 4 with fail
  refine wp_gen (fun W' => WB W' V1.heap.size x ∧ Below W1.heap.size W1 W') ⟨heap_alloc_new V1 _, b1.alloc b1.size _⟩ ?_
  rintro U1 ⟨p1, q1⟩
  have L1 : Hid (W1.heap.size ≤ V1.heap.size) := Hid.intro (by have h1 := b1.size; have h2 := D0.out.size; omega)
  have D1 := Hid.intro (D0.out.trans (q1.mono D0.out.size))
  have G2 := Hid.intro (G1.out.below q1)
  have A2 := Hid.intro (A1.out.below q1)
  have X1_1 := Hid.intro p1
  clear x0 x6 x7 b1 p1 q1 G1 A1 D0
  generalize V1.heap.size = P1 at *
  have x6 := act_cells A2.out 6 (.string S1) rfl
  have x7 := act_cells A2.out 7 (.string T1) rfl
  obtain ⟨R1, rv1, hr1⟩ := G2.out.rm.fo
  go_wp2_with fail
  refine (rraw_any _ m g T v' B F R1 rv1 S1 _ G2.out.rm.tb hr1 HP.out.pi.ok).mono ?_
  rintro e V2 ⟨x2, E2, rfl, u2, b2⟩
  obtain ⟨e2, e2'⟩ := H1.out.unique u2
  subst e2 e2'
  clear u2 hr1
  go_upto_region 5 with fail
  refine wp_gen (fun W' => WB W' V2.heap.size x ∧ Below U1.heap.size U1 W') ⟨heap_alloc_new V2 _, b2.alloc b2.size _⟩ ?_
  rintro U2 ⟨p2, q2⟩
  have L2 : Hid (W1.heap.size ≤ V2.heap.size) := Hid.intro (by have h1 := b2.size; have h2 := D1.out.size; omega)
  have D2 := Hid.intro (D1.out.trans (q2.mono D1.out.size))
  have G3 := Hid.intro (G2.out.below q2)
  have A3 := Hid.intro (A2.out.below q2)
  have X1_2 := Hid.intro (X1_1.out.below q2)
  have X2_2 := Hid.intro p2
  clear  x6 x7 b2 p2 q2 G2 A2 D1 X1_1
  generalize V2.heap.size = P2 at *
  have x6 := act_cells A3.out 6 (.string S1) rfl
  have x7 := act_cells A3.out 7 (.string T1) rfl
  go_wp2_with fail
  refine (walk_any _ b f T v F T1 _ G3.out.ct G3.out.co HP.out.pi.ok.sz).mono ?_
  rintro e V3 ⟨y, E3, rfl, u3, b3⟩
  have H3 := Hid.intro u3
  clear u3
  go_upto_region 6 with fail
  refine wp_gen (fun W' => WB W' V3.heap.size y ∧ Below U2.heap.size U2 W') ⟨heap_alloc_new V3 _, b3.alloc b3.size _⟩ ?_
  rintro U3 ⟨p3, q3⟩
  have NE : Hid (V3.heap.size ≠ P1) := Hid.intro (by have h1 := X1_2.out.lt; have h2 := b3.size; omega)
  have L3 : Hid (W1.heap.size ≤ V3.heap.size) := Hid.intro (by have h1 := b3.size; have h2 := D2.out.size; omega)
  have D3 := Hid.intro (D2.out.trans (q3.mono D2.out.size))
  have G4 := Hid.intro (G3.out.below q3)
  have A4 := Hid.intro (A3.out.below q3)
  have X1_3 := Hid.intro (X1_2.out.below q3)
  have X2_3 := Hid.intro (X2_2.out.below q3)
  have X3_3 := Hid.intro p3
  clear  x6 x7 b3 p3 q3 G3 A3 D2 X1_2 X2_2
  generalize V3.heap.size = P3 at *
  have x6 := act_cells A4.out 6 (.string S1) rfl
  have x7 := act_cells A4.out 7 (.string T1) rfl
  obtain ⟨R3, rv3, hr3⟩ := G4.out.rm.fo
  go_wp2_with fail
  refine (rwalk_any _ m g T v' B F R3 rv3 T1 _ G4.out.rm.tb hr3 HP.out.pi.ok).mono ?_
  rintro e V4 ⟨y2, E4, rfl, u4, b4⟩
  obtain ⟨e4, e4'⟩ := H3.out.unique u4
  subst e4 e4'
  clear u4 hr3
  go_upto_region 7 with fail
  refine wp_gen (fun W' => WB W' V4.heap.size y ∧ Below U3.heap.size U3 W') ⟨heap_alloc_new V4 _, b4.alloc b4.size _⟩ ?_
  rintro U4 ⟨p4, q4⟩
  have L4 : Hid (W1.heap.size ≤ V4.heap.size) := Hid.intro (by have h1 := b4.size; have h2 := D3.out.size; omega)
  have D4 := Hid.intro (D3.out.trans (q4.mono D3.out.size))
  have G5 := Hid.intro (G4.out.below q4)
  have A5 := Hid.intro (A4.out.below q4)
  have X1_4 := Hid.intro (X1_3.out.below q4)
  have X2_4 := Hid.intro (X2_3.out.below q4)
  have X3_4 := Hid.intro (X3_3.out.below q4)
  have X4_4 := Hid.intro p4
  clear  x6 x7 b4 p4 q4 G4 A4 D3 X1_3 X2_3 X3_3
  generalize V4.heap.size = P4 at *
  have x6 := act_cells A5.out 6 (.string S1) rfl
  have x7 := act_cells A5.out 7 (.string T1) rfl
  have c10 := X1_4.out.c0
  have c11 := X1_4.out.c1
  have c20 := X2_4.out.c0
  have c21 := X2_4.out.c1
  have c30 := X3_4.out.c0
  have c31 := X3_4.out.c1
  have c40 := X4_4.out.c0
  have c41 := X4_4.out.c1
  have x1 := act_cells A5.out 1 (.int .i64 A) rfl
  have x2 := act_cells A5.out 2 (.int .i64 B') rfl
  have cf := X1_4.out.fz
  have n1 := H1.out.nn
  have n3 := H3.out.nn
  have SET := Hid.intro (X1_4.out.set (A, B'))
  clear x6 x7
  go_wp2_with fail
  refine (same_any _ H1.out.nn _).mono ?_
  rintro e V5 ⟨rfl, hV⟩
  subst V5
  go_wp2_with fail
  refine (same_any _ H3.out.nn _).mono ?_
  rintro e V5 ⟨rfl, hV⟩
  subst V5
  by_cases e1 : E1 = 0
  case' neg =>
    have pos : 0 < E1 := by omega
    go_upto_region 11 with fail
    refine wp_gen (fun W' => WB W' P1 (A, B') ∧ WB W' P3 y ∧ Below W1.heap.size W1 W') ⟨SET.out.1, X3_4.out.same (SET.out.2.block P3 X3_4.out.lt NE.out), SET.out.2.below D4.out L1.out D4.out.size⟩ ?_
    generalize ((A, B') : Wh) = x' at *
  case' pos =>
    subst e1
    by_cases e3 : E3 = 0
    case' neg =>
      have pos : 0 < E3 := by omega
      go_upto_region 11 with fail
      refine wp_gen (fun W' => WB W' P1 (A, B') ∧ WB W' P3 y ∧ Below W1.heap.size W1 W') ⟨SET.out.1, X3_4.out.same (SET.out.2.block P3 X3_4.out.lt NE.out), SET.out.2.below D4.out L1.out D4.out.size⟩ ?_
      generalize ((A, B') : Wh) = x' at *
    case' pos =>
      subst e3
      go_upto_region 11 with fail
      refine wp_gen (fun W' => WB W' P1 x ∧ WB W' P3 y ∧ Below W1.heap.size W1 W') ⟨X1_4.out, X3_4.out, D4.out⟩ ?_
      generalize x = x' at *
  all_goals
    rintro Z ⟨z1, z3, zb⟩
    have M0 := Hid.intro (GG.out.below zb)
    have Q0 := Hid.intro (And.intro z1 z3)
    clear z1 z3 zb c10 c11 c20 c21 c30 c31 c40 c41 x1 x2 cf SET X1_4 X2_4 X3_4 X4_4 G5 A5 D4
    have KF : Hid (∀ W, WB W P1 x' ∧ WB W P3 y → W.cell? ⟨P1, 0, none⟩ = some (.int .i64 x'.1) ∧ W.cell? ⟨P1, 1, none⟩ = some (.int .i64 x'.2) ∧ W.cell? ⟨P3, 0, none⟩ = some (.int .i64 y.1) ∧ W.cell? ⟨P3, 1, none⟩ = some (.int .i64 y.2)) := Hid.intro (fun W h => ⟨h.1.c0, h.1.c1, h.2.c0, h.2.c1⟩)
    have K0 := Hid.intro (KF.out Z Q0.out)
    go_region_held3 (fun w' => w'.cell? ⟨P1, 0, none⟩ = some (.int .i64 x'.1) ∧ w'.cell? ⟨P1, 1, none⟩ = some (.int .i64 x'.2) ∧ w'.cell? ⟨P3, 0, none⟩ = some (.int .i64 y.1) ∧ w'.cell? ⟨P3, 1, none⟩ = some (.int .i64 y.2)) (first | exact K0.out | exact K4.out | exact K5.out | exact K6.out) ((first | (go_at_call 52; refine (bind_any w.heap.size b f 13 T v F x' y _ M0.out.drew.ct M0.out.drew.co HP.out.pi.hb (by decide) M0.out.bel.size).mono ?_; rintro e w4 ⟨v4, rfl, t4, f4, o4, n4⟩; obtain ⟨B4, _, m4⟩ := M0.out.drew.code f4 t4 o4 n4; have C4 := Hid.intro m4; have Y4 : Hid (WB w4 P1 x' ∧ WB w4 P3 y) := Hid.intro ⟨WB.only (W := Z.drew) Q0.out.1 o4 (M0.out.drew.noc Q0.out.1).1, WB.only (W := Z.drew) Q0.out.2 o4 (M0.out.drew.noc Q0.out.2).1⟩; have K4 := Hid.intro (KF.out w4 Y4.out); clear t4 f4 o4 n4 m4) | (go_at_call 53; refine (rbind_any w.heap.size m g 13 B4 T v' F x' y _ C4.out.rm HP.out.pi.hb (by decide) C4.out.bel.size).mono ?_; rintro e w5 ⟨v5, B5, rfl, r5, g5, o5, n5⟩; have C5 := Hid.intro (C4.out.ref r5 g5 o5 n5); have Y5 : Hid (WB w5 P1 x' ∧ WB w5 P3 y) := Hid.intro ⟨Y4.out.1.only o5 (C4.out.noc Y4.out.1).2, Y4.out.2.only o5 (C4.out.noc Y4.out.2).2⟩; have K5 := Hid.intro (KF.out w5 Y5.out); clear r5 g5 o5 n5) | (go_at_call 9; refine (same_any _ (Mo.binE_nn F T x' y) _).mono ?_; rintro e w6 ⟨rfl, hw6⟩; subst w6; have K6 := K5)))
    have FIN : Hid (MP w f b g m (.returned (.bool true)) w5) := Hid.intro ⟨rfl, B5, _, _, _, _, C5.out, HP.out.bin x' y⟩
    go_wp2_with fail
    go_ret
    exact FIN.out
end
end Go.Proofs.YthdadmbpnoofoaaGreatDoor

/- The law TreeSays: an act on both forests, link. -/
namespace Go.Proofs.YthdadmbpnoofoaaGreatDoor
open Go.RowKit
open Tr (Fo Nd RN)

section
variable (w W : World) (b c : Nat) (B : Bs) (k : Nat) (F : Fo) (kd : ByteArray) (A B' C : Int) (K : Nat) (On : Bool) (S1 T1 : ByteArray)
set_option maxRecDepth 100000 in
set_option maxHeartbeats 4000000 in
theorem grown_link (h : GS w W b c B F F) (hp : PF k F) (hk : k < 999) (hs : S1.size < 2 ^ 60) (k0 : (kd.toList == [112, 108, 97, 110, 116]) = false) (k1 : (kd.toList == [109, 97, 107, 101]) = false) (k2 : (kd.toList == [108, 105, 110, 107]) = true) :
    Calls Tryz.prog 13 #[.pointer (some ⟨b, 0, none⟩), .pointer (some ⟨c, 0, none⟩), .agg (acA kd A B' C K On S1 T1)] W fun e w' => GP w b c B k e w' := by
  have S0 : Hid (GS w (W.alloc (.cells (acA kd A B' C K On S1 T1) 50)) b c B F F ∧ ActAt (W.alloc (.cells (acA kd A B' C K On S1 T1) 50)) W.heap.size (acA kd A B' C K On S1 T1) ∧ W.heap.size ≠ b ∧ W.heap.size ≠ c) := Hid.intro ⟨h.below ((Below.refl _ _).alloc (Nat.le_refl _) _), heap_alloc_new W _, by have := h.size; omega, by have := h.size; omega⟩
  have HP := Hid.intro (And.intro hp (And.intro hk hs))
  clear h hp hk hs
  go_enter Tryz.func13, Tryz.ntmps13
  go_upto_region 1 with fail
  refine wp_gen (fun W' => GS w W' b c B F F ∧ ActAt W' W.heap.size (acA kd A B' C K On S1 T1) ∧ W.heap.size ≠ b ∧ W.heap.size ≠ c) S0.out ?_
  rintro W1 ⟨hS1, hbx, hne⟩
  have G1 := Hid.intro hS1
  have HA := Hid.intro (And.intro hbx hne)
  clear S0
  generalize W.heap.size = ba at *
  have x0 := act_cells hbx 0 (.string kd) rfl
  clear hS1 hbx hne
  have KF : Hid (∀ w', ActAt w' ba (acA kd A B' C K On S1 T1) → w'.cell? ⟨ba, 1, none⟩ = some (.int .i64 A) ∧ w'.cell? ⟨ba, 2, none⟩ = some (.int .i64 B') ∧ w'.cell? ⟨ba, 6, none⟩ = some (.string S1) ∧ w'.cell? ⟨ba, 7, none⟩ = some (.string T1)) := Hid.intro (fun W' a => ⟨act_cells a 1 _ rfl, act_cells a 2 _ rfl, act_cells a 6 _ rfl, act_cells a 7 _ rfl⟩)
  have K0 := Hid.intro (KF.out W1 HA.out.1)
  go_wp2_with fail
  go_region_held3 (fun w' => w'.cell? ⟨ba, 1, none⟩ = some (.int .i64 A) ∧ w'.cell? ⟨ba, 2, none⟩ = some (.int .i64 B') ∧ w'.cell? ⟨ba, 6, none⟩ = some (.string S1) ∧ w'.cell? ⟨ba, 7, none⟩ = some (.string T1)) (first | exact K0.out | exact K4.out | exact K5.out | exact K6.out) ((first | (go_at_call 31; refine (tlink_any b A B' S1 F _ G1.out.2.1.drew HP.out.1.1.sz (fun n hn k0 => by have := HP.out.1.1.links_lt n hn k0; omega)).mono ?_; rintro e w4 ⟨E4, G4, rfl, m4, u4, f4⟩; have f5 : Frm b W1 w4 := ⟨f4.os, f4.tape, f4.output, f4.size, f4.block⟩; have C4 := Hid.intro (And.intro (G1.out.code u4 f5) (And.intro (HA.out.1.frm HA.out.2.1 f5) m4)); have K4 := Hid.intro (KF.out w4 C4.out.2.1); clear u4 f4 f5 m4) | (go_at_call 32; obtain ⟨R4, rv4, hr4⟩ := C4.out.1.2.2.1; refine (rlink_any B c F R4 rv4 _ A B' S1 hr4 HP.out.1.1).mono ?_; rintro e w5 ⟨E5, G5, rfl, m5, u5, f5⟩; obtain ⟨rfl, rfl⟩ := C4.out.2.2.unique m5; have C5 := Hid.intro (And.intro (C4.out.1.ref1 u5 f5) (C4.out.2.1.frm HA.out.2.2 f5)); have K5 := Hid.intro (KF.out w5 C5.out.2); clear u5 f5 m5 hr4) | (go_at_call 9; refine (same_any _ C4.out.2.2.nn _).mono ?_; rintro e w6 ⟨rfl, hw6⟩; subst w6; have K6 := K5)))
  have FIN : Hid (GP w b c B k (.returned (.bool true)) w5) := Hid.intro ⟨rfl, G4, C5.out.1, HP.out.1.1.lin C4.out.2.2, (HP.out.1.2.1.lin C4.out.2.2).mono (Nat.le_succ k), HP.out.1.2.2.lin C4.out.2.2⟩
  go_wp2_with fail
  go_ret
  exact FIN.out
end
end Go.Proofs.YthdadmbpnoofoaaGreatDoor

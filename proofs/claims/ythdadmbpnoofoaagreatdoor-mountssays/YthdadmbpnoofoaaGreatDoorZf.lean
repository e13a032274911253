/- The law TreeSays: an act on both forests, plant, make, find, read. -/
import Derived.Test.YthdadmbpnoofoaaGreatDoorZa
import Derived.Test.YthdadmbpnoofoaaGreatDoorZb
import Derived.Test.YthdadmbpnoofoaaGreatDoorZc
import Derived.Test.YthdadmbpnoofoaaGreatDoorZd
namespace Go.Proofs.YthdadmbpnoofoaaGreatDoor
open Go.RowKit
open Tr (Fo Nd RN)

section
variable (w W : World) (b c : Nat) (B : Bs) (k : Nat) (F : Fo) (kd : ByteArray) (A B' C : Int) (K : Nat) (On : Bool) (S1 T1 : ByteArray)
set_option maxRecDepth 100000 in
set_option maxHeartbeats 4000000 in
theorem grown_plant (h : GS w W b c B F F) (hp : PF k F) (hk : k < 999) (hs : S1.size < 2 ^ 60) (k0 : (kd.toList == [112, 108, 97, 110, 116]) = true) :
    Calls Tryz.prog 13 #[.pointer (some ⟨b, 0, none⟩), .pointer (some ⟨c, 0, none⟩), .agg (acA kd A B' C K On S1 T1)] W fun e w' => GP w b c B k e w' := by
  have S0 : Hid (GS w (W.alloc (.cells (acA kd A B' C K On S1 T1) 50)) b c B F F ∧ ActAt (W.alloc (.cells (acA kd A B' C K On S1 T1) 50)) W.heap.size (acA kd A B' C K On S1 T1) ∧ W.heap.size ≠ b ∧ W.heap.size ≠ c) := Hid.intro ⟨h.below ((Below.refl _ _).alloc (Nat.le_refl _) _), heap_alloc_new W _, by have := h.size; omega, by have := h.size; omega⟩
  have HP := Hid.intro (And.intro hp (And.intro hk hs))
  clear h hp hk hs
  go_enter Tryz.func13, Tryz.ntmps13
  go_upto_region 1 with fail
  refine wp_gen (fun W' => GS w W' b c B F F ∧ ActAt W' W.heap.size (acA kd A B' C K On S1 T1) ∧ W.heap.size ≠ b ∧ W.heap.size ≠ c) S0.out ?_
  rintro W1 ⟨hS1, hbx, hne⟩
  have G1 := Hid.intro hS1
  have HA := Hid.intro (And.intro hbx hne)
  clear S0
  generalize W.heap.size = ba at *
  have x0 := act_cells hbx 0 (.string kd) rfl
  clear hS1 hbx hne
  have KF : Hid (∀ w', ActAt w' ba (acA kd A B' C K On S1 T1) → w'.cell? ⟨ba, 1, none⟩ = some (.int .i64 A) ∧ w'.cell? ⟨ba, 2, none⟩ = some (.int .i64 B') ∧ w'.cell? ⟨ba, 6, none⟩ = some (.string S1) ∧ w'.cell? ⟨ba, 7, none⟩ = some (.string T1)) := Hid.intro (fun W' a => ⟨act_cells a 1 _ rfl, act_cells a 2 _ rfl, act_cells a 6 _ rfl, act_cells a 7 _ rfl⟩)
  have K0 := Hid.intro (KF.out W1 HA.out.1)
  obtain ⟨y1, y2, y6, y7⟩ := KF.out W1 HA.out.1
  have y3 := act_cells HA.out.1 3 (.int .i64 C) rfl
  clear K0
  go_wp2_with fail
  refine (tplant_any b F _ G1.out.2.1 HP.out.1.1.tr).mono ?_
  rintro e w4 ⟨T4, E4, G4, rfl, m4, u4, f4⟩
  have C4 := Hid.intro (And.intro (G1.out.code u4 f4) (And.intro (HA.out.1.frm HA.out.2.1 f4) m4))
  clear u4 f4 m4
  clear y1 y2 y3 y6 y7
  obtain ⟨y1, y2, y6, y7⟩ := KF.out w4 C4.out.2.1
  have y3 := act_cells C4.out.2.1 3 (.int .i64 C) rfl
  obtain ⟨R4, rv4, hr4⟩ := C4.out.1.2.2.1
  go_wp2_with fail
  refine (rplant_any B c F R4 rv4 _ hr4 HP.out.1.1.tr).mono ?_
  rintro e w5 ⟨T5, E5, G5, rfl, m5, u5, f5⟩
  obtain ⟨rfl, rfl, rfl⟩ := C4.out.2.2.unique m5
  have FIN : Hid (GP w b c B k (.returned (.bool true)) w5) := Hid.intro ⟨rfl, G4, C4.out.1.ref u5 f5, HP.out.1.1.pla m5, (HP.out.1.2.1.pla m5).mono (Nat.le_succ k), HP.out.1.2.2.pla m5⟩
  clear u5 f5 m5
  clear y1 y2 y3 y6 y7 hr4
  go_wp2_with fail
  refine (same_any _ (C4.out.2.2.nn) _).mono ?_
  rintro e w6 ⟨rfl, hw6⟩
  subst w6
  go_wp2_with fail
  go_ret
  exact FIN.out
set_option maxRecDepth 100000 in
set_option maxHeartbeats 4000000 in
theorem grown_make (h : GS w W b c B F F) (hp : PF k F) (hk : k < 999) (hs : S1.size < 2 ^ 60) (k0 : (kd.toList == [112, 108, 97, 110, 116]) = false) (k1 : (kd.toList == [109, 97, 107, 101]) = true) :
    Calls Tryz.prog 13 #[.pointer (some ⟨b, 0, none⟩), .pointer (some ⟨c, 0, none⟩), .agg (acA kd A B' C K On S1 T1)] W fun e w' => GP w b c B k e w' := by
  have S0 : Hid (GS w (W.alloc (.cells (acA kd A B' C K On S1 T1) 50)) b c B F F ∧ ActAt (W.alloc (.cells (acA kd A B' C K On S1 T1) 50)) W.heap.size (acA kd A B' C K On S1 T1) ∧ W.heap.size ≠ b ∧ W.heap.size ≠ c) := Hid.intro ⟨h.below ((Below.refl _ _).alloc (Nat.le_refl _) _), heap_alloc_new W _, by have := h.size; omega, by have := h.size; omega⟩
  have HP := Hid.intro (And.intro hp (And.intro hk hs))
  clear h hp hk hs
  go_enter Tryz.func13, Tryz.ntmps13
  go_upto_region 1 with fail
  refine wp_gen (fun W' => GS w W' b c B F F ∧ ActAt W' W.heap.size (acA kd A B' C K On S1 T1) ∧ W.heap.size ≠ b ∧ W.heap.size ≠ c) S0.out ?_
  rintro W1 ⟨hS1, hbx, hne⟩
  have G1 := Hid.intro hS1
  have HA := Hid.intro (And.intro hbx hne)
  clear S0
  generalize W.heap.size = ba at *
  have x0 := act_cells hbx 0 (.string kd) rfl
  clear hS1 hbx hne
  have KF : Hid (∀ w', ActAt w' ba (acA kd A B' C K On S1 T1) → w'.cell? ⟨ba, 1, none⟩ = some (.int .i64 A) ∧ w'.cell? ⟨ba, 2, none⟩ = some (.int .i64 B') ∧ w'.cell? ⟨ba, 6, none⟩ = some (.string S1) ∧ w'.cell? ⟨ba, 7, none⟩ = some (.string T1)) := Hid.intro (fun W' a => ⟨act_cells a 1 _ rfl, act_cells a 2 _ rfl, act_cells a 6 _ rfl, act_cells a 7 _ rfl⟩)
  have K0 := Hid.intro (KF.out W1 HA.out.1)
  obtain ⟨y1, y2, y6, y7⟩ := KF.out W1 HA.out.1
  have y3 := act_cells HA.out.1 3 (.int .i64 C) rfl
  clear K0
  go_wp2_with fail
  refine (tmake_any b A S1 B' F _ G1.out.2.1 HP.out.1.1.sz).mono ?_
  rintro e w4 ⟨T4, E4, G4, rfl, m4, u4, f4⟩
  have C4 := Hid.intro (And.intro (G1.out.code u4 f4) (And.intro (HA.out.1.frm HA.out.2.1 f4) m4))
  clear u4 f4 m4
  clear y1 y2 y3 y6 y7
  obtain ⟨y1, y2, y6, y7⟩ := KF.out w4 C4.out.2.1
  have y3 := act_cells C4.out.2.1 3 (.int .i64 C) rfl
  obtain ⟨R4, rv4, hr4⟩ := C4.out.1.2.2.1
  go_wp2_with fail
  refine (rmake_any B c F R4 rv4 _ A B' S1 hr4 HP.out.1.1).mono ?_
  rintro e w5 ⟨T5, E5, G5, rfl, m5, u5, f5⟩
  obtain ⟨rfl, rfl, rfl⟩ := C4.out.2.2.unique m5
  have FIN : Hid (GP w b c B k (.returned (.bool true)) w5) := Hid.intro ⟨rfl, G4, C4.out.1.ref1 u5 f5, HP.out.1.1.mak m5, (HP.out.1.2.1.mak m5).mono (Nat.le_succ k), HP.out.1.2.2.mak m5⟩
  clear u5 f5 m5
  clear y1 y2 y3 y6 y7 hr4
  go_wp2_with fail
  refine (same_any _ (C4.out.2.2.nn) _).mono ?_
  rintro e w6 ⟨rfl, hw6⟩
  subst w6
  go_wp2_with fail
  go_ret
  exact FIN.out
set_option maxRecDepth 100000 in
set_option maxHeartbeats 4000000 in
theorem grown_find (h : GS w W b c B F F) (hp : PF k F) (hk : k < 999) (hs : S1.size < 2 ^ 60) (k0 : (kd.toList == [112, 108, 97, 110, 116]) = false) (k1 : (kd.toList == [109, 97, 107, 101]) = false) (k2 : (kd.toList == [108, 105, 110, 107]) = false) (k3 : (kd.toList == [114, 101, 109, 111, 118, 101]) = false) (k4 : (kd.toList == [109, 111, 118, 101]) = false) (k5 : (kd.toList == [104, 111, 108, 100]) = false) (k6 : (kd.toList == [108, 101, 116]) = false) (k7 : (kd.toList == [102, 105, 110, 100]) = true) :
    Calls Tryz.prog 13 #[.pointer (some ⟨b, 0, none⟩), .pointer (some ⟨c, 0, none⟩), .agg (acA kd A B' C K On S1 T1)] W fun e w' => GP w b c B k e w' := by
  have S0 : Hid (GS w (W.alloc (.cells (acA kd A B' C K On S1 T1) 50)) b c B F F ∧ ActAt (W.alloc (.cells (acA kd A B' C K On S1 T1) 50)) W.heap.size (acA kd A B' C K On S1 T1) ∧ W.heap.size ≠ b ∧ W.heap.size ≠ c) := Hid.intro ⟨h.below ((Below.refl _ _).alloc (Nat.le_refl _) _), heap_alloc_new W _, by have := h.size; omega, by have := h.size; omega⟩
  have HP := Hid.intro (And.intro hp (And.intro hk hs))
  clear h hp hk hs
  go_enter Tryz.func13, Tryz.ntmps13
  go_upto_region 1 with fail
  refine wp_gen (fun W' => GS w W' b c B F F ∧ ActAt W' W.heap.size (acA kd A B' C K On S1 T1) ∧ W.heap.size ≠ b ∧ W.heap.size ≠ c) S0.out ?_
  rintro W1 ⟨hS1, hbx, hne⟩
  have G1 := Hid.intro hS1
  have HA := Hid.intro (And.intro hbx hne)
  clear S0
  generalize W.heap.size = ba at *
  have x0 := act_cells hbx 0 (.string kd) rfl
  clear hS1 hbx hne
  have KF : Hid (∀ w', ActAt w' ba (acA kd A B' C K On S1 T1) → w'.cell? ⟨ba, 1, none⟩ = some (.int .i64 A) ∧ w'.cell? ⟨ba, 2, none⟩ = some (.int .i64 B') ∧ w'.cell? ⟨ba, 6, none⟩ = some (.string S1) ∧ w'.cell? ⟨ba, 7, none⟩ = some (.string T1)) := Hid.intro (fun W' a => ⟨act_cells a 1 _ rfl, act_cells a 2 _ rfl, act_cells a 6 _ rfl, act_cells a 7 _ rfl⟩)
  have K0 := Hid.intro (KF.out W1 HA.out.1)
  obtain ⟨y1, y2, y6, y7⟩ := KF.out W1 HA.out.1
  have y3 := act_cells HA.out.1 3 (.int .i64 C) rfl
  clear K0
  go_wp2_with fail
  refine (tfind_any b A S1 F _ G1.out.2.1 HP.out.1.1.sz).mono ?_
  rintro e w4 ⟨T4, E4, rfl, m4, f4⟩
  have C4 := Hid.intro (And.intro (G1.out.below f4) (And.intro (HA.out.1.below f4) m4))
  clear f4 m4
  clear y1 y2 y3 y6 y7
  obtain ⟨y1, y2, y6, y7⟩ := KF.out w4 C4.out.2.1
  have y3 := act_cells C4.out.2.1 3 (.int .i64 C) rfl
  obtain ⟨R4, rv4, hr4⟩ := C4.out.1.2.2.1
  go_wp2_with fail
  refine (rfind_any B c F R4 rv4 _ A S1 hr4 HP.out.1.1).mono ?_
  rintro e w5 ⟨T5, E5, rfl, m5, hw5⟩
  subst w5
  obtain ⟨rfl, rfl⟩ := C4.out.2.2.unique m5
  have FIN : Hid (GP w b c B k (.returned (.bool true)) w4) := Hid.intro ⟨rfl, F, C4.out.1, HP.out.1.1, HP.out.1.2.1.mono (Nat.le_succ k), HP.out.1.2.2⟩
  clear m5
  clear y1 y2 y3 y6 y7 hr4
  go_wp2_with fail
  refine (same_any _ (C4.out.2.2.nn) _).mono ?_
  rintro e w6 ⟨rfl, hw6⟩
  subst w6
  go_wp2_with fail
  go_ret
  exact FIN.out
set_option maxRecDepth 100000 in
set_option maxHeartbeats 4000000 in
theorem grown_read (h : GS w W b c B F F) (hp : PF k F) (hk : k < 999) (hs : S1.size < 2 ^ 60) (k0 : (kd.toList == [112, 108, 97, 110, 116]) = false) (k1 : (kd.toList == [109, 97, 107, 101]) = false) (k2 : (kd.toList == [108, 105, 110, 107]) = false) (k3 : (kd.toList == [114, 101, 109, 111, 118, 101]) = false) (k4 : (kd.toList == [109, 111, 118, 101]) = false) (k5 : (kd.toList == [104, 111, 108, 100]) = false) (k6 : (kd.toList == [108, 101, 116]) = false) (k7 : (kd.toList == [102, 105, 110, 100]) = false) (k8 : (kd.toList == [114, 101, 97, 100]) = true) :
    Calls Tryz.prog 13 #[.pointer (some ⟨b, 0, none⟩), .pointer (some ⟨c, 0, none⟩), .agg (acA kd A B' C K On S1 T1)] W fun e w' => GP w b c B k e w' := by
  have S0 : Hid (GS w (W.alloc (.cells (acA kd A B' C K On S1 T1) 50)) b c B F F ∧ ActAt (W.alloc (.cells (acA kd A B' C K On S1 T1) 50)) W.heap.size (acA kd A B' C K On S1 T1) ∧ W.heap.size ≠ b ∧ W.heap.size ≠ c) := Hid.intro ⟨h.below ((Below.refl _ _).alloc (Nat.le_refl _) _), heap_alloc_new W _, by have := h.size; omega, by have := h.size; omega⟩
  have HP := Hid.intro (And.intro hp (And.intro hk hs))
  clear h hp hk hs
  go_enter Tryz.func13, Tryz.ntmps13
  go_upto_region 1 with fail
  refine wp_gen (fun W' => GS w W' b c B F F ∧ ActAt W' W.heap.size (acA kd A B' C K On S1 T1) ∧ W.heap.size ≠ b ∧ W.heap.size ≠ c) S0.out ?_
  rintro W1 ⟨hS1, hbx, hne⟩
  have G1 := Hid.intro hS1
  have HA := Hid.intro (And.intro hbx hne)
  clear S0
  generalize W.heap.size = ba at *
  have x0 := act_cells hbx 0 (.string kd) rfl
  clear hS1 hbx hne
  have KF : Hid (∀ w', ActAt w' ba (acA kd A B' C K On S1 T1) → w'.cell? ⟨ba, 1, none⟩ = some (.int .i64 A) ∧ w'.cell? ⟨ba, 2, none⟩ = some (.int .i64 B') ∧ w'.cell? ⟨ba, 6, none⟩ = some (.string S1) ∧ w'.cell? ⟨ba, 7, none⟩ = some (.string T1)) := Hid.intro (fun W' a => ⟨act_cells a 1 _ rfl, act_cells a 2 _ rfl, act_cells a 6 _ rfl, act_cells a 7 _ rfl⟩)
  have K0 := Hid.intro (KF.out W1 HA.out.1)
  obtain ⟨y1, y2, y6, y7⟩ := KF.out W1 HA.out.1
  have y3 := act_cells HA.out.1 3 (.int .i64 C) rfl
  clear K0
  go_wp2_with fail
  refine (tread_any b A B' C F _ G1.out.2.1 HP.out.1.1.fz).mono ?_
  rintro e w4 ⟨rfl, _, f4⟩
  have C4 := Hid.intro (And.intro (G1.out.below f4) (And.intro (HA.out.1.below f4) trivial))
  clear f4
  obtain ⟨d4, hd4⟩ : ∃ d, Tr.reaS F A B' C = d := ⟨_, rfl⟩
  rw [hd4]
  have DD := Hid.intro hd4
  clear hd4
  clear y1 y2 y3 y6 y7
  obtain ⟨y1, y2, y6, y7⟩ := KF.out w4 C4.out.2.1
  have y3 := act_cells C4.out.2.1 3 (.int .i64 C) rfl
  obtain ⟨R4, rv4, hr4⟩ := C4.out.1.2.2.1
  go_wp2_with fail
  refine (rread_any B c F R4 rv4 _ A B' C hr4 HP.out.1.1.fz).mono ?_
  rintro e w5 ⟨rfl, hw5⟩
  subst w5
  rw [DD.out]
  have FIN : Hid (GP w b c B k (.returned (.bool true)) w4) := Hid.intro ⟨rfl, F, C4.out.1, HP.out.1.1, HP.out.1.2.1.mono (Nat.le_succ k), HP.out.1.2.2⟩
  clear y1 y2 y3 y6 y7 hr4
  go_wp2_with fail
  refine (same_any _ (Tr.reaE_nn F A B' C) _).mono ?_
  rintro e w6 ⟨rfl, hw6⟩
  subst w6
  go_wp2_with fail
  go_ret
  exact FIN.out
end
end Go.Proofs.YthdadmbpnoofoaaGreatDoor

/- The law TreeSays: an act on both forests. -/
namespace Go.Proofs.YthdadmbpnoofoaaGreatDoor
open Go.RowKit
open Tr (Fo Nd RN)

section
variable (w W : World) (b c : Nat) (B : Bs) (k : Nat) (F : Fo) (kd : ByteArray) (A B' C : Int) (K : Nat) (On : Bool) (S1 T1 : ByteArray)
theorem grown_any (h : GS w W b c B F F) (hp : PF k F) (hk : k < 999) (hs : S1.size < 2 ^ 60) :
    Calls Tryz.prog 13 #[.pointer (some ⟨b, 0, none⟩), .pointer (some ⟨c, 0, none⟩), .agg (acA kd A B' C K On S1 T1)] W fun e w' => GP w b c B k e w' := by
  by_cases k0 : (kd.toList == [112, 108, 97, 110, 116]) = true
  · exact grown_plant w W b c B k F kd A B' C K On S1 T1 h hp hk hs  k0
  have n0 : (kd.toList == [112, 108, 97, 110, 116]) = false := by simpa using k0
  by_cases k1 : (kd.toList == [109, 97, 107, 101]) = true
  · exact grown_make w W b c B k F kd A B' C K On S1 T1 h hp hk hs n0 k1
  have n1 : (kd.toList == [109, 97, 107, 101]) = false := by simpa using k1
  by_cases k2 : (kd.toList == [108, 105, 110, 107]) = true
  · exact grown_link w W b c B k F kd A B' C K On S1 T1 h hp hk hs n0 n1 k2
  have n2 : (kd.toList == [108, 105, 110, 107]) = false := by simpa using k2
  by_cases k3 : (kd.toList == [114, 101, 109, 111, 118, 101]) = true
  · exact grown_remove w W b c B k F kd A B' C K On S1 T1 h hp hk hs n0 n1 n2 k3
  have n3 : (kd.toList == [114, 101, 109, 111, 118, 101]) = false := by simpa using k3
  by_cases k4 : (kd.toList == [109, 111, 118, 101]) = true
  · exact grown_move w W b c B k F kd A B' C K On S1 T1 h hp hk hs n0 n1 n2 n3 k4
  have n4 : (kd.toList == [109, 111, 118, 101]) = false := by simpa using k4
  by_cases k5 : (kd.toList == [104, 111, 108, 100]) = true
  · exact grown_hold w W b c B k F kd A B' C K On S1 T1 h hp hk hs n0 n1 n2 n3 n4 k5
  have n5 : (kd.toList == [104, 111, 108, 100]) = false := by simpa using k5
  by_cases k6 : (kd.toList == [108, 101, 116]) = true
  · exact grown_let w W b c B k F kd A B' C K On S1 T1 h hp hk hs n0 n1 n2 n3 n4 n5 k6
  have n6 : (kd.toList == [108, 101, 116]) = false := by simpa using k6
  by_cases k7 : (kd.toList == [102, 105, 110, 100]) = true
  · exact grown_find w W b c B k F kd A B' C K On S1 T1 h hp hk hs n0 n1 n2 n3 n4 n5 n6 k7
  have n7 : (kd.toList == [102, 105, 110, 100]) = false := by simpa using k7
  by_cases k8 : (kd.toList == [114, 101, 97, 100]) = true
  · exact grown_read w W b c B k F kd A B' C K On S1 T1 h hp hk hs n0 n1 n2 n3 n4 n5 n6 n7 k8
  have n8 : (kd.toList == [114, 101, 97, 100]) = false := by simpa using k8
  by_cases k9 : (kd.toList == [119, 114, 105, 116, 101]) = true
  · exact grown_write w W b c B k F kd A B' C K On S1 T1 h hp hk hs n0 n1 n2 n3 n4 n5 n6 n7 n8 k9
  have n9 : (kd.toList == [119, 114, 105, 116, 101]) = false := by simpa using k9
  exact grown_cut w W b c B k F kd A B' C K On S1 T1 h hp hk hs n0 n1 n2 n3 n4 n5 n6 n7 n8 n9
end
end Go.Proofs.YthdadmbpnoofoaaGreatDoor

/- The law TreeSays: an act on both forests, remove, move. -/
import Derived.Test.YthdadmbpnoofoaaGreatDoorZa
namespace Go.Proofs.YthdadmbpnoofoaaGreatDoor
open Go.RowKit
open Tr (Fo Nd RN)

section
variable (w W : World) (b c : Nat) (B : Bs) (k : Nat) (F : Fo) (kd : ByteArray) (A B' C : Int) (K : Nat) (On : Bool) (S1 T1 : ByteArray)
set_option maxRecDepth 100000 in
set_option maxHeartbeats 4000000 in
theorem grown_remove (h : GS w W b c B F F) (hp : PF k F) (hk : k < 999) (hs : S1.size < 2 ^ 60) (k0 : (kd.toList == [112, 108, 97, 110, 116]) = false) (k1 : (kd.toList == [109, 97, 107, 101]) = false) (k2 : (kd.toList == [108, 105, 110, 107]) = false) (k3 : (kd.toList == [114, 101, 109, 111, 118, 101]) = true) :
    Calls Tryz.prog 13 #[.pointer (some ⟨b, 0, none⟩), .pointer (some ⟨c, 0, none⟩), .agg (acA kd A B' C K On S1 T1)] W fun e w' => GP w b c B k e w' := by
  have S0 : Hid (GS w (W.alloc (.cells (acA kd A B' C K On S1 T1) 50)) b c B F F ∧ ActAt (W.alloc (.cells (acA kd A B' C K On S1 T1) 50)) W.heap.size (acA kd A B' C K On S1 T1) ∧ W.heap.size ≠ b ∧ W.heap.size ≠ c) := Hid.intro ⟨h.below ((Below.refl _ _).alloc (Nat.le_refl _) _), heap_alloc_new W _, by have := h.size; omega, by have := h.size; omega⟩
  have HP := Hid.intro (And.intro hp (And.intro hk hs))
  clear h hp hk hs
  go_enter Tryz.func13, Tryz.ntmps13
  go_upto_region 1 with fail
  refine wp_gen (fun W' => GS w W' b c B F F ∧ ActAt W' W.heap.size (acA kd A B' C K On S1 T1) ∧ W.heap.size ≠ b ∧ W.heap.size ≠ c) S0.out ?_
  rintro W1 ⟨hS1, hbx, hne⟩
  have G1 := Hid.intro hS1
  have HA := Hid.intro (And.intro hbx hne)
  clear S0
  generalize W.heap.size = ba at *
  have x0 := act_cells hbx 0 (.string kd) rfl
  clear hS1 hbx hne
  have KF : Hid (∀ w', ActAt w' ba (acA kd A B' C K On S1 T1) → w'.cell? ⟨ba, 1, none⟩ = some (.int .i64 A) ∧ w'.cell? ⟨ba, 2, none⟩ = some (.int .i64 B') ∧ w'.cell? ⟨ba, 6, none⟩ = some (.string S1) ∧ w'.cell? ⟨ba, 7, none⟩ = some (.string T1)) := Hid.intro (fun W' a => ⟨act_cells a 1 _ rfl, act_cells a 2 _ rfl, act_cells a 6 _ rfl, act_cells a 7 _ rfl⟩)
  have K0 := Hid.intro (KF.out W1 HA.out.1)
  go_wp2_with fail
  go_region_held3 (fun w' => w'.cell? ⟨ba, 1, none⟩ = some (.int .i64 A) ∧ w'.cell? ⟨ba, 2, none⟩ = some (.int .i64 B') ∧ w'.cell? ⟨ba, 6, none⟩ = some (.string S1) ∧ w'.cell? ⟨ba, 7, none⟩ = some (.string T1)) (first | exact K0.out | exact K4.out | exact K5.out | exact K6.out) ((first | (go_at_call 33; refine (tremove_any b A S1 F _ G1.out.2.1.drew HP.out.1.1.sz HP.out.1.1.kid).mono ?_; rintro e w4 ⟨E4, G4, rfl, m4, u4, f4⟩; have f5 : Frm b W1 w4 := ⟨f4.os, f4.tape, f4.output, f4.size, f4.block⟩; have C4 := Hid.intro (And.intro (G1.out.code u4 f5) (And.intro (HA.out.1.frm HA.out.2.1 f5) m4)); have K4 := Hid.intro (KF.out w4 C4.out.2.1); clear u4 f4 f5 m4) | (go_at_call 34; obtain ⟨R4, rv4, hr4⟩ := C4.out.1.2.2.1; refine (rremove_any B c F R4 rv4 _ A S1 hr4 HP.out.1.1 (HP.out.1.2.1.lt (by have := HP.out.2.1; omega))).mono ?_; rintro e w5 ⟨E5, G5, rfl, m5, u5, f5⟩; obtain ⟨rfl, rfl⟩ := C4.out.2.2.unique m5; have C5 := Hid.intro (And.intro (C4.out.1.ref1 u5 f5) (C4.out.2.1.frm HA.out.2.2 f5)); have K5 := Hid.intro (KF.out w5 C5.out.2); clear u5 f5 m5 hr4) | (go_at_call 9; refine (same_any _ C4.out.2.2.nn _).mono ?_; rintro e w6 ⟨rfl, hw6⟩; subst w6; have K6 := K5)))
  have FIN : Hid (GP w b c B k (.returned (.bool true)) w5) := Hid.intro ⟨rfl, G4, C5.out.1, HP.out.1.1.rem C4.out.2.2, (HP.out.1.2.1.rem HP.out.1.1 C4.out.2.2).mono (Nat.le_succ k), HP.out.1.2.2.rem HP.out.1.1 C4.out.2.2⟩
  go_wp2_with fail
  go_ret
  exact FIN.out
set_option maxRecDepth 100000 in
set_option maxHeartbeats 4000000 in
theorem grown_move (h : GS w W b c B F F) (hp : PF k F) (hk : k < 999) (hs : S1.size < 2 ^ 60) (k0 : (kd.toList == [112, 108, 97, 110, 116]) = false) (k1 : (kd.toList == [109, 97, 107, 101]) = false) (k2 : (kd.toList == [108, 105, 110, 107]) = false) (k3 : (kd.toList == [114, 101, 109, 111, 118, 101]) = false) (k4 : (kd.toList == [109, 111, 118, 101]) = true) :
    Calls Tryz.prog 13 #[.pointer (some ⟨b, 0, none⟩), .pointer (some ⟨c, 0, none⟩), .agg (acA kd A B' C K On S1 T1)] W fun e w' => GP w b c B k e w' := by
  have S0 : Hid (GS w (W.alloc (.cells (acA kd A B' C K On S1 T1) 50)) b c B F F ∧ ActAt (W.alloc (.cells (acA kd A B' C K On S1 T1) 50)) W.heap.size (acA kd A B' C K On S1 T1) ∧ W.heap.size ≠ b ∧ W.heap.size ≠ c) := Hid.intro ⟨h.below ((Below.refl _ _).alloc (Nat.le_refl _) _), heap_alloc_new W _, by have := h.size; omega, by have := h.size; omega⟩
  have HP := Hid.intro (And.intro hp (And.intro hk hs))
  clear h hp hk hs
  go_enter Tryz.func13, Tryz.ntmps13
  go_upto_region 1 with fail
  refine wp_gen (fun W' => GS w W' b c B F F ∧ ActAt W' W.heap.size (acA kd A B' C K On S1 T1) ∧ W.heap.size ≠ b ∧ W.heap.size ≠ c) S0.out ?_
  rintro W1 ⟨hS1, hbx, hne⟩
  have G1 := Hid.intro hS1
  have HA := Hid.intro (And.intro hbx hne)
  clear S0
  generalize W.heap.size = ba at *
  have x0 := act_cells hbx 0 (.string kd) rfl
  clear hS1 hbx hne
  have KF : Hid (∀ w', ActAt w' ba (acA kd A B' C K On S1 T1) → w'.cell? ⟨ba, 1, none⟩ = some (.int .i64 A) ∧ w'.cell? ⟨ba, 2, none⟩ = some (.int .i64 B') ∧ w'.cell? ⟨ba, 6, none⟩ = some (.string S1) ∧ w'.cell? ⟨ba, 7, none⟩ = some (.string T1)) := Hid.intro (fun W' a => ⟨act_cells a 1 _ rfl, act_cells a 2 _ rfl, act_cells a 6 _ rfl, act_cells a 7 _ rfl⟩)
  have K0 := Hid.intro (KF.out W1 HA.out.1)
  go_wp2_with fail
  go_region_held3 (fun w' => w'.cell? ⟨ba, 1, none⟩ = some (.int .i64 A) ∧ w'.cell? ⟨ba, 2, none⟩ = some (.int .i64 B') ∧ w'.cell? ⟨ba, 6, none⟩ = some (.string S1) ∧ w'.cell? ⟨ba, 7, none⟩ = some (.string T1)) (first | exact K0.out | exact K4.out | exact K5.out | exact K6.out) ((first | (go_at_call 35; refine (tmove_any b A S1 B' T1 F _ G1.out.2.1.drew HP.out.1.1.sz HP.out.1.1.kid HP.out.1.1.en).mono ?_; rintro e w4 ⟨E4, G4, rfl, m4, u4, f4⟩; have f5 : Frm b W1 w4 := ⟨f4.os, f4.tape, f4.output, f4.size, f4.block⟩; have C4 := Hid.intro (And.intro (G1.out.code u4 f5) (And.intro (HA.out.1.frm HA.out.2.1 f5) m4)); have K4 := Hid.intro (KF.out w4 C4.out.2.1); clear u4 f4 f5 m4) | (go_at_call 36; obtain ⟨R4, rv4, hr4⟩ := C4.out.1.2.2.1; refine (rmove_any B c F R4 rv4 _ A B' S1 T1 hr4 HP.out.1.1).mono ?_; rintro e w5 ⟨E5, G5, rfl, m5, u5, f5⟩; obtain ⟨rfl, rfl⟩ := C4.out.2.2.unique m5; have C5 := Hid.intro (And.intro (C4.out.1.ref1 u5 f5) (C4.out.2.1.frm HA.out.2.2 f5)); have K5 := Hid.intro (KF.out w5 C5.out.2); clear u5 f5 m5 hr4) | (go_at_call 9; refine (same_any _ C4.out.2.2.nn _).mono ?_; rintro e w6 ⟨rfl, hw6⟩; subst w6; have K6 := K5)))
  have FIN : Hid (GP w b c B k (.returned (.bool true)) w5) := Hid.intro ⟨rfl, G4, C5.out.1, HP.out.1.1.mov C4.out.2.2, (HP.out.1.2.1.mov HP.out.1.1 C4.out.2.2).mono (Nat.le_succ k), HP.out.1.2.2.mov C4.out.2.2⟩
  go_wp2_with fail
  go_ret
  exact FIN.out
end
end Go.Proofs.YthdadmbpnoofoaaGreatDoor

/- FilesSays: a name made or taken away, on both sides. -/
import Derived.Test.YtmneolabgajhmaaGreatGa
import Derived.Deep.RegionHeld3
namespace Go.Proofs.YtmneolabgajhmaaGreat
open Go.RowKit
open Fx (Fi)
open Tr (Fo Nd RN)
open Pp (Pi)

section
variable (w W : World) (t b p m c q k : Nat) (B : Bs) (T : Nat → Fi) (F : Fo) (S : Nat → Pi) (kd : ByteArray) (A B' C : Int) (K : Nat) (On : Bool) (S1 T1 : ByteArray)
set_option maxRecDepth 100000 in
set_option maxHeartbeats 4000000 in
theorem ygrown_make (h : GY w W t b p m c q B T F S T F S) (hp : WJ k T F S) (hk : k < 900) (k0 : (kd.toList == [112, 108, 97, 110, 116]) = false) (k1 : (kd.toList == [109, 97, 107, 101]) = true) :
    Calls Tryz.prog 11 #[.pointer (some ⟨b, 0, none⟩), .pointer (some ⟨c, 0, none⟩), .agg (acA kd A B' C K On S1 T1)] W fun e w' => OP w t b p m c q B k e w' := by
  have S0 : Hid (GY w (W.alloc (.cells (acA kd A B' C K On S1 T1) 64)) t b p m c q B T F S T F S ∧ ActAt (W.alloc (.cells (acA kd A B' C K On S1 T1) 64)) W.heap.size (acA kd A B' C K On S1 T1) ∧ W.heap.size ≠ b ∧ W.heap.size ≠ c) := Hid.intro ⟨h.below ((Below.refl _ _).alloc (Nat.le_refl _) _), heap_alloc_new W _, Nat.ne_of_gt h.2.1.2.1.lt, by obtain ⟨R, rv, hr⟩ := h.2.2.1.2.1; exact Nat.ne_of_gt hr.rb.lt⟩
  have HP := Hid.intro (And.intro hp hk)
  clear h hp hk
  go_enter Tryz.func11, Tryz.ntmps11
  go_upto_region 1 with fail
  refine wp_gen (fun W' => GY w W' t b p m c q B T F S T F S ∧ ActAt W' W.heap.size (acA kd A B' C K On S1 T1) ∧ W.heap.size ≠ b ∧ W.heap.size ≠ c) S0.out ?_
  rintro W1 ⟨hS1, hbx, hne⟩
  have G1 := Hid.intro hS1
  have HA := Hid.intro (And.intro hbx hne)
  clear S0
  generalize W.heap.size = ba at *
  have x0 := act_cells hbx 0 (.string kd) rfl
  clear hS1 hbx hne
  have KF : Hid (∀ w', ActAt w' ba (acA kd A B' C K On S1 T1) → w'.cell? ⟨ba, 1, none⟩ = some (.int .i64 A) ∧ w'.cell? ⟨ba, 2, none⟩ = some (.int .i64 B') ∧ w'.cell? ⟨ba, 6, none⟩ = some (.string S1) ∧ w'.cell? ⟨ba, 7, none⟩ = some (.string T1)) := Hid.intro (fun W' a => ⟨act_cells a 1 _ rfl, act_cells a 2 _ rfl, act_cells a 6 _ rfl, act_cells a 7 _ rfl⟩)
  have K0 := Hid.intro (KF.out W1 HA.out.1)
  obtain ⟨y1, y2, y6, y7⟩ := KF.out W1 HA.out.1
  have y3 := act_cells HA.out.1 3 (.int .i64 C) rfl
  clear K0
  go_wp2_with fail
  refine (tmake_any b A S1 B' F _ G1.out.2.1.2.1 HP.out.1.ok.sz).mono ?_
  rintro e w4 ⟨K4n, E4, G4, rfl, m4, u4, f4⟩
  have C4 := Hid.intro (And.intro (G1.out.code (G1.out.2.1.fo u4 f4) (Tri.fo f4)) (And.intro (HA.out.1.frm HA.out.2.1 f4) m4))
  clear u4 f4 m4
  clear y1 y2 y3 y6 y7
  obtain ⟨y1, y2, y6, y7⟩ := KF.out w4 C4.out.2.1
  have y3 := act_cells C4.out.2.1 3 (.int .i64 C) rfl
  obtain ⟨R4, rv4, hr4⟩ := C4.out.1.2.2.1.2.1
  go_wp2_with fail
  refine (rmake_any B c F R4 rv4 _ A B' S1 hr4 HP.out.1.ok).mono ?_
  rintro e w5 ⟨K5n, E5, G5, rfl, m5, u5, f5⟩
  obtain ⟨rfl, rfl, rfl⟩ := C4.out.2.2.unique m5
  have FIN : Hid (OP w t b p m c q B k (.returned (.bool true)) w5) := Hid.intro ⟨rfl, T, G4, S, C4.out.1.ref (C4.out.1.2.2.1.fo (by obtain ⟨R5, h5⟩ := u5; exact ⟨R5, rv4, h5⟩) f5) (Tri.fo f5), ⟨HP.out.1.wi.mak m5, HP.out.1.ok.mak m5, HP.out.1.zb.mak m5, HP.out.1.pi.up, HP.out.1.up⟩⟩
  clear u5 f5 m5
  clear y1 y2 y3 y6 y7 hr4
  go_wp2_with fail
  refine (same_any _ (C4.out.2.2.nn) _).mono ?_
  rintro e w6 ⟨rfl, hw6⟩
  subst w6
  go_wp2_with fail
  go_ret
  exact FIN.out
set_option maxRecDepth 100000 in
set_option maxRecDepth 100000 in
set_option maxHeartbeats 4000000 in
theorem ygrown_remove (h : GY w W t b p m c q B T F S T F S) (hp : WJ k T F S) (hk : k < 900) (k0 : (kd.toList == [112, 108, 97, 110, 116]) = false) (k1 : (kd.toList == [109, 97, 107, 101]) = false) (k2 : (kd.toList == [108, 105, 110, 107]) = false) (k3 : (kd.toList == [114, 101, 109, 111, 118, 101]) = true) :
    Calls Tryz.prog 11 #[.pointer (some ⟨b, 0, none⟩), .pointer (some ⟨c, 0, none⟩), .agg (acA kd A B' C K On S1 T1)] W fun e w' => OP w t b p m c q B k e w' := by
  have S0 : Hid (GY w (W.alloc (.cells (acA kd A B' C K On S1 T1) 64)) t b p m c q B T F S T F S ∧ ActAt (W.alloc (.cells (acA kd A B' C K On S1 T1) 64)) W.heap.size (acA kd A B' C K On S1 T1) ∧ W.heap.size ≠ b ∧ W.heap.size ≠ c) := Hid.intro ⟨h.below ((Below.refl _ _).alloc (Nat.le_refl _) _), heap_alloc_new W _, Nat.ne_of_gt h.2.1.2.1.lt, by obtain ⟨R, rv, hr⟩ := h.2.2.1.2.1; exact Nat.ne_of_gt hr.rb.lt⟩
  have HP := Hid.intro (And.intro hp hk)
  clear h hp hk
  go_enter Tryz.func11, Tryz.ntmps11
  go_upto_region 1 with fail
  refine wp_gen (fun W' => GY w W' t b p m c q B T F S T F S ∧ ActAt W' W.heap.size (acA kd A B' C K On S1 T1) ∧ W.heap.size ≠ b ∧ W.heap.size ≠ c) S0.out ?_
  rintro W1 ⟨hS1, hbx, hne⟩
  have G1 := Hid.intro hS1
  have HA := Hid.intro (And.intro hbx hne)
  clear S0
  generalize W.heap.size = ba at *
  have x0 := act_cells hbx 0 (.string kd) rfl
  clear hS1 hbx hne
  have KF : Hid (∀ w', ActAt w' ba (acA kd A B' C K On S1 T1) → w'.cell? ⟨ba, 1, none⟩ = some (.int .i64 A) ∧ w'.cell? ⟨ba, 2, none⟩ = some (.int .i64 B') ∧ w'.cell? ⟨ba, 6, none⟩ = some (.string S1) ∧ w'.cell? ⟨ba, 7, none⟩ = some (.string T1)) := Hid.intro (fun W' a => ⟨act_cells a 1 _ rfl, act_cells a 2 _ rfl, act_cells a 6 _ rfl, act_cells a 7 _ rfl⟩)
  have K0 := Hid.intro (KF.out W1 HA.out.1)
  go_wp2_with fail
  go_region_held3 (fun w' => w'.cell? ⟨ba, 1, none⟩ = some (.int .i64 A) ∧ w'.cell? ⟨ba, 2, none⟩ = some (.int .i64 B') ∧ w'.cell? ⟨ba, 6, none⟩ = some (.string S1) ∧ w'.cell? ⟨ba, 7, none⟩ = some (.string T1)) (first | exact K0.out | exact K4.out | exact K5.out | exact K6.out) ((first | (go_at_call 30; refine (tremove_any b A S1 F _ G1.out.2.1.2.1.drew HP.out.1.ok.sz HP.out.1.ok.kid).mono ?_; rintro e w4 ⟨E4, G4, rfl, m4, u4, f4⟩; have f5 : Frm b W1 w4 := ⟨f4.os, f4.tape, f4.output, f4.size, f4.block⟩; have C4 := Hid.intro (And.intro (G1.out.code (G1.out.2.1.fo u4 f5) (Tri.fo f5)) (And.intro (HA.out.1.frm HA.out.2.1 f5) m4)); have K4 := Hid.intro (KF.out w4 C4.out.2.1); clear u4 f4 f5 m4) | (go_at_call 31; obtain ⟨R4, rv4, hr4⟩ := C4.out.1.2.2.1.2.1; refine (rremove_any B c F R4 rv4 _ A S1 hr4 HP.out.1.ok (HP.out.1.hb.lt (by decide))).mono ?_; rintro e w5 ⟨E5, G5, rfl, m5, u5, f5⟩; obtain ⟨rfl, rfl⟩ := C4.out.2.2.unique m5; have C5 := Hid.intro (And.intro (C4.out.1.ref (C4.out.1.2.2.1.fo (by obtain ⟨R5, h5⟩ := u5; exact ⟨R5, rv4, h5⟩) f5) (Tri.fo f5)) (C4.out.2.1.frm HA.out.2.2 f5)); have K5 := Hid.intro (KF.out w5 C5.out.2); clear u5 f5 m5 hr4) | (go_at_call 15; refine (same_any _ C4.out.2.2.nn _).mono ?_; rintro e w6 ⟨rfl, hw6⟩; subst w6; have K6 := K5)))
  have FIN : Hid (OP w t b p m c q B k (.returned (.bool true)) w5) := Hid.intro ⟨rfl, T, G4, S, C5.out.1, ⟨HP.out.1.wi.rem C4.out.2.2, HP.out.1.ok.rem C4.out.2.2, HP.out.1.zb.rem HP.out.1.ok C4.out.2.2, HP.out.1.pi.up, HP.out.1.up⟩⟩
  go_wp2_with fail
  go_ret
  exact FIN.out
end
end Go.Proofs.YtmneolabgajhmaaGreat

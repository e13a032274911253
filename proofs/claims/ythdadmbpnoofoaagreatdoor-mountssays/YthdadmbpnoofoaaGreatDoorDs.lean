/- MountsSays: acts on the forest, both sides. -/
import Derived.Test.YthdadmbpnoofoaaGreatDoorDq
import Derived.Test.YthdadmbpnoofoaaGreatDoorZc
namespace Go.Proofs.YthdadmbpnoofoaaGreatDoor
open Go.RowKit
open Tr (Fo Nd)
open Mo (Wh Mt Tb)

section
variable {w W W' : World} {f b g m : Nat} {B : Bs} {T T' : Tb} {v v' : Value} {F F2 F' G : Fo}
theorem MS.codeF (h : MS w W f b g m B T v F T' v' F') (hF : FAt W' f F2) (k : Frm f W W') : MS w W' f b g m B T v F2 T' v' F' := by
  obtain ⟨D, hD, _⟩ := h.co.blk
  refine ⟨k.below h.bel h.lf h.bel.size, hF, h.ct.ofF h.co k, ⟨h.rm.tb.same (k.block m h.rm.tb.lt (blk_ne h.rm.tb.blk hD (by decide))) (fun n e => k.block n (h.rm.tb.row.lt n e).2 (h.rm.tb.row.ne_of hD (by decide) n e)), ?_, h.rm.ab, h.rm.ar⟩, h.lf, h.lb, h.lg, h.lm, h.fb, h.ab, h.av, h.sp⟩
  obtain ⟨R, rv, q⟩ := h.rm.fo
  exact ⟨R, rv, q.frm k h.fb⟩
theorem MS.refF (h : MS w W f b g m B T v F T' v' F') (u : ∃ R rv, FR B W' g G R rv) (k : Frm g W W') : MS w W' f b g m B T v F T' v' G :=
  h.ref (h.rm.forest u k) (BsG.refl _ _) (Onl.of_frm k (.inr (.inl rfl))) (.inl rfl)
theorem Mo.QI.mak {z kz E : Int} {s : ByteArray} {K : Nat} (h : Mo.QI F T) (hm : Tr.MakTo F z s kz K E G) : Mo.QI G T := ⟨h.pi.mak hm, h.uq, h.zb.mak hm⟩
theorem Mo.QI.rem {z E : Int} {s : ByteArray} (h : Mo.QI F T) (hm : Tr.RemTo F z s E G) : Mo.QI G T := ⟨⟨h.pi.ok.rem hm, h.pi.hi.rem hm, h.pi.rg, h.pi.six⟩, h.uq, h.zb.rem h.pi.ok hm⟩
theorem Mo.QI.mov {z y E : Int} {s o : ByteArray} (h : Mo.QI F T) (hm : Tr.MovTo F z s y o E G) : Mo.QI G T := ⟨⟨h.pi.ok.mov hm, h.pi.hi.mov hm, h.pi.rg, h.pi.six⟩, h.uq, h.zb.mov hm⟩
theorem Mo.QI.lt (h : Mo.QI F T) : ∀ n, n < 40 → (F.nd n).held < 2 ^ 60 := fun n hn => by have := h.pi.hb n hn; omega
end
section
variable (w W : World) (f b g m : Nat) (B : Bs) (T : Tb) (v v' : Value) (F : Fo) (kd : ByteArray) (A B' C : Int) (K : Nat) (On : Bool) (S1 T1 : ByteArray)
set_option maxRecDepth 100000 in
set_option maxHeartbeats 4000000 in
theorem mgrown_make (h : MS w W f b g m B T v F T v' F) (hp : Mo.QI F T) (k0 : (kd.toList == [112, 108, 97, 110, 116]) = false) (k1 : (kd.toList == [109, 97, 107, 101]) = true) :
    Calls Tryz.prog 13 #[.pointer (some ⟨f, 0, none⟩), .pointer (some ⟨g, 0, none⟩), .agg (acA kd A B' C K On S1 T1)] W fun e w' => MP w f b g m e w' := by
  have S0 : Hid (MS w (W.alloc (.cells (acA kd A B' C K On S1 T1) 50)) f b g m B T v F T v' F ∧ ActAt (W.alloc (.cells (acA kd A B' C K On S1 T1) 50)) W.heap.size (acA kd A B' C K On S1 T1) ∧ W.heap.size ≠ f ∧ W.heap.size ≠ g) := Hid.intro ⟨h.below ((Below.refl _ _).alloc (Nat.le_refl _) _), heap_alloc_new W _, Nat.ne_of_gt h.co.lt, by obtain ⟨R, rv, hr⟩ := h.rm.fo; exact Nat.ne_of_gt hr.rb.lt⟩
  have HP := Hid.intro hp
  clear h hp
  go_enter Tryz.func13, Tryz.ntmps13
  go_upto_region 1 with fail
  refine wp_gen (fun W' => MS w W' f b g m B T v F T v' F ∧ ActAt W' W.heap.size (acA kd A B' C K On S1 T1) ∧ W.heap.size ≠ f ∧ W.heap.size ≠ g) S0.out ?_
  rintro W1 ⟨hS1, hbx, hne⟩
  have G1 := Hid.intro hS1
  have HA := Hid.intro (And.intro hbx hne)
  clear S0
  generalize W.heap.size = ba at *
  have x0 := act_cells hbx 0 (.string kd) rfl
  clear hS1 hbx hne
  have KF : Hid (∀ w', ActAt w' ba (acA kd A B' C K On S1 T1) → w'.cell? ⟨ba, 1, none⟩ = some (.int .i64 A) ∧ w'.cell? ⟨ba, 2, none⟩ = some (.int .i64 B') ∧ w'.cell? ⟨ba, 6, none⟩ = some (.string S1) ∧ w'.cell? ⟨ba, 7, none⟩ = some (.string T1)) := Hid.intro (fun W' a => ⟨act_cells a 1 _ rfl, act_cells a 2 _ rfl, act_cells a 6 _ rfl, act_cells a 7 _ rfl⟩)
  have K0 := Hid.intro (KF.out W1 HA.out.1)
  obtain ⟨y1, y2, y6, y7⟩ := KF.out W1 HA.out.1
  have y3 := act_cells HA.out.1 3 (.int .i64 C) rfl
  clear K0
  go_wp2_with fail
  refine (tmake_any f A S1 B' F _ G1.out.co HP.out.pi.ok.sz).mono ?_
  rintro e w4 ⟨K4n, E4, G4, rfl, m4, u4, f4⟩
  have C4 := Hid.intro (And.intro (G1.out.codeF u4 f4) (And.intro (HA.out.1.frm HA.out.2.1 f4) m4))
  clear u4 f4 m4
  clear y1 y2 y3 y6 y7
  obtain ⟨y1, y2, y6, y7⟩ := KF.out w4 C4.out.2.1
  have y3 := act_cells C4.out.2.1 3 (.int .i64 C) rfl
  obtain ⟨R4, rv4, hr4⟩ := C4.out.1.rm.fo
  go_wp2_with fail
  refine (rmake_any B g F R4 rv4 _ A B' S1 hr4 HP.out.pi.ok).mono ?_
  rintro e w5 ⟨K5n, E5, G5, rfl, m5, u5, f5⟩
  obtain ⟨rfl, rfl, rfl⟩ := C4.out.2.2.unique m5
  have FIN : Hid (MP w f b g m (.returned (.bool true)) w5) := Hid.intro ⟨rfl, B, T, v, G4, v', C4.out.1.refF (by obtain ⟨R5, h5⟩ := u5; exact ⟨R5, rv4, h5⟩) f5, HP.out.mak m5⟩
  clear u5 f5 m5
  clear y1 y2 y3 y6 y7 hr4
  go_wp2_with fail
  refine (same_any _ (C4.out.2.2.nn) _).mono ?_
  rintro e w6 ⟨rfl, hw6⟩
  subst w6
  go_wp2_with fail
  go_ret
  exact FIN.out
set_option maxRecDepth 100000 in
set_option maxHeartbeats 4000000 in
theorem mgrown_remove (h : MS w W f b g m B T v F T v' F) (hp : Mo.QI F T) (k0 : (kd.toList == [112, 108, 97, 110, 116]) = false) (k1 : (kd.toList == [109, 97, 107, 101]) = false) (k2 : (kd.toList == [108, 105, 110, 107]) = false) (k3 : (kd.toList == [114, 101, 109, 111, 118, 101]) = true) :
    Calls Tryz.prog 13 #[.pointer (some ⟨f, 0, none⟩), .pointer (some ⟨g, 0, none⟩), .agg (acA kd A B' C K On S1 T1)] W fun e w' => MP w f b g m e w' := by
  have S0 : Hid (MS w (W.alloc (.cells (acA kd A B' C K On S1 T1) 50)) f b g m B T v F T v' F ∧ ActAt (W.alloc (.cells (acA kd A B' C K On S1 T1) 50)) W.heap.size (acA kd A B' C K On S1 T1) ∧ W.heap.size ≠ f ∧ W.heap.size ≠ g) := Hid.intro ⟨h.below ((Below.refl _ _).alloc (Nat.le_refl _) _), heap_alloc_new W _, Nat.ne_of_gt h.co.lt, by obtain ⟨R, rv, hr⟩ := h.rm.fo; exact Nat.ne_of_gt hr.rb.lt⟩
  have HP := Hid.intro hp
  clear h hp
  go_enter Tryz.func13, Tryz.ntmps13
  go_upto_region 1 with fail
  refine wp_gen (fun W' => MS w W' f b g m B T v F T v' F ∧ ActAt W' W.heap.size (acA kd A B' C K On S1 T1) ∧ W.heap.size ≠ f ∧ W.heap.size ≠ g) S0.out ?_
  rintro W1 ⟨hS1, hbx, hne⟩
  have G1 := Hid.intro hS1
  have HA := Hid.intro (And.intro hbx hne)
  clear S0
  generalize W.heap.size = ba at *
  have x0 := act_cells hbx 0 (.string kd) rfl
  clear hS1 hbx hne
  have KF : Hid (∀ w', ActAt w' ba (acA kd A B' C K On S1 T1) → w'.cell? ⟨ba, 1, none⟩ = some (.int .i64 A) ∧ w'.cell? ⟨ba, 2, none⟩ = some (.int .i64 B') ∧ w'.cell? ⟨ba, 6, none⟩ = some (.string S1) ∧ w'.cell? ⟨ba, 7, none⟩ = some (.string T1)) := Hid.intro (fun W' a => ⟨act_cells a 1 _ rfl, act_cells a 2 _ rfl, act_cells a 6 _ rfl, act_cells a 7 _ rfl⟩)
  have K0 := Hid.intro (KF.out W1 HA.out.1)
  go_wp2_with fail
  go_region_held3 (fun w' => w'.cell? ⟨ba, 1, none⟩ = some (.int .i64 A) ∧ w'.cell? ⟨ba, 2, none⟩ = some (.int .i64 B') ∧ w'.cell? ⟨ba, 6, none⟩ = some (.string S1) ∧ w'.cell? ⟨ba, 7, none⟩ = some (.string T1)) (first | exact K0.out | exact K4.out | exact K5.out | exact K6.out) ((first | (go_at_call 33; refine (tremove_any f A S1 F _ G1.out.drew.co HP.out.pi.ok.sz HP.out.pi.ok.kid).mono ?_; rintro e w4 ⟨E4, G4, rfl, m4, u4, f4⟩; have f5 : Frm f W1 w4 := ⟨f4.os, f4.tape, f4.output, f4.size, f4.block⟩; have C4 := Hid.intro (And.intro (G1.out.codeF u4 f5) (And.intro (HA.out.1.frm HA.out.2.1 f5) m4)); have K4 := Hid.intro (KF.out w4 C4.out.2.1); clear u4 f4 f5 m4) | (go_at_call 34; obtain ⟨R4, rv4, hr4⟩ := C4.out.1.rm.fo; refine (rremove_any B g F R4 rv4 _ A S1 hr4 HP.out.pi.ok HP.out.lt).mono ?_; rintro e w5 ⟨E5, G5, rfl, m5, u5, f5⟩; obtain ⟨rfl, rfl⟩ := C4.out.2.2.unique m5; have C5 := Hid.intro (And.intro (C4.out.1.refF (by obtain ⟨R5, h5⟩ := u5; exact ⟨R5, rv4, h5⟩) f5) (C4.out.2.1.frm HA.out.2.2 f5)); have K5 := Hid.intro (KF.out w5 C5.out.2); clear u5 f5 m5 hr4) | (go_at_call 9; refine (same_any _ C4.out.2.2.nn _).mono ?_; rintro e w6 ⟨rfl, hw6⟩; subst w6; have K6 := K5)))
  have FIN : Hid (MP w f b g m (.returned (.bool true)) w5) := Hid.intro ⟨rfl, B, T, v, G4, v', C5.out.1, HP.out.rem C4.out.2.2⟩
  go_wp2_with fail
  go_ret
  exact FIN.out
set_option maxRecDepth 100000 in
set_option maxHeartbeats 4000000 in
theorem mgrown_move (h : MS w W f b g m B T v F T v' F) (hp : Mo.QI F T) (k0 : (kd.toList == [112, 108, 97, 110, 116]) = false) (k1 : (kd.toList == [109, 97, 107, 101]) = false) (k2 : (kd.toList == [108, 105, 110, 107]) = false) (k3 : (kd.toList == [114, 101, 109, 111, 118, 101]) = false) (k4 : (kd.toList == [109, 111, 118, 101]) = true) :
    Calls Tryz.prog 13 #[.pointer (some ⟨f, 0, none⟩), .pointer (some ⟨g, 0, none⟩), .agg (acA kd A B' C K On S1 T1)] W fun e w' => MP w f b g m e w' := by
  have S0 : Hid (MS w (W.alloc (.cells (acA kd A B' C K On S1 T1) 50)) f b g m B T v F T v' F ∧ ActAt (W.alloc (.cells (acA kd A B' C K On S1 T1) 50)) W.heap.size (acA kd A B' C K On S1 T1) ∧ W.heap.size ≠ f ∧ W.heap.size ≠ g) := Hid.intro ⟨h.below ((Below.refl _ _).alloc (Nat.le_refl _) _), heap_alloc_new W _, Nat.ne_of_gt h.co.lt, by obtain ⟨R, rv, hr⟩ := h.rm.fo; exact Nat.ne_of_gt hr.rb.lt⟩
  have HP := Hid.intro hp
  clear h hp
  go_enter Tryz.func13, Tryz.ntmps13
  go_upto_region 1 with fail
  refine wp_gen (fun W' => MS w W' f b g m B T v F T v' F ∧ ActAt W' W.heap.size (acA kd A B' C K On S1 T1) ∧ W.heap.size ≠ f ∧ W.heap.size ≠ g) S0.out ?_
  rintro W1 ⟨hS1, hbx, hne⟩
  have G1 := Hid.intro hS1
  have HA := Hid.intro (And.intro hbx hne)
  clear S0
  generalize W.heap.size = ba at *
  have x0 := act_cells hbx 0 (.string kd) rfl
  clear hS1 hbx hne
  have KF : Hid (∀ w', ActAt w' ba (acA kd A B' C K On S1 T1) → w'.cell? ⟨ba, 1, none⟩ = some (.int .i64 A) ∧ w'.cell? ⟨ba, 2, none⟩ = some (.int .i64 B') ∧ w'.cell? ⟨ba, 6, none⟩ = some (.string S1) ∧ w'.cell? ⟨ba, 7, none⟩ = some (.string T1)) := Hid.intro (fun W' a => ⟨act_cells a 1 _ rfl, act_cells a 2 _ rfl, act_cells a 6 _ rfl, act_cells a 7 _ rfl⟩)
  have K0 := Hid.intro (KF.out W1 HA.out.1)
  go_wp2_with fail
  go_region_held3 (fun w' => w'.cell? ⟨ba, 1, none⟩ = some (.int .i64 A) ∧ w'.cell? ⟨ba, 2, none⟩ = some (.int .i64 B') ∧ w'.cell? ⟨ba, 6, none⟩ = some (.string S1) ∧ w'.cell? ⟨ba, 7, none⟩ = some (.string T1)) (first | exact K0.out | exact K4.out | exact K5.out | exact K6.out) ((first | (go_at_call 35; refine (tmove_any f A S1 B' T1 F _ G1.out.drew.co HP.out.pi.ok.sz HP.out.pi.ok.kid HP.out.pi.ok.en).mono ?_; rintro e w4 ⟨E4, G4, rfl, m4, u4, f4⟩; have f5 : Frm f W1 w4 := ⟨f4.os, f4.tape, f4.output, f4.size, f4.block⟩; have C4 := Hid.intro (And.intro (G1.out.codeF u4 f5) (And.intro (HA.out.1.frm HA.out.2.1 f5) m4)); have K4 := Hid.intro (KF.out w4 C4.out.2.1); clear u4 f4 f5 m4) | (go_at_call 36; obtain ⟨R4, rv4, hr4⟩ := C4.out.1.rm.fo; refine (rmove_any B g F R4 rv4 _ A B' S1 T1 hr4 HP.out.pi.ok).mono ?_; rintro e w5 ⟨E5, G5, rfl, m5, u5, f5⟩; obtain ⟨rfl, rfl⟩ := C4.out.2.2.unique m5; have C5 := Hid.intro (And.intro (C4.out.1.refF (by obtain ⟨R5, h5⟩ := u5; exact ⟨R5, rv4, h5⟩) f5) (C4.out.2.1.frm HA.out.2.2 f5)); have K5 := Hid.intro (KF.out w5 C5.out.2); clear u5 f5 m5 hr4) | (go_at_call 9; refine (same_any _ C4.out.2.2.nn _).mono ?_; rintro e w6 ⟨rfl, hw6⟩; subst w6; have K6 := K5)))
  have FIN : Hid (MP w f b g m (.returned (.bool true)) w5) := Hid.intro ⟨rfl, B, T, v, G4, v', C5.out.1, HP.out.mov C4.out.2.2⟩
  go_wp2_with fail
  go_ret
  exact FIN.out
end
end Go.Proofs.YthdadmbpnoofoaaGreatDoor

/- FilesSays: an act on open files, on both sides. -/
import Derived.Test.YtmneolabgajhmaaGreatOc
import Derived.Test.YtmneolabgajhmaaGreatOd
import Derived.Test.YtmneolabgajhmaaGreatGa
import Derived.Deep.RegionHeld3
namespace Go.Proofs.YtmneolabgajhmaaGreat
open Go.RowKit
open Fx (Fi)
open Tr (Fo Nd RN)
open Pp (Pi)

theorem Fx.reaE_nn {T : Nat → Fi} {F : Fo} {S : Nat → Pi} (z m : Int) : 0 ≤ Fx.reaE T F S z m := by
  unfold Fx.reaE
  split
  · exact Fx.filE_nn T z
  · split
    · decide
    · split
      · exact Pp.reaE_nn _ _ _
      · exact Tr.reaE_nn _ _ _ _
theorem Fx.wriE_nn {T : Nat → Fi} {F : Fo} {S : Nat → Pi} (z : Int) (s : ByteArray) : 0 ≤ Fx.wriE T F S z s := by
  unfold Fx.wriE
  split
  · exact Fx.filE_nn T z
  · split
    · exact Pp.wriE_nn _ _ _
    · split
      · decide
      · exact Tr.wriE_nn _ _ _ _
theorem Fx.seeE_nn (T : Nat → Fi) (z a : Int) : 0 ≤ Fx.seeE T z a := by
  have := Fx.filE_nn T z
  unfold Fx.seeE
  repeat' split
  all_goals omega
theorem Fx.NodTo.nn {T T' : Nat → Fi} {F F' : Fo} {z E : Int} {wr : Bool} {K : Nat} (h : Fx.NodTo T F z wr K E T' F') : 0 ≤ E := by
  rcases h with ⟨_, _, e, _⟩ | ⟨_, _, _, e, _⟩ | ⟨_, _, _, e, _⟩
  · rw [e]; exact Tr.isE_nn _ _ _
  · omega
  · omega
theorem Fx.PipTo.nn {T T' : Nat → Fi} {S S' : Nat → Pi} {A C : Nat} {E : Int} (h : Fx.PipTo T S A C E T' S') : 0 ≤ E := by
  rcases h with ⟨_, _, _, e, _⟩ | ⟨_, n, e', hf, ⟨_, _, _, e, _⟩ | ⟨_, e, _⟩⟩
  · omega
  · rw [e]; exact hf.nn'
  · omega
section
variable (w W : World) (t b p m c q k : Nat) (B : Bs) (T : Nat → Fi) (F : Fo) (S : Nat → Pi) (kd : ByteArray) (A B' C : Int) (K : Nat) (On : Bool) (S1 T1 : ByteArray)
set_option maxRecDepth 100000 in
set_option maxHeartbeats 4000000 in
theorem opened_node (h : GY w W t b p m c q B T F S T F S) (hp : WJ k T F S) (hk : k < 900) (hs : S1.size < 2 ^ 59) (k0 : (kd.toList == [110, 111, 100, 101]) = true) :
    Calls Tryz.prog 12 #[.pointer (some ⟨t, 0, none⟩), .pointer (some ⟨m, 0, none⟩), .agg (acA kd A B' C K On S1 T1)] W fun e w' => OP w t b p m c q B k e w' := by
  have NE : Hid (W.heap.size ≠ t ∧ W.heap.size ≠ b ∧ W.heap.size ≠ p ∧ W.heap.size ≠ m ∧ W.heap.size ≠ c ∧ W.heap.size ≠ q) := Hid.intro ⟨Nat.ne_of_gt h.2.1.1.lt, Nat.ne_of_gt h.2.1.2.1.lt, Nat.ne_of_gt h.2.1.2.2.1.lt, Nat.ne_of_gt h.2.2.1.1.lt, by obtain ⟨R, rv, hr⟩ := h.2.2.1.2.1; exact Nat.ne_of_gt hr.rb.lt, Nat.ne_of_gt h.2.2.1.2.2.1.lt⟩
  have S0 : Hid (GY w (W.alloc (.cells (acA kd A B' C K On S1 T1) 64)) t b p m c q B T F S T F S ∧ ActAt (W.alloc (.cells (acA kd A B' C K On S1 T1) 64)) W.heap.size (acA kd A B' C K On S1 T1)) := Hid.intro ⟨h.below ((Below.refl _ _).alloc (Nat.le_refl _) _), heap_alloc_new W _⟩
  have HP := Hid.intro hp
  have HK := Hid.intro hk
  have HS := Hid.intro hs
  have SM : Hid (Pp.Sm S) := Hid.intro (hp.pi.sm (by omega))
  clear h hp hk hs
  go_enter Tryz.func12, Tryz.ntmps12
  go_upto_region 1 with fail
  refine wp_gen (fun W' => GY w W' t b p m c q B T F S T F S ∧ ActAt W' W.heap.size (acA kd A B' C K On S1 T1)) S0.out ?_
  rintro W1 ⟨hS1, hbx⟩
  have G1 := Hid.intro hS1
  have HA := Hid.intro hbx
  clear S0
  generalize W.heap.size = ba at *
  have x0 := act_cells hbx 0 (.string kd) rfl
  clear hS1 hbx
  have KF : Hid (∀ w', ActAt w' ba (acA kd A B' C K On S1 T1) → w'.cell? ⟨ba, 1, none⟩ = some (.int .i64 A) ∧ w'.cell? ⟨ba, 2, none⟩ = some (.int .i64 B') ∧ w'.cell? ⟨ba, 5, none⟩ = some (.bool On) ∧ w'.cell? ⟨ba, 6, none⟩ = some (.string S1)) := Hid.intro (fun W' a => ⟨act_cells a 1 _ rfl, act_cells a 2 _ rfl, act_cells a 5 _ rfl, act_cells a 6 _ rfl⟩)
  have TA : Hid (∀ u v, ActAt u ba (acA kd A B' C K On S1 T1) → Tri t b p u v → ActAt v ba (acA kd A B' C K On S1 T1)) := Hid.intro (fun u v a f => (f.block ba (Array.getElem?_eq_some_iff.1 a).1 NE.out.1 NE.out.2.1 NE.out.2.2.1).trans a)
  have TB : Hid (∀ u v, ActAt u ba (acA kd A B' C K On S1 T1) → Tri m c q u v → ActAt v ba (acA kd A B' C K On S1 T1)) := Hid.intro (fun u v a f => (f.block ba (Array.getElem?_eq_some_iff.1 a).1 NE.out.2.2.2.1 NE.out.2.2.2.2.1 NE.out.2.2.2.2.2).trans a)
  obtain ⟨x1, x2, x5, x6⟩ := KF.out _ HA.out
  go_wp2_with fail
  refine (xnode_any t b p A On T F S _ G1.out.2.1 HP.out.wi.sm).mono ?_
  rintro e W3 ⟨K3, E3, T3, F3, rfl, m3, h3, r3⟩
  have G3 := Hid.intro (G1.out.code h3 r3)
  have A3 := Hid.intro (TA.out _ _ HA.out r3)
  clear x0 x1 x2 x5 x6 h3 r3
  obtain ⟨x1, x2, x5, x6⟩ := KF.out _ A3.out
  go_wp2_with fail
  refine (onode_any m c q B A On T F S _ G3.out.2.2.1 HP.out.wi.sm).mono ?_
  rintro e W5 ⟨K5, E5, T5, F5, rfl, m5, h5, r5⟩
  obtain ⟨rfl, rfl, rfl, rfl⟩ := m3.unique m5
  have G5 := Hid.intro (G3.out.ref h5 r5)
  have P5 := Hid.intro (HP.out.node m3)
  have SA := Hid.intro (same_any _ (m3.nn))
  clear x1 x2 x5 x6 h5 r5
  clear m3 m5
  generalize errV E3 = ev at *
  go_wp2_with (go_at_call 15; refine (SA.out _).mono ?_; rintro e w6 ⟨rfl, hw6⟩; subst w6)
  go_ret
  exact ⟨rfl, _, _, _, G5.out, P5.out⟩
set_option maxRecDepth 100000 in
set_option maxHeartbeats 4000000 in
theorem opened_pipe (h : GY w W t b p m c q B T F S T F S) (hp : WJ k T F S) (hk : k < 900) (hs : S1.size < 2 ^ 59) (k0 : (kd.toList == [110, 111, 100, 101]) = false) (k1 : (kd.toList == [112, 105, 112, 101]) = true) :
    Calls Tryz.prog 12 #[.pointer (some ⟨t, 0, none⟩), .pointer (some ⟨m, 0, none⟩), .agg (acA kd A B' C K On S1 T1)] W fun e w' => OP w t b p m c q B k e w' := by
  have NE : Hid (W.heap.size ≠ t ∧ W.heap.size ≠ b ∧ W.heap.size ≠ p ∧ W.heap.size ≠ m ∧ W.heap.size ≠ c ∧ W.heap.size ≠ q) := Hid.intro ⟨Nat.ne_of_gt h.2.1.1.lt, Nat.ne_of_gt h.2.1.2.1.lt, Nat.ne_of_gt h.2.1.2.2.1.lt, Nat.ne_of_gt h.2.2.1.1.lt, by obtain ⟨R, rv, hr⟩ := h.2.2.1.2.1; exact Nat.ne_of_gt hr.rb.lt, Nat.ne_of_gt h.2.2.1.2.2.1.lt⟩
  have S0 : Hid (GY w (W.alloc (.cells (acA kd A B' C K On S1 T1) 64)) t b p m c q B T F S T F S ∧ ActAt (W.alloc (.cells (acA kd A B' C K On S1 T1) 64)) W.heap.size (acA kd A B' C K On S1 T1)) := Hid.intro ⟨h.below ((Below.refl _ _).alloc (Nat.le_refl _) _), heap_alloc_new W _⟩
  have HP := Hid.intro hp
  have HK := Hid.intro hk
  have HS := Hid.intro hs
  have SM : Hid (Pp.Sm S) := Hid.intro (hp.pi.sm (by omega))
  clear h hp hk hs
  go_enter Tryz.func12, Tryz.ntmps12
  go_upto_region 1 with fail
  refine wp_gen (fun W' => GY w W' t b p m c q B T F S T F S ∧ ActAt W' W.heap.size (acA kd A B' C K On S1 T1)) S0.out ?_
  rintro W1 ⟨hS1, hbx⟩
  have G1 := Hid.intro hS1
  have HA := Hid.intro hbx
  clear S0
  generalize W.heap.size = ba at *
  have x0 := act_cells hbx 0 (.string kd) rfl
  clear hS1 hbx
  have KF : Hid (∀ w', ActAt w' ba (acA kd A B' C K On S1 T1) → w'.cell? ⟨ba, 1, none⟩ = some (.int .i64 A) ∧ w'.cell? ⟨ba, 2, none⟩ = some (.int .i64 B') ∧ w'.cell? ⟨ba, 5, none⟩ = some (.bool On) ∧ w'.cell? ⟨ba, 6, none⟩ = some (.string S1)) := Hid.intro (fun W' a => ⟨act_cells a 1 _ rfl, act_cells a 2 _ rfl, act_cells a 5 _ rfl, act_cells a 6 _ rfl⟩)
  have TA : Hid (∀ u v, ActAt u ba (acA kd A B' C K On S1 T1) → Tri t b p u v → ActAt v ba (acA kd A B' C K On S1 T1)) := Hid.intro (fun u v a f => (f.block ba (Array.getElem?_eq_some_iff.1 a).1 NE.out.1 NE.out.2.1 NE.out.2.2.1).trans a)
  have TB : Hid (∀ u v, ActAt u ba (acA kd A B' C K On S1 T1) → Tri m c q u v → ActAt v ba (acA kd A B' C K On S1 T1)) := Hid.intro (fun u v a f => (f.block ba (Array.getElem?_eq_some_iff.1 a).1 NE.out.2.2.2.1 NE.out.2.2.2.2.1 NE.out.2.2.2.2.2).trans a)
  obtain ⟨x1, x2, x5, x6⟩ := KF.out _ HA.out
  go_wp2_with fail
  refine (xpipe_any t b p T F S _ G1.out.2.1).mono ?_
  rintro e W3 ⟨A3, C3, E3, T3, S3, rfl, m3, h3, r3⟩
  have G3 := Hid.intro (G1.out.code h3 r3)
  have AA := Hid.intro (TA.out _ _ HA.out r3)
  clear x0 x1 x2 x5 x6 h3 r3
  obtain ⟨x1, x2, x5, x6⟩ := KF.out _ AA.out
  go_wp2_with fail
  refine (opipe_any m c q B T F S _ G3.out.2.2.1 SM.out HP.out.pi.2).mono ?_
  rintro e W5 ⟨A5, C5, E5, T5, S5, rfl, m5, h5, r5⟩
  obtain ⟨rfl, rfl, rfl, rfl, rfl⟩ := m3.unique m5
  have G5 := Hid.intro (G3.out.ref h5 r5)
  have P5 := Hid.intro (HP.out.pipe m3)
  have SA := Hid.intro (same_any _ (m3.nn))
  clear x1 x2 x5 x6 h5 r5
  clear m3 m5
  generalize errV E3 = ev at *
  go_wp2_with (go_at_call 15; refine (SA.out _).mono ?_; rintro e w6 ⟨rfl, hw6⟩; subst w6)
  go_ret
  exact ⟨rfl, _, _, _, G5.out, P5.out⟩
set_option maxRecDepth 100000 in
set_option maxHeartbeats 4000000 in
theorem opened_share (h : GY w W t b p m c q B T F S T F S) (hp : WJ k T F S) (hk : k < 900) (hs : S1.size < 2 ^ 59) (k0 : (kd.toList == [110, 111, 100, 101]) = false) (k1 : (kd.toList == [112, 105, 112, 101]) = false) (k2 : (kd.toList == [115, 104, 97, 114, 101]) = true) :
    Calls Tryz.prog 12 #[.pointer (some ⟨t, 0, none⟩), .pointer (some ⟨m, 0, none⟩), .agg (acA kd A B' C K On S1 T1)] W fun e w' => OP w t b p m c q B k e w' := by
  have NE : Hid (W.heap.size ≠ t ∧ W.heap.size ≠ b ∧ W.heap.size ≠ p ∧ W.heap.size ≠ m ∧ W.heap.size ≠ c ∧ W.heap.size ≠ q) := Hid.intro ⟨Nat.ne_of_gt h.2.1.1.lt, Nat.ne_of_gt h.2.1.2.1.lt, Nat.ne_of_gt h.2.1.2.2.1.lt, Nat.ne_of_gt h.2.2.1.1.lt, by obtain ⟨R, rv, hr⟩ := h.2.2.1.2.1; exact Nat.ne_of_gt hr.rb.lt, Nat.ne_of_gt h.2.2.1.2.2.1.lt⟩
  have S0 : Hid (GY w (W.alloc (.cells (acA kd A B' C K On S1 T1) 64)) t b p m c q B T F S T F S ∧ ActAt (W.alloc (.cells (acA kd A B' C K On S1 T1) 64)) W.heap.size (acA kd A B' C K On S1 T1)) := Hid.intro ⟨h.below ((Below.refl _ _).alloc (Nat.le_refl _) _), heap_alloc_new W _⟩
  have HP := Hid.intro hp
  have HK := Hid.intro hk
  have HS := Hid.intro hs
  have SM : Hid (Pp.Sm S) := Hid.intro (hp.pi.sm (by omega))
  clear h hp hk hs
  go_enter Tryz.func12, Tryz.ntmps12
  go_upto_region 1 with fail
  refine wp_gen (fun W' => GY w W' t b p m c q B T F S T F S ∧ ActAt W' W.heap.size (acA kd A B' C K On S1 T1)) S0.out ?_
  rintro W1 ⟨hS1, hbx⟩
  have G1 := Hid.intro hS1
  have HA := Hid.intro hbx
  clear S0
  generalize W.heap.size = ba at *
  have x0 := act_cells hbx 0 (.string kd) rfl
  clear hS1 hbx
  have KF : Hid (∀ w', ActAt w' ba (acA kd A B' C K On S1 T1) → w'.cell? ⟨ba, 1, none⟩ = some (.int .i64 A) ∧ w'.cell? ⟨ba, 2, none⟩ = some (.int .i64 B') ∧ w'.cell? ⟨ba, 5, none⟩ = some (.bool On) ∧ w'.cell? ⟨ba, 6, none⟩ = some (.string S1)) := Hid.intro (fun W' a => ⟨act_cells a 1 _ rfl, act_cells a 2 _ rfl, act_cells a 5 _ rfl, act_cells a 6 _ rfl⟩)
  have TA : Hid (∀ u v, ActAt u ba (acA kd A B' C K On S1 T1) → Tri t b p u v → ActAt v ba (acA kd A B' C K On S1 T1)) := Hid.intro (fun u v a f => (f.block ba (Array.getElem?_eq_some_iff.1 a).1 NE.out.1 NE.out.2.1 NE.out.2.2.1).trans a)
  have TB : Hid (∀ u v, ActAt u ba (acA kd A B' C K On S1 T1) → Tri m c q u v → ActAt v ba (acA kd A B' C K On S1 T1)) := Hid.intro (fun u v a f => (f.block ba (Array.getElem?_eq_some_iff.1 a).1 NE.out.2.2.2.1 NE.out.2.2.2.2.1 NE.out.2.2.2.2.2).trans a)
  have K0 := Hid.intro (KF.out _ HA.out)
  go_wp2_with fail
  go_region_held3 (fun w' => w'.cell? ⟨ba, 1, none⟩ = some (.int .i64 A) ∧ w'.cell? ⟨ba, 2, none⟩ = some (.int .i64 B') ∧ w'.cell? ⟨ba, 5, none⟩ = some (.bool On) ∧ w'.cell? ⟨ba, 6, none⟩ = some (.string S1)) (first | exact K0.out | exact K4.out | exact K5.out | exact K6.out) ((first | (go_at_call 48; refine (xshare_any t b p A T _ G1.out.2.1.1.drew (HP.out.rr (by have := HK.out; omega))).mono ?_; rintro e w4 ⟨rfl, u4, f4⟩; have f4' : Frm t W1 w4 := ⟨f4.os, f4.tape, f4.output, f4.size, f4.block⟩; have r4 : Tri t b p W1 w4 := Tri.tb f4'; have C4 := Hid.intro (G1.out.code (G1.out.2.1.tb u4 f4') r4); have A4 := Hid.intro (TA.out _ _ HA.out r4); have K4 := Hid.intro (KF.out w4 A4.out); clear u4 f4 r4) | (go_at_call 49; refine (oshare_any m c q A T _ C4.out.2.2.1.1 (HP.out.rr (by have := HK.out; omega))).mono ?_; rintro e w5 ⟨rfl, u5, f5⟩; have r5 : Tri m c q w4 w5 := Tri.tb f5; have C5 := Hid.intro (C4.out.ref (C4.out.2.2.1.tb u5 f5) r5); have A5 := Hid.intro (TB.out _ _ A4.out r5); have K5 := Hid.intro (KF.out w5 A5.out); clear u5 f5 r5) | (go_at_call 15; refine (same_any _ (Fx.filE_nn T A) _).mono ?_; rintro e w6 ⟨rfl, hw6⟩; subst w6; have K6 := K5)))
  have P5 := Hid.intro (HP.out.sha A)
  go_wp2_with fail
  go_ret
  exact ⟨rfl, _, _, _, C5.out, P5.out⟩
set_option maxRecDepth 100000 in
set_option maxHeartbeats 4000000 in
theorem opened_close (h : GY w W t b p m c q B T F S T F S) (hp : WJ k T F S) (hk : k < 900) (hs : S1.size < 2 ^ 59) (k0 : (kd.toList == [110, 111, 100, 101]) = false) (k1 : (kd.toList == [112, 105, 112, 101]) = false) (k2 : (kd.toList == [115, 104, 97, 114, 101]) = false) (k3 : (kd.toList == [99, 108, 111, 115, 101]) = true) :
    Calls Tryz.prog 12 #[.pointer (some ⟨t, 0, none⟩), .pointer (some ⟨m, 0, none⟩), .agg (acA kd A B' C K On S1 T1)] W fun e w' => OP w t b p m c q B k e w' := by
  have NE : Hid (W.heap.size ≠ t ∧ W.heap.size ≠ b ∧ W.heap.size ≠ p ∧ W.heap.size ≠ m ∧ W.heap.size ≠ c ∧ W.heap.size ≠ q) := Hid.intro ⟨Nat.ne_of_gt h.2.1.1.lt, Nat.ne_of_gt h.2.1.2.1.lt, Nat.ne_of_gt h.2.1.2.2.1.lt, Nat.ne_of_gt h.2.2.1.1.lt, by obtain ⟨R, rv, hr⟩ := h.2.2.1.2.1; exact Nat.ne_of_gt hr.rb.lt, Nat.ne_of_gt h.2.2.1.2.2.1.lt⟩
  have S0 : Hid (GY w (W.alloc (.cells (acA kd A B' C K On S1 T1) 64)) t b p m c q B T F S T F S ∧ ActAt (W.alloc (.cells (acA kd A B' C K On S1 T1) 64)) W.heap.size (acA kd A B' C K On S1 T1)) := Hid.intro ⟨h.below ((Below.refl _ _).alloc (Nat.le_refl _) _), heap_alloc_new W _⟩
  have HP := Hid.intro hp
  have HK := Hid.intro hk
  have HS := Hid.intro hs
  have SM : Hid (Pp.Sm S) := Hid.intro (hp.pi.sm (by omega))
  clear h hp hk hs
  go_enter Tryz.func12, Tryz.ntmps12
  go_upto_region 1 with fail
  refine wp_gen (fun W' => GY w W' t b p m c q B T F S T F S ∧ ActAt W' W.heap.size (acA kd A B' C K On S1 T1)) S0.out ?_
  rintro W1 ⟨hS1, hbx⟩
  have G1 := Hid.intro hS1
  have HA := Hid.intro hbx
  clear S0
  generalize W.heap.size = ba at *
  have x0 := act_cells hbx 0 (.string kd) rfl
  clear hS1 hbx
  have KF : Hid (∀ w', ActAt w' ba (acA kd A B' C K On S1 T1) → w'.cell? ⟨ba, 1, none⟩ = some (.int .i64 A) ∧ w'.cell? ⟨ba, 2, none⟩ = some (.int .i64 B') ∧ w'.cell? ⟨ba, 5, none⟩ = some (.bool On) ∧ w'.cell? ⟨ba, 6, none⟩ = some (.string S1)) := Hid.intro (fun W' a => ⟨act_cells a 1 _ rfl, act_cells a 2 _ rfl, act_cells a 5 _ rfl, act_cells a 6 _ rfl⟩)
  have TA : Hid (∀ u v, ActAt u ba (acA kd A B' C K On S1 T1) → Tri t b p u v → ActAt v ba (acA kd A B' C K On S1 T1)) := Hid.intro (fun u v a f => (f.block ba (Array.getElem?_eq_some_iff.1 a).1 NE.out.1 NE.out.2.1 NE.out.2.2.1).trans a)
  have TB : Hid (∀ u v, ActAt u ba (acA kd A B' C K On S1 T1) → Tri m c q u v → ActAt v ba (acA kd A B' C K On S1 T1)) := Hid.intro (fun u v a f => (f.block ba (Array.getElem?_eq_some_iff.1 a).1 NE.out.2.2.2.1 NE.out.2.2.2.2.1 NE.out.2.2.2.2.2).trans a)
  have K0 := Hid.intro (KF.out _ HA.out)
  go_wp2_with fail
  go_region_held3 (fun w' => w'.cell? ⟨ba, 1, none⟩ = some (.int .i64 A) ∧ w'.cell? ⟨ba, 2, none⟩ = some (.int .i64 B') ∧ w'.cell? ⟨ba, 5, none⟩ = some (.bool On) ∧ w'.cell? ⟨ba, 6, none⟩ = some (.string S1)) (first | exact K0.out | exact K4.out | exact K5.out | exact K6.out) ((first | (go_at_call 50; refine (xclose_any t b p A T F S _ G1.out.2.1.drew HP.out.wi.sm (HP.out.rr (by have := HK.out; omega))).mono ?_; rintro e w4 ⟨rfl, u4, f4⟩; have r4 : Tri t b p W1 w4 := ⟨f4.os, f4.tape, f4.output, f4.size, f4.block⟩; have C4 := Hid.intro (G1.out.code u4 r4); have A4 := Hid.intro (TA.out _ _ HA.out r4); have K4 := Hid.intro (KF.out w4 A4.out); clear u4 f4 r4) | (go_at_call 51; refine (oclose_any m c q B A T F S _ C4.out.2.2.1 HP.out.wi HP.out.links (HP.out.rr (by have := HK.out; omega))).mono ?_; rintro e w5 ⟨rfl, u5, f5⟩; have r5 : Tri m c q w4 w5 := f5; have C5 := Hid.intro (C4.out.ref u5 r5); have A5 := Hid.intro (TB.out _ _ A4.out r5); have K5 := Hid.intro (KF.out w5 A5.out); clear u5 f5 r5) | (go_at_call 15; refine (same_any _ (Fx.filE_nn T A) _).mono ?_; rintro e w6 ⟨rfl, hw6⟩; subst w6; have K6 := K5)))
  have P5 := Hid.intro (HP.out.clo A)
  go_wp2_with fail
  go_ret
  exact ⟨rfl, _, _, _, C5.out, P5.out⟩
end
end Go.Proofs.YtmneolabgajhmaaGreat

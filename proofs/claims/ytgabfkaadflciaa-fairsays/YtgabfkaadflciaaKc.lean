/- scheduled, act by act (group, task, nogroup, notask). -/
import Derived.Test.YtgabfkaadflciaaKb
namespace Go.Proofs.Ytgabfkaadflciaa
open Go.RowKit
open Fr (Un M)

set_option maxRecDepth 100000 in
set_option maxHeartbeats 2000000 in
theorem sch_group (b r : Nat) (m : M) (kd : ByteArray) (P Q R : Int) (K : Nat) (On : Bool) (S1 T1 : ByteArray) (w : World) (h : FB w b r m) (k0 : (kd.toList == [103, 114, 111, 117, 112]) = true) :
    Calls Try.prog 51 #[.pointer (some ⟨b, 0, none⟩), .pointer (some ⟨r, 0, none⟩), .agg #[.string kd, .int .i64 P, .int .i64 Q, .int .i64 R, .int .u64 K, .bool On, .string S1, .string T1]] w fun e w' => e = .returned (.bool true) ∧ Both w b r m w' := by
  have HF := Hid.intro h
  clear h
  go_enter Try.func51, Try.ntmps51
  go_wp2_with fail
  refine wp_gen (fun W' => FB W' b r m ∧ Two b r w W' ∧ W'.heap[w.heap.size]? = some (.cells #[.string kd, .int .i64 P, .int .i64 Q, .int .i64 R, .int .u64 K, .bool On, .string S1, .string T1] 36 (0, 0))) ⟨HF.out.below ((Below.refl _ _).alloc (Nat.le_refl _) _), Two.below ((Below.refl _ _).alloc (Nat.le_refl _) _), heap_alloc_new w _⟩ ?_
  rintro W3 ⟨h3, t3, hbx⟩
  have S3 := Hid.intro h3
  have HW := Hid.intro t3
  have HBA : Hid (w.heap.size < W3.heap.size ∧ w.heap.size ≠ b ∧ w.heap.size ≠ r) := ⟨(Array.getElem?_eq_some_iff.1 hbx).1, by have := HF.out.fair.lt; omega, by have := HF.out.ref.lt; omega⟩
  generalize w.heap.size = ba at *
  have x1 := act_cells hbx 1 _ rfl
  have x2 := act_cells hbx 2 _ rfl
  have x3 := act_cells hbx 3 _ rfl
  clear h3 t3 hbx
  go_region_held3 (fun w' => w'.cell? ⟨ba, 1, none⟩ = some (.int .i64 P) ∧ w'.cell? ⟨ba, 2, none⟩ = some (.int .i64 Q) ∧ w'.cell? ⟨ba, 3, none⟩ = some (.int .i64 R)) (go_keep) ((first | (go_at_call 58; refine (addGroup_any b P Q R m _ S3.out.fair.drew S3.out.inv).mono ?_; rintro e w4 ⟨rfl, t4, f4⟩; have y1 : w4.cell? ⟨ba, 1, none⟩ = some (.int .i64 P) := (World.cell?_of_block (f4.block ba HBA.out.1 HBA.out.2.1)).trans x1; have y2 : w4.cell? ⟨ba, 2, none⟩ = some (.int .i64 Q) := (World.cell?_of_block (f4.block ba HBA.out.1 HBA.out.2.1)).trans x2; have y3 : w4.cell? ⟨ba, 3, none⟩ = some (.int .i64 R) := (World.cell?_of_block (f4.block ba HBA.out.1 HBA.out.2.1)).trans x3; have P4 : Hid (Fair w4 b (Fr.addGroupM m P Q R) ∧ Frm b W3 w4) := ⟨t4, ((Frm.refl b W3).drew).trans f4⟩; clear t4 f4) | (go_at_call 103; refine (raddGroup_any r P Q R m _ (S3.out.ref' P4.out.2) ).mono ?_; rintro e w5 ⟨rfl, t5, f5⟩; have z1 : w5.cell? ⟨ba, 1, none⟩ = some (.int .i64 P) := (World.cell?_of_block (f5.block ba (Nat.lt_of_lt_of_le HBA.out.1 P4.out.2.size) HBA.out.2.2)).trans y1; have z2 : w5.cell? ⟨ba, 2, none⟩ = some (.int .i64 Q) := (World.cell?_of_block (f5.block ba (Nat.lt_of_lt_of_le HBA.out.1 P4.out.2.size) HBA.out.2.2)).trans y2; have z3 : w5.cell? ⟨ba, 3, none⟩ = some (.int .i64 R) := (World.cell?_of_block (f5.block ba (Nat.lt_of_lt_of_le HBA.out.1 P4.out.2.size) HBA.out.2.2)).trans y3; have P5 : Hid (RAt w5 r (Fr.addGroupM m P Q R) ∧ Frm r w4 w5) := ⟨t5, f5⟩; clear t5 f5) | (go_at_call 15; refine (same_any _ (Fr.addGroupE_ge m P Q R) _).mono ?_; rintro e w' ⟨rfl, rfl⟩)))
  go_wp2_with fail
  go_ret
  exact ⟨rfl, _, S3.out.step P4.out.1 P5.out.1 P5.out.2 (S3.out.inv.addGroup P Q R) (S3.out.syn.addGroup S3.out.inv P Q R), by rw [Fr.addGroupM, Fr.addM_now]; omega, (HW.out.left P4.out.2).right P5.out.2⟩

set_option maxRecDepth 100000 in
set_option maxHeartbeats 2000000 in
theorem sch_task (b r : Nat) (m : M) (kd : ByteArray) (P Q R : Int) (K : Nat) (On : Bool) (S1 T1 : ByteArray) (w : World) (h : FB w b r m) (k0 : (kd.toList == [103, 114, 111, 117, 112]) = false) (k1 : (kd.toList == [116, 97, 115, 107]) = true) :
    Calls Try.prog 51 #[.pointer (some ⟨b, 0, none⟩), .pointer (some ⟨r, 0, none⟩), .agg #[.string kd, .int .i64 P, .int .i64 Q, .int .i64 R, .int .u64 K, .bool On, .string S1, .string T1]] w fun e w' => e = .returned (.bool true) ∧ Both w b r m w' := by
  have HF := Hid.intro h
  clear h
  go_enter Try.func51, Try.ntmps51
  go_wp2_with fail
  refine wp_gen (fun W' => FB W' b r m ∧ Two b r w W' ∧ W'.heap[w.heap.size]? = some (.cells #[.string kd, .int .i64 P, .int .i64 Q, .int .i64 R, .int .u64 K, .bool On, .string S1, .string T1] 36 (0, 0))) ⟨HF.out.below ((Below.refl _ _).alloc (Nat.le_refl _) _), Two.below ((Below.refl _ _).alloc (Nat.le_refl _) _), heap_alloc_new w _⟩ ?_
  rintro W3 ⟨h3, t3, hbx⟩
  have S3 := Hid.intro h3
  have HW := Hid.intro t3
  have HBA : Hid (w.heap.size < W3.heap.size ∧ w.heap.size ≠ b ∧ w.heap.size ≠ r) := ⟨(Array.getElem?_eq_some_iff.1 hbx).1, by have := HF.out.fair.lt; omega, by have := HF.out.ref.lt; omega⟩
  generalize w.heap.size = ba at *
  have x1 := act_cells hbx 1 _ rfl
  have x2 := act_cells hbx 2 _ rfl
  have x3 := act_cells hbx 3 _ rfl
  clear h3 t3 hbx
  go_region_held3 (fun w' => w'.cell? ⟨ba, 1, none⟩ = some (.int .i64 P) ∧ w'.cell? ⟨ba, 2, none⟩ = some (.int .i64 Q) ∧ w'.cell? ⟨ba, 3, none⟩ = some (.int .i64 R)) (go_keep) ((first | (go_at_call 55; refine (addTask_any b P Q R m _ S3.out.fair.drew S3.out.inv).mono ?_; rintro e w4 ⟨rfl, t4, f4⟩; have y1 : w4.cell? ⟨ba, 1, none⟩ = some (.int .i64 P) := (World.cell?_of_block (f4.block ba HBA.out.1 HBA.out.2.1)).trans x1; have y2 : w4.cell? ⟨ba, 2, none⟩ = some (.int .i64 Q) := (World.cell?_of_block (f4.block ba HBA.out.1 HBA.out.2.1)).trans x2; have y3 : w4.cell? ⟨ba, 3, none⟩ = some (.int .i64 R) := (World.cell?_of_block (f4.block ba HBA.out.1 HBA.out.2.1)).trans x3; have P4 : Hid (Fair w4 b (Fr.addTaskM m P Q R) ∧ Frm b W3 w4) := ⟨t4, ((Frm.refl b W3).drew).trans f4⟩; clear t4 f4) | (go_at_call 104; refine (raddTask_any r P Q R m _ (S3.out.ref' P4.out.2) ).mono ?_; rintro e w5 ⟨rfl, t5, f5⟩; have z1 : w5.cell? ⟨ba, 1, none⟩ = some (.int .i64 P) := (World.cell?_of_block (f5.block ba (Nat.lt_of_lt_of_le HBA.out.1 P4.out.2.size) HBA.out.2.2)).trans y1; have z2 : w5.cell? ⟨ba, 2, none⟩ = some (.int .i64 Q) := (World.cell?_of_block (f5.block ba (Nat.lt_of_lt_of_le HBA.out.1 P4.out.2.size) HBA.out.2.2)).trans y2; have z3 : w5.cell? ⟨ba, 3, none⟩ = some (.int .i64 R) := (World.cell?_of_block (f5.block ba (Nat.lt_of_lt_of_le HBA.out.1 P4.out.2.size) HBA.out.2.2)).trans y3; have P5 : Hid (RAt w5 r (Fr.addTaskM m P Q R) ∧ Frm r w4 w5) := ⟨t5, f5⟩; clear t5 f5) | (go_at_call 15; refine (same_any _ (Fr.addTaskE_ge m P Q R) _).mono ?_; rintro e w' ⟨rfl, rfl⟩)))
  go_wp2_with fail
  go_ret
  exact ⟨rfl, _, S3.out.step P4.out.1 P5.out.1 P5.out.2 (S3.out.inv.addTask P Q R) (S3.out.syn.addTask S3.out.inv P Q R), by rw [Fr.addTaskM, Fr.addM_now]; omega, (HW.out.left P4.out.2).right P5.out.2⟩

set_option maxRecDepth 100000 in
set_option maxHeartbeats 2000000 in
theorem sch_nogroup (b r : Nat) (m : M) (kd : ByteArray) (P Q R : Int) (K : Nat) (On : Bool) (S1 T1 : ByteArray) (w : World) (h : FB w b r m) (k0 : (kd.toList == [103, 114, 111, 117, 112]) = false) (k1 : (kd.toList == [116, 97, 115, 107]) = false) (k2 : (kd.toList == [110, 111, 103, 114, 111, 117, 112]) = true) :
    Calls Try.prog 51 #[.pointer (some ⟨b, 0, none⟩), .pointer (some ⟨r, 0, none⟩), .agg #[.string kd, .int .i64 P, .int .i64 Q, .int .i64 R, .int .u64 K, .bool On, .string S1, .string T1]] w fun e w' => e = .returned (.bool true) ∧ Both w b r m w' := by
  have HF := Hid.intro h
  clear h
  go_enter Try.func51, Try.ntmps51
  go_wp2_with fail
  refine wp_gen (fun W' => FB W' b r m ∧ Two b r w W' ∧ W'.heap[w.heap.size]? = some (.cells #[.string kd, .int .i64 P, .int .i64 Q, .int .i64 R, .int .u64 K, .bool On, .string S1, .string T1] 36 (0, 0))) ⟨HF.out.below ((Below.refl _ _).alloc (Nat.le_refl _) _), Two.below ((Below.refl _ _).alloc (Nat.le_refl _) _), heap_alloc_new w _⟩ ?_
  rintro W3 ⟨h3, t3, hbx⟩
  have S3 := Hid.intro h3
  have HW := Hid.intro t3
  have HBA : Hid (w.heap.size < W3.heap.size ∧ w.heap.size ≠ b ∧ w.heap.size ≠ r) := ⟨(Array.getElem?_eq_some_iff.1 hbx).1, by have := HF.out.fair.lt; omega, by have := HF.out.ref.lt; omega⟩
  generalize w.heap.size = ba at *
  have x1 := act_cells hbx 1 _ rfl
  clear h3 t3 hbx
  go_region_held3 (fun w' => w'.cell? ⟨ba, 1, none⟩ = some (.int .i64 P)) (go_keep) ((first | (go_at_call 105; refine (dropGroup_any b P m _ S3.out.fair.drew S3.out.inv S3.out.syn).mono ?_; rintro e w4 ⟨rfl, t4, f4⟩; have y1 : w4.cell? ⟨ba, 1, none⟩ = some (.int .i64 P) := (World.cell?_of_block (f4.block ba HBA.out.1 HBA.out.2.1)).trans x1; have P4 : Hid (Fair w4 b (Fr.dropGroupM m P) ∧ Frm b W3 w4) := ⟨t4, ((Frm.refl b W3).drew).trans f4⟩; clear t4 f4) | (go_at_call 106; refine (rdropGroup_any r P m _ (S3.out.ref' P4.out.2) ).mono ?_; rintro e w5 ⟨rfl, t5, f5⟩; have z1 : w5.cell? ⟨ba, 1, none⟩ = some (.int .i64 P) := (World.cell?_of_block (f5.block ba (Nat.lt_of_lt_of_le HBA.out.1 P4.out.2.size) HBA.out.2.2)).trans y1; have P5 : Hid (RAt w5 r (Fr.dropGroupM m P) ∧ Frm r w4 w5) := ⟨t5, f5⟩; clear t5 f5) | (go_at_call 15; refine (same_any _ (Fr.dropGroupE_ge m P) _).mono ?_; rintro e w' ⟨rfl, rfl⟩)))
  go_wp2_with fail
  go_ret
  exact ⟨rfl, _, S3.out.step P4.out.1 P5.out.1 P5.out.2 ((S3.out.inv.dropGroup S3.out.syn P).1) ((S3.out.inv.dropGroup S3.out.syn P).2.1), by rw [(S3.out.inv.dropGroup S3.out.syn P).2.2]; omega, (HW.out.left P4.out.2).right P5.out.2⟩

set_option maxRecDepth 100000 in
set_option maxHeartbeats 2000000 in
theorem sch_notask (b r : Nat) (m : M) (kd : ByteArray) (P Q R : Int) (K : Nat) (On : Bool) (S1 T1 : ByteArray) (w : World) (h : FB w b r m) (k0 : (kd.toList == [103, 114, 111, 117, 112]) = false) (k1 : (kd.toList == [116, 97, 115, 107]) = false) (k2 : (kd.toList == [110, 111, 103, 114, 111, 117, 112]) = false) (k3 : (kd.toList == [110, 111, 116, 97, 115, 107]) = true) :
    Calls Try.prog 51 #[.pointer (some ⟨b, 0, none⟩), .pointer (some ⟨r, 0, none⟩), .agg #[.string kd, .int .i64 P, .int .i64 Q, .int .i64 R, .int .u64 K, .bool On, .string S1, .string T1]] w fun e w' => e = .returned (.bool true) ∧ Both w b r m w' := by
  have HF := Hid.intro h
  clear h
  go_enter Try.func51, Try.ntmps51
  go_wp2_with fail
  refine wp_gen (fun W' => FB W' b r m ∧ Two b r w W' ∧ W'.heap[w.heap.size]? = some (.cells #[.string kd, .int .i64 P, .int .i64 Q, .int .i64 R, .int .u64 K, .bool On, .string S1, .string T1] 36 (0, 0))) ⟨HF.out.below ((Below.refl _ _).alloc (Nat.le_refl _) _), Two.below ((Below.refl _ _).alloc (Nat.le_refl _) _), heap_alloc_new w _⟩ ?_
  rintro W3 ⟨h3, t3, hbx⟩
  have S3 := Hid.intro h3
  have HW := Hid.intro t3
  have HBA : Hid (w.heap.size < W3.heap.size ∧ w.heap.size ≠ b ∧ w.heap.size ≠ r) := ⟨(Array.getElem?_eq_some_iff.1 hbx).1, by have := HF.out.fair.lt; omega, by have := HF.out.ref.lt; omega⟩
  generalize w.heap.size = ba at *
  have x1 := act_cells hbx 1 _ rfl
  clear h3 t3 hbx
  go_region_held3 (fun w' => w'.cell? ⟨ba, 1, none⟩ = some (.int .i64 P)) (go_keep) ((first | (go_at_call 107; refine (dropTask_any b P m _ S3.out.fair.drew S3.out.inv S3.out.syn).mono ?_; rintro e w4 ⟨rfl, m4, k4, t4, f4⟩; have y1 : w4.cell? ⟨ba, 1, none⟩ = some (.int .i64 P) := (World.cell?_of_block (f4.block ba HBA.out.1 HBA.out.2.1)).trans x1; have P4 : Hid (Fr.DropTo m P m4 ∧ Fair w4 b m4 ∧ Frm b W3 w4) := ⟨k4, t4, ((Frm.refl b W3).drew).trans f4⟩; clear k4 t4 f4) | (go_at_call 108; refine (rdropTask_any r P m _ (S3.out.ref' P4.out.2.2) S3.out.inv).mono ?_; rintro e w5 ⟨rfl, m5, k5, t5, f5⟩; have z1 : w5.cell? ⟨ba, 1, none⟩ = some (.int .i64 P) := (World.cell?_of_block (f5.block ba (Nat.lt_of_lt_of_le HBA.out.1 P4.out.2.2.size) HBA.out.2.2)).trans y1; have P5 : Hid (Fr.DropTo m P m5 ∧ RAt w5 r m5 ∧ Frm r w4 w5) := ⟨k5, t5, f5⟩; clear k5 t5 f5) | (go_at_call 15; refine (same_any _ (Fr.taskE_ge m P) _).mono ?_; rintro e w' ⟨rfl, rfl⟩)))
  go_wp2_with fail
  go_ret
  obtain rfl := P4.out.1.unique P5.out.1
  exact ⟨rfl, _, S3.out.step P4.out.2.1 P5.out.2.1 P5.out.2.2 ((S3.out.inv.dropTask S3.out.syn P4.out.1).1) ((S3.out.inv.dropTask S3.out.syn P4.out.1).2.1), by rw [(S3.out.inv.dropTask S3.out.syn P4.out.1).2.2]; omega, (HW.out.left P4.out.2.2).right P5.out.2.2⟩
end Go.Proofs.Ytgabfkaadflciaa

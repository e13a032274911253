/- The law VmSays: an act on a memory. -/
import Derived.Test.YtnppahmlifnnnabPg
import Derived.Test.YtnppahmlifnnnabOe
import Derived.Deep.CutRange
import Derived.Deep.CutBlock
namespace Go.Proofs.Ytnppahmlifnnnab
open Go.RowKit
open Bd (P)
open Mv (Me Bk)

/-- Both sides, in step. -/
def VS (w W : World) (r q gm cm r2 q2 gn cn N : Nat) (bs cs : Nat → Nat) (me : Nat → Me) (ow : Nat → Nat → Bool) (k : Bk) : Prop := CS w W r q gm cm N bs me k ∧ RS w W r2 q2 gn cn N cs me ow k ∧ Mv.VI k N me ow
theorem VS.below {w W W' : World} {r q gm cm r2 q2 gn cn N : Nat} {bs cs : Nat → Nat} {me : Nat → Me} {ow : Nat → Nat → Bool} {k : Bk} (h : VS w W r q gm cm r2 q2 gn cn N bs cs me ow k) (b : Below W.heap.size W W') : VS w W' r q gm cm r2 q2 gn cn N bs cs me ow k := ⟨h.1.below b, h.2.1.below b, h.2.2⟩
def actT (T : TypeId) : Prop := T = 40
/-- An act's cells, in a block of its own, apart from all that is turned. -/
def ActAt (W : World) (ba : Nat) (cs : Array Value) : Prop := W.heap[ba]? = some (.cells cs 40 (0, 0))
section
variable {w W W' : World} {r q gm cm N ba i : Nat} {bs : Nat → Nat} {me : Nat → Me} {k : Bk} {ow : Nat → Nat → Bool} {cs : Array Value}
theorem CS.act (h : CS w W r q gm cm N bs me k) (hi : i < N) (a : ActAt W ba cs) (t : Thr (bs i) r q W W') : ActAt W' ba cs := by
  obtain ⟨Cr, hr, _⟩ := h.all.bk.blk
  obtain ⟨Cq, hq, _⟩ := CA.blk h.all.bk.pool
  obtain ⟨Cb, hb, _⟩ := (h.all.mem i hi).1.blk
  exact (t.block ba (Array.getElem?_eq_some_iff.1 a).1 (blk_ne a hb (by decide)) (blk_ne a hr (by decide)) (blk_ne a hq (by decide))).trans a
theorem RS.act (h : RS w W r q gm cm N bs me ow k) (hi : i < N) (a : ActAt W ba cs) (t : Thr (bs i) r q W W') : ActAt W' ba cs := by
  obtain ⟨Cr, hr, _⟩ := h.bk.blk
  obtain ⟨Cq, hq, _⟩ := h.bk.pool.blk
  obtain ⟨Cb, hb, _⟩ := (h.mem i hi).1.blk
  exact (t.block ba (Array.getElem?_eq_some_iff.1 a).1 (blk_ne a hb (by decide)) (blk_ne a hr (by decide)) (blk_ne a hq (by decide))).trans a
end
theorem mapE_nn (m : Me) (a n : Int) : 0 ≤ Mv.mapE m a n := by unfold Mv.mapE; split <;> (try split) <;> omega
theorem proE_nn (m : Me) (a n : Int) : 0 ≤ Mv.proE m a n := by unfold Mv.proE; split <;> (try split) <;> omega
theorem unE_nn (a n : Int) : 0 ≤ Mv.unE a n := by unfold Mv.unE; split <;> omega
theorem setO_id (ow : Nat → Nat → Bool) (i : Nat) : Mv.setO ow i (ow i) = ow := by
  funext j
  unfold Mv.setO
  by_cases c : j = i
  · rw [if_pos c, c]
  · rw [if_neg c]
def acA (kd : ByteArray) (A B C : Int) (K : Nat) (On : Bool) (S1 T1 : ByteArray) : Array Value := #[.string kd, .int .i64 A, .int .i64 B, .int .i64 C, .int .u64 K, .bool On, .string S1, .string T1]
def MemP (w : World) (r q gm cm r2 q2 gn cn N : Nat) (bs cs : Nat → Nat) (e : Ending) (w' : World) : Prop := e = .returned (.bool true) ∧ ∃ me ow k, VS w w' r q gm cm r2 q2 gn cn N bs cs me ow k
section
variable (w W : World) (r q gm cm r2 q2 gn cn N i : Nat) (bs cs : Nat → Nat) (me : Nat → Me) (ow : Nat → Nat → Bool) (k : Bk) (kd : ByteArray) (A B C : Int) (K : Nat) (On : Bool) (S1 T1 : ByteArray)
set_option maxRecDepth 100000 in
set_option maxHeartbeats 2000000 in
theorem memory_map (h : VS w W r q gm cm r2 q2 gn cn N bs cs me ow k) (hi : i < N) (k1 : (kd.toList == [109, 97, 112]) = true) :
    Calls Try.prog 16 #[.pointer (some ⟨bs i, 0, none⟩), .pointer (some ⟨cs i, 0, none⟩), .agg #[.string kd, .int .i64 A, .int .i64 B, .int .i64 C, .int .u64 K, .bool On, .string S1, .string T1]] W (MemP w r q gm cm r2 q2 gn cn N bs cs) := by
  have S0 : Hid (VS w (W.alloc (.cells #[.string kd, .int .i64 A, .int .i64 B, .int .i64 C, .int .u64 K, .bool On, .string S1, .string T1] 40)) r q gm cm r2 q2 gn cn N bs cs me ow k ∧ ActAt (W.alloc (.cells #[.string kd, .int .i64 A, .int .i64 B, .int .i64 C, .int .u64 K, .bool On, .string S1, .string T1] 40)) W.heap.size (acA kd A B C K On S1 T1)) := Hid.intro ⟨h.below ((Below.refl _ _).alloc (Nat.le_refl _) _), heap_alloc_new W _⟩
  clear h
  go_enter Try.func16, Try.ntmps16
  go_upto_region 1 with fail
  refine wp_gen (fun W' => VS w W' r q gm cm r2 q2 gn cn N bs cs me ow k ∧ ActAt W' W.heap.size (acA kd A B C K On S1 T1)) S0.out ?_
  rintro W1 ⟨hS1, hbx⟩
  have S1' := Hid.intro hS1
  have HBA := Hid.intro hbx
  clear S0
  generalize W.heap.size = ba at *
  have x0 := act_cells hbx 0 (.string kd) rfl
  have x1 := act_cells hbx 1 (.int .i64 A) rfl
  have x2 := act_cells hbx 2 (.int .i64 B) rfl
  have x3 := act_cells hbx 3 (.int .i64 C) rfl
  have x5 := act_cells hbx 5 (.bool On) rfl
  clear hS1 hbx
  have KF : Hid (∀ W', ActAt W' ba (acA kd A B C K On S1 T1) → W'.cell? ⟨ba, 1, none⟩ = some (.int .i64 A) ∧ W'.cell? ⟨ba, 2, none⟩ = some (.int .i64 B) ∧ W'.cell? ⟨ba, 3, none⟩ = some (.int .i64 C) ∧ W'.cell? ⟨ba, 5, none⟩ = some (.bool On)) := Hid.intro (fun W' a => ⟨act_cells a 1 _ rfl, act_cells a 2 _ rfl, act_cells a 3 _ rfl, act_cells a 5 _ rfl⟩)
  have K0 := Hid.intro (KF.out W1 HBA.out)
  go_wp2_with fail
  go_region_held3 (fun w' => w'.cell? ⟨ba, 1, none⟩ = some (.int .i64 A) ∧ w'.cell? ⟨ba, 2, none⟩ = some (.int .i64 B) ∧ w'.cell? ⟨ba, 3, none⟩ = some (.int .i64 C) ∧ w'.cell? ⟨ba, 5, none⟩ = some (.bool On)) (first | exact K0.out | exact K4.out | exact K5.out | exact K6.out) ((first | (go_at_call 27; refine (vmap_any (bs i) r A B On (me i) _ (S1'.out.1.ub hi).me.drew).mono ?_; rintro e w4 ⟨rfl, u4, F4⟩; have F5 : Frm (bs i) W1 w4 := ⟨F4.os, F4.tape, F4.output, F4.size, F4.block⟩; have C4 : Hid (CS w w4 r q gm cm N bs (Mv.setP me i (Mv.mapM (me i) A B On)) k ∧ RS w w4 r2 q2 gn cn N cs me ow k ∧ ActAt w4 ba (acA kd A B C K On S1 T1)) := Hid.intro (by have ub := S1'.out.1.ub hi; have kp := S1'.out.1.kept hi (Thr.mem F5); exact ⟨S1'.out.1.thr hi ⟨u4, ub.bk.frm F5 ub.br ub.bq, ub.br, ub.bq⟩ (Thr.mem F5), S1'.out.2.1.keep kp.1 kp.2, S1'.out.1.act hi HBA.out (Thr.mem F5)⟩); have K4 := Hid.intro (KF.out w4 C4.out.2.2); clear u4 F4 F5) | (go_at_call 61; refine (map_any (cs i) r2 A B On (me i) (ow i) _ (C4.out.2.1.mb hi).me).mono ?_; rintro e w5 ⟨rfl, u5, F5⟩; have C5 : Hid (CS w w5 r q gm cm N bs (Mv.setP me i (Mv.mapM (me i) A B On)) k ∧ RS w w5 r2 q2 gn cn N cs (Mv.setP me i (Mv.mapM (me i) A B On)) ow k ∧ ActAt w5 ba (acA kd A B C K On S1 T1)) := Hid.intro (by have mb := C4.out.2.1.mb hi; have kp := C4.out.2.1.kept hi (Thr.mem F5); have t := C4.out.2.1.thr hi (m' := Mv.mapM (me i) A B On) (o' := ow i) ⟨u5, mb.bk.frm F5 mb.br mb.bq, mb.br, mb.bq⟩ (Thr.mem F5); rw [setO_id] at t; exact ⟨C4.out.1.keep kp.1 kp.2 F5.size, t, C4.out.2.1.act hi C4.out.2.2 (Thr.mem F5)⟩); have K5 := Hid.intro (KF.out w5 C5.out.2.2); clear u5 F5) | (go_at_call 21; refine (same_any _ (mapE_nn (me i) A B) _).mono ?_; rintro e w6 ⟨rfl, hw6⟩; subst w6; have K6 := K5)))
  have FIN : Hid (MemP w r q gm cm r2 q2 gn cn N bs cs (.returned (.bool true)) w5) := Hid.intro ⟨rfl, _, _, _, C5.out.1, C5.out.2.1, S1'.out.2.2.laid (mapM_fr _ _ _ _) (Mv.map_ok (S1'.out.2.2.ok i hi) _ _ _)⟩
  go_wp2_with fail
  go_ret
  exact FIN.out
set_option maxRecDepth 100000 in
set_option maxHeartbeats 2000000 in
theorem memory_protect (h : VS w W r q gm cm r2 q2 gn cn N bs cs me ow k) (hi : i < N) (k1 : (kd.toList == [109, 97, 112]) = false) (k2 : (kd.toList == [117, 110, 109, 97, 112]) = false) (k3 : (kd.toList == [112, 114, 111, 116, 101, 99, 116]) = true) :
    Calls Try.prog 16 #[.pointer (some ⟨bs i, 0, none⟩), .pointer (some ⟨cs i, 0, none⟩), .agg #[.string kd, .int .i64 A, .int .i64 B, .int .i64 C, .int .u64 K, .bool On, .string S1, .string T1]] W (MemP w r q gm cm r2 q2 gn cn N bs cs) := by
  have S0 : Hid (VS w (W.alloc (.cells #[.string kd, .int .i64 A, .int .i64 B, .int .i64 C, .int .u64 K, .bool On, .string S1, .string T1] 40)) r q gm cm r2 q2 gn cn N bs cs me ow k ∧ ActAt (W.alloc (.cells #[.string kd, .int .i64 A, .int .i64 B, .int .i64 C, .int .u64 K, .bool On, .string S1, .string T1] 40)) W.heap.size (acA kd A B C K On S1 T1)) := Hid.intro ⟨h.below ((Below.refl _ _).alloc (Nat.le_refl _) _), heap_alloc_new W _⟩
  clear h
  go_enter Try.func16, Try.ntmps16
  go_upto_region 1 with fail
  refine wp_gen (fun W' => VS w W' r q gm cm r2 q2 gn cn N bs cs me ow k ∧ ActAt W' W.heap.size (acA kd A B C K On S1 T1)) S0.out ?_
  rintro W1 ⟨hS1, hbx⟩
  have S1' := Hid.intro hS1
  have HBA := Hid.intro hbx
  clear S0
  generalize W.heap.size = ba at *
  have x0 := act_cells hbx 0 (.string kd) rfl
  have x1 := act_cells hbx 1 (.int .i64 A) rfl
  have x2 := act_cells hbx 2 (.int .i64 B) rfl
  have x3 := act_cells hbx 3 (.int .i64 C) rfl
  have x5 := act_cells hbx 5 (.bool On) rfl
  clear hS1 hbx
  have KF : Hid (∀ W', ActAt W' ba (acA kd A B C K On S1 T1) → W'.cell? ⟨ba, 1, none⟩ = some (.int .i64 A) ∧ W'.cell? ⟨ba, 2, none⟩ = some (.int .i64 B) ∧ W'.cell? ⟨ba, 3, none⟩ = some (.int .i64 C) ∧ W'.cell? ⟨ba, 5, none⟩ = some (.bool On)) := Hid.intro (fun W' a => ⟨act_cells a 1 _ rfl, act_cells a 2 _ rfl, act_cells a 3 _ rfl, act_cells a 5 _ rfl⟩)
  have K0 := Hid.intro (KF.out W1 HBA.out)
  go_wp2_with fail
  go_region_held3 (fun w' => w'.cell? ⟨ba, 1, none⟩ = some (.int .i64 A) ∧ w'.cell? ⟨ba, 2, none⟩ = some (.int .i64 B) ∧ w'.cell? ⟨ba, 3, none⟩ = some (.int .i64 C) ∧ w'.cell? ⟨ba, 5, none⟩ = some (.bool On)) (first | exact K0.out | exact K4.out | exact K5.out | exact K6.out) ((first | (go_at_call 28; refine (vprotect_any (bs i) r A B On (me i) _ (S1'.out.1.ub hi).me.drew).mono ?_; rintro e w4 ⟨rfl, u4, F4⟩; have F5 : Frm (bs i) W1 w4 := ⟨F4.os, F4.tape, F4.output, F4.size, F4.block⟩; have C4 : Hid (CS w w4 r q gm cm N bs (Mv.setP me i (Mv.proM (me i) A B On)) k ∧ RS w w4 r2 q2 gn cn N cs me ow k ∧ ActAt w4 ba (acA kd A B C K On S1 T1)) := Hid.intro (by have ub := S1'.out.1.ub hi; have kp := S1'.out.1.kept hi (Thr.mem F5); exact ⟨S1'.out.1.thr hi ⟨u4, ub.bk.frm F5 ub.br ub.bq, ub.br, ub.bq⟩ (Thr.mem F5), S1'.out.2.1.keep kp.1 kp.2, S1'.out.1.act hi HBA.out (Thr.mem F5)⟩); have K4 := Hid.intro (KF.out w4 C4.out.2.2); clear u4 F4 F5) | (go_at_call 63; refine (protect_any (cs i) r2 A B On (me i) (ow i) _ (C4.out.2.1.mb hi).me).mono ?_; rintro e w5 ⟨rfl, u5, F5⟩; have C5 : Hid (CS w w5 r q gm cm N bs (Mv.setP me i (Mv.proM (me i) A B On)) k ∧ RS w w5 r2 q2 gn cn N cs (Mv.setP me i (Mv.proM (me i) A B On)) ow k ∧ ActAt w5 ba (acA kd A B C K On S1 T1)) := Hid.intro (by have mb := C4.out.2.1.mb hi; have kp := C4.out.2.1.kept hi (Thr.mem F5); have t := C4.out.2.1.thr hi (m' := Mv.proM (me i) A B On) (o' := ow i) ⟨u5, mb.bk.frm F5 mb.br mb.bq, mb.br, mb.bq⟩ (Thr.mem F5); rw [setO_id] at t; exact ⟨C4.out.1.keep kp.1 kp.2 F5.size, t, C4.out.2.1.act hi C4.out.2.2 (Thr.mem F5)⟩); have K5 := Hid.intro (KF.out w5 C5.out.2.2); clear u5 F5) | (go_at_call 21; refine (same_any _ (proE_nn (me i) A B) _).mono ?_; rintro e w6 ⟨rfl, hw6⟩; subst w6; have K6 := K5)))
  have FIN : Hid (MemP w r q gm cm r2 q2 gn cn N bs cs (.returned (.bool true)) w5) := Hid.intro ⟨rfl, _, _, _, C5.out.1, C5.out.2.1, S1'.out.2.2.laid (proM_fr _ _ _ _) (Mv.pro_ok (S1'.out.2.2.ok i hi) _ _ _)⟩
  go_wp2_with fail
  go_ret
  exact FIN.out
set_option maxRecDepth 100000 in
set_option maxHeartbeats 2000000 in
theorem memory_unmap (h : VS w W r q gm cm r2 q2 gn cn N bs cs me ow k) (hi : i < N) (k1 : (kd.toList == [109, 97, 112]) = false) (k2 : (kd.toList == [117, 110, 109, 97, 112]) = true) :
    Calls Try.prog 16 #[.pointer (some ⟨bs i, 0, none⟩), .pointer (some ⟨cs i, 0, none⟩), .agg #[.string kd, .int .i64 A, .int .i64 B, .int .i64 C, .int .u64 K, .bool On, .string S1, .string T1]] W (MemP w r q gm cm r2 q2 gn cn N bs cs) := by
  have S0 : Hid (VS w (W.alloc (.cells #[.string kd, .int .i64 A, .int .i64 B, .int .i64 C, .int .u64 K, .bool On, .string S1, .string T1] 40)) r q gm cm r2 q2 gn cn N bs cs me ow k ∧ ActAt (W.alloc (.cells #[.string kd, .int .i64 A, .int .i64 B, .int .i64 C, .int .u64 K, .bool On, .string S1, .string T1] 40)) W.heap.size (acA kd A B C K On S1 T1)) := Hid.intro ⟨h.below ((Below.refl _ _).alloc (Nat.le_refl _) _), heap_alloc_new W _⟩
  clear h
  go_enter Try.func16, Try.ntmps16
  go_upto_region 1 with fail
  refine wp_gen (fun W' => VS w W' r q gm cm r2 q2 gn cn N bs cs me ow k ∧ ActAt W' W.heap.size (acA kd A B C K On S1 T1)) S0.out ?_
  rintro W1 ⟨hS1, hbx⟩
  have S1' := Hid.intro hS1
  have HBA := Hid.intro hbx
  clear S0
  generalize W.heap.size = ba at *
  have x0 := act_cells hbx 0 (.string kd) rfl
  have x1 := act_cells hbx 1 (.int .i64 A) rfl
  have x2 := act_cells hbx 2 (.int .i64 B) rfl
  have x3 := act_cells hbx 3 (.int .i64 C) rfl
  have x5 := act_cells hbx 5 (.bool On) rfl
  clear hS1 hbx
  go_wp2_with fail
  refine (vunmap_any (bs i) r q A B (me i) k _ (S1'.out.1.ub hi) (S1'.out.2.2.wld.cnt hi)).mono ?_
  rintro e w4 ⟨rfl, u4, F4⟩
  have C4 : Hid (CS w w4 r q gm cm N bs (Mv.setP me i (Mv.unM (me i) A B)) (Mv.unK (me i) k A B) ∧ RS w w4 r2 q2 gn cn N cs me ow k ∧ ActAt w4 ba (acA kd A B C K On S1 T1)) := Hid.intro (by
    have kp := S1'.out.1.kept hi F4
    exact ⟨S1'.out.1.thr hi u4 F4, S1'.out.2.1.keep kp.1 kp.2, S1'.out.1.act hi HBA.out F4⟩)
  clear u4 F4 x0 x1 x2 x3 x5
  have x1 := act_cells C4.out.2.2 1 (.int .i64 A) rfl
  have x2 := act_cells C4.out.2.2 2 (.int .i64 B) rfl
  go_wp2_with fail
  refine (unmap_any (cs i) r2 q2 A B (me i) (ow i) k _ (C4.out.2.1.mb hi) (S1'.out.2.2.wld.cnt hi)).mono ?_
  rintro e w5 ⟨rfl, u5, F5, _⟩
  have C5 : Hid (CS w w5 r q gm cm N bs (Mv.setP me i (Mv.unM (me i) A B)) (Mv.unK (me i) k A B) ∧ RS w w5 r2 q2 gn cn N cs (Mv.setP me i (Mv.unM (me i) A B)) (Mv.setO ow i (Mv.unO (ow i) A B)) (Mv.unK (me i) k A B)) := Hid.intro (by
    have kp := C4.out.2.1.kept hi F5
    exact ⟨C4.out.1.keep kp.1 kp.2 F5.size, C4.out.2.1.thr hi u5 F5⟩)
  have VI5 : Hid (Mv.VI (Mv.unK (me i) k A B) N (Mv.setP me i (Mv.unM (me i) A B)) (Mv.setO ow i (Mv.unO (ow i) A B))) := Hid.intro (by
    unfold Mv.unK Mv.unM Mv.unO
    cases hb : Mv.badB A B
    · obtain ⟨x, c, rfl, rfl, hx, hc1, hxc⟩ := Mv.bad_no hb
      rw [if_neg (by decide), if_neg (by decide), if_neg (by decide), Int.toNat_natCast, Int.toNat_natCast]
      exact S1'.out.2.2.unmap hi hxc
    · rw [if_pos rfl, if_pos rfl, if_pos rfl, setP_id, setO_id]
      exact S1'.out.2.2)
  clear u5 F5 x1 x2
  generalize Mv.unC (me i) A B = uc at *
  go_wp2_with fail
  refine (same_any _ (unE_nn A B) _).mono ?_
  rintro e w6 ⟨rfl, hw6⟩
  subst w6
  go_wp2_with fail
  go_ret
  exact ⟨rfl, _, _, _, C5.out.1, C5.out.2, VI5.out⟩
set_option maxRecDepth 100000 in
set_option maxHeartbeats 2000000 in
theorem memory_load (h : VS w W r q gm cm r2 q2 gn cn N bs cs me ow k) (hi : i < N) (k1 : (kd.toList == [109, 97, 112]) = false) (k2 : (kd.toList == [117, 110, 109, 97, 112]) = false) (k3 : (kd.toList == [112, 114, 111, 116, 101, 99, 116]) = false) (k4 : (kd.toList == [108, 111, 97, 100]) = true) :
    Calls Try.prog 16 #[.pointer (some ⟨bs i, 0, none⟩), .pointer (some ⟨cs i, 0, none⟩), .agg #[.string kd, .int .i64 A, .int .i64 B, .int .i64 C, .int .u64 K, .bool On, .string S1, .string T1]] W (MemP w r q gm cm r2 q2 gn cn N bs cs) := by
  have S0 : Hid (VS w (W.alloc (.cells #[.string kd, .int .i64 A, .int .i64 B, .int .i64 C, .int .u64 K, .bool On, .string S1, .string T1] 40)) r q gm cm r2 q2 gn cn N bs cs me ow k ∧ ActAt (W.alloc (.cells #[.string kd, .int .i64 A, .int .i64 B, .int .i64 C, .int .u64 K, .bool On, .string S1, .string T1] 40)) W.heap.size (acA kd A B C K On S1 T1)) := Hid.intro ⟨h.below ((Below.refl _ _).alloc (Nat.le_refl _) _), heap_alloc_new W _⟩
  clear h
  go_enter Try.func16, Try.ntmps16
  go_upto_region 1 with fail
  refine wp_gen (fun W' => VS w W' r q gm cm r2 q2 gn cn N bs cs me ow k ∧ ActAt W' W.heap.size (acA kd A B C K On S1 T1)) S0.out ?_
  rintro W1 ⟨hS1, hbx⟩
  have S1' := Hid.intro hS1
  have HBA := Hid.intro hbx
  clear S0
  generalize W.heap.size = ba at *
  have x0 := act_cells hbx 0 (.string kd) rfl
  have x1 := act_cells hbx 1 (.int .i64 A) rfl
  have x2 := act_cells hbx 2 (.int .i64 B) rfl
  have x3 := act_cells hbx 3 (.int .i64 C) rfl
  have x5 := act_cells hbx 5 (.bool On) rfl
  clear hS1 hbx
  go_wp2_with fail
  refine (vload_any (bs i) r q A (me i) k _ (S1'.out.1.ub hi) (S1'.out.2.2.wld.good hi)).mono ?_
  rintro e w4 ⟨E, g, m', k', rfl, t4, u4, F4, hE⟩
  obtain ⟨vv, hvv⟩ : ∃ vv, (if E = 0 then k'.byt g (A.toNat % 8) else 0) = vv := ⟨_, rfl⟩
  rw [hvv]
  have HV := Hid.intro hvv
  have T4 := Hid.intro (And.intro t4 hE)
  clear hvv t4 hE
  have C4 : Hid (CS w w4 r q gm cm N bs (Mv.setP me i m') k' ∧ RS w w4 r2 q2 gn cn N cs me ow k ∧ ActAt w4 ba (acA kd A B C K On S1 T1)) := Hid.intro (by
    have kp := S1'.out.1.kept hi F4
    exact ⟨S1'.out.1.thr hi u4 F4, S1'.out.2.1.keep kp.1 kp.2, S1'.out.1.act hi HBA.out F4⟩)
  clear u4 F4 x0 x1 x2 x3 x5
  have x1 := act_cells C4.out.2.2 1 (.int .i64 A) rfl
  go_wp2_with fail
  refine (load_any (cs i) r2 q2 A (me i) (ow i) k _ (C4.out.2.1.mb hi) (S1'.out.2.2.own.good S1'.out.2.2.wld hi)).mono ?_
  rintro e w5 ⟨E2, g2, m2, k2, o2, rfl, t5, u5, F5, ho⟩
  obtain ⟨rfl, rfl, rfl, rfl⟩ := t5.unique T4.out.1
  rw [HV.out]
  have C5 : Hid (CS w w5 r q gm cm N bs (Mv.setP me i m2) k2 ∧ RS w w5 r2 q2 gn cn N cs (Mv.setP me i m2) (Mv.setO ow i o2) k2 ∧ Mv.VI k2 N (Mv.setP me i m2) (Mv.setO ow i o2)) := Hid.intro (by
    have kp := C4.out.2.1.kept hi F5
    exact ⟨C4.out.1.keep kp.1 kp.2 F5.size, C4.out.2.1.thr hi u5 F5, S1'.out.2.2.touch hi T4.out.1 ho⟩)
  have E0 : Hid (0 ≤ E2) := Hid.intro (by rcases T4.out.2 with h | h | h <;> omega)
  clear u5 F5 t5 ho x1
  go_wp2_with fail
  refine (same_any _ E0.out _).mono ?_
  rintro e w6 ⟨rfl, hw6⟩
  subst w6
  go_wp2_with fail
  go_ret
  exact ⟨rfl, _, _, _, C5.out⟩
set_option maxRecDepth 100000 in
set_option maxHeartbeats 2000000 in
theorem memory_store (h : VS w W r q gm cm r2 q2 gn cn N bs cs me ow k) (hi : i < N) (k1 : (kd.toList == [109, 97, 112]) = false) (k2 : (kd.toList == [117, 110, 109, 97, 112]) = false) (k3 : (kd.toList == [112, 114, 111, 116, 101, 99, 116]) = false) (k4 : (kd.toList == [108, 111, 97, 100]) = false) :
    Calls Try.prog 16 #[.pointer (some ⟨bs i, 0, none⟩), .pointer (some ⟨cs i, 0, none⟩), .agg #[.string kd, .int .i64 A, .int .i64 B, .int .i64 C, .int .u64 K, .bool On, .string S1, .string T1]] W (MemP w r q gm cm r2 q2 gn cn N bs cs) := by
  have S0 : Hid (VS w (W.alloc (.cells #[.string kd, .int .i64 A, .int .i64 B, .int .i64 C, .int .u64 K, .bool On, .string S1, .string T1] 40)) r q gm cm r2 q2 gn cn N bs cs me ow k ∧ ActAt (W.alloc (.cells #[.string kd, .int .i64 A, .int .i64 B, .int .i64 C, .int .u64 K, .bool On, .string S1, .string T1] 40)) W.heap.size (acA kd A B C K On S1 T1)) := Hid.intro ⟨h.below ((Below.refl _ _).alloc (Nat.le_refl _) _), heap_alloc_new W _⟩
  clear h
  go_enter Try.func16, Try.ntmps16
  go_upto_region 1 with fail
  refine wp_gen (fun W' => VS w W' r q gm cm r2 q2 gn cn N bs cs me ow k ∧ ActAt W' W.heap.size (acA kd A B C K On S1 T1)) S0.out ?_
  rintro W1 ⟨hS1, hbx⟩
  have S1' := Hid.intro hS1
  have HBA := Hid.intro hbx
  clear S0
  generalize W.heap.size = ba at *
  have x0 := act_cells hbx 0 (.string kd) rfl
  have x1 := act_cells hbx 1 (.int .i64 A) rfl
  have x2 := act_cells hbx 2 (.int .i64 B) rfl
  have x3 := act_cells hbx 3 (.int .i64 C) rfl
  have x5 := act_cells hbx 5 (.bool On) rfl
  clear hS1 hbx
  have KF : Hid (∀ W', ActAt W' ba (acA kd A B C K On S1 T1) → W'.cell? ⟨ba, 1, none⟩ = some (.int .i64 A) ∧ W'.cell? ⟨ba, 2, none⟩ = some (.int .i64 B) ∧ W'.cell? ⟨ba, 3, none⟩ = some (.int .i64 C) ∧ W'.cell? ⟨ba, 5, none⟩ = some (.bool On)) := Hid.intro (fun W' a => ⟨act_cells a 1 _ rfl, act_cells a 2 _ rfl, act_cells a 3 _ rfl, act_cells a 5 _ rfl⟩)
  have K0 := Hid.intro (KF.out W1 HBA.out)
  obtain ⟨u, hu⟩ : ∃ u, IntKind.u8.wrap C = u := ⟨_, rfl⟩
  go_wp2_with fail
  go_region_held3 (fun w' => w'.cell? ⟨ba, 1, none⟩ = some (.int .i64 A) ∧ w'.cell? ⟨ba, 2, none⟩ = some (.int .i64 B) ∧ w'.cell? ⟨ba, 3, none⟩ = some (.int .i64 C) ∧ w'.cell? ⟨ba, 5, none⟩ = some (.bool On)) (first | exact K0.out | exact K4.out | exact K5.out | exact K6.out) ((first | (go_at_call 32; refine (vstore_any (bs i) r q A u (me i) k _ (S1'.out.1.ub hi).drew (S1'.out.2.2.wld.good hi)).mono ?_; rintro e w4 ⟨E, g, m', k', rfl, t4, u4, F4, hE⟩; have F5 : Thr (bs i) r q W1 w4 := ⟨F4.os, F4.tape, F4.output, F4.size, F4.block⟩; have T4 := Hid.intro (And.intro t4 hE); have C4 : Hid (CS w w4 r q gm cm N bs (Mv.setP me i m') (if E = 0 then Mv.stB k' g (A.toNat % 8) u else k') ∧ RS w w4 r2 q2 gn cn N cs me ow k ∧ ActAt w4 ba (acA kd A B C K On S1 T1)) := Hid.intro (by have kp := S1'.out.1.kept hi F5; exact ⟨S1'.out.1.thr hi u4 F5, S1'.out.2.1.keep kp.1 kp.2, S1'.out.1.act hi HBA.out F5⟩); have K4 := Hid.intro (KF.out w4 C4.out.2.2); clear u4 F4 F5 t4 hE) | (go_at_call 65; refine (store_any (cs i) r2 q2 A u (me i) (ow i) k _ (C4.out.2.1.mb hi) (S1'.out.2.2.own.good S1'.out.2.2.wld hi)).mono ?_; rintro e w5 ⟨E2, g2, m2, k2, o2, rfl, t5, u5, F5, ho⟩; have UQ := Hid.intro (t5.unique T4.out.1); have C5 : Hid (CS w w5 r q gm cm N bs (Mv.setP me i m') (if E = 0 then Mv.stB k' g (A.toNat % 8) u else k') ∧ RS w w5 r2 q2 gn cn N cs (Mv.setP me i m2) (Mv.setO ow i o2) (if E2 = 0 then Mv.stB k2 g2 (A.toNat % 8) u else k2) ∧ ActAt w5 ba (acA kd A B C K On S1 T1) ∧ OwnTo A true E2 (me i) (ow i) o2) := Hid.intro (by have kp := C4.out.2.1.kept hi F5; exact ⟨C4.out.1.keep kp.1 kp.2 F5.size, C4.out.2.1.thr hi u5 F5, C4.out.2.1.act hi C4.out.2.2 F5, ho⟩); rw [UQ.out.1]; have K5 := Hid.intro (KF.out w5 C5.out.2.2.1); clear u5 F5 t5 ho) | (go_at_call 21; refine (same_any _ (by rcases T4.out.2 with h | h | h <;> omega) _).mono ?_; rintro e w6 ⟨rfl, hw6⟩; subst w6; have K6 := K5)))
  have FIN : Hid (MemP w r q gm cm r2 q2 gn cn N bs cs (.returned (.bool true)) w5) := Hid.intro (by
    obtain ⟨e1, e2, e3, e4⟩ := UQ.out
    have c := C5.out
    rw [e1, e2, e3, e4] at c
    refine ⟨rfl, _, _, _, c.1, c.2.1, ?_⟩
    have v := S1'.out.2.2.touch hi T4.out.1 c.2.2.2
    by_cases e0 : E = 0
    · rw [if_pos e0]; exact v.bytes _
    · rw [if_neg e0]; exact v)
  go_wp2_with fail
  go_ret
  exact FIN.out
theorem memory_any (h : VS w W r q gm cm r2 q2 gn cn N bs cs me ow k) (hi : i < N) :
    Calls Try.prog 16 #[.pointer (some ⟨bs i, 0, none⟩), .pointer (some ⟨cs i, 0, none⟩), .agg #[.string kd, .int .i64 A, .int .i64 B, .int .i64 C, .int .u64 K, .bool On, .string S1, .string T1]] W (MemP w r q gm cm r2 q2 gn cn N bs cs) := by
  by_cases k1 : (kd.toList == [109, 97, 112]) = true
  · exact memory_map w W r q gm cm r2 q2 gn cn N i bs cs me ow k kd A B C K On S1 T1 h hi k1
  · have k1' : (kd.toList == [109, 97, 112]) = false := by simpa using k1
    by_cases k2 : (kd.toList == [117, 110, 109, 97, 112]) = true
    · exact memory_unmap w W r q gm cm r2 q2 gn cn N i bs cs me ow k kd A B C K On S1 T1 h hi k1' k2
    · have k2' : (kd.toList == [117, 110, 109, 97, 112]) = false := by simpa using k2
      by_cases k3 : (kd.toList == [112, 114, 111, 116, 101, 99, 116]) = true
      · exact memory_protect w W r q gm cm r2 q2 gn cn N i bs cs me ow k kd A B C K On S1 T1 h hi k1' k2' k3
      · have k3' : (kd.toList == [112, 114, 111, 116, 101, 99, 116]) = false := by simpa using k3
        by_cases k4 : (kd.toList == [108, 111, 97, 100]) = true
        · exact memory_load w W r q gm cm r2 q2 gn cn N i bs cs me ow k kd A B C K On S1 T1 h hi k1' k2' k3' k4
        · have k4' : (kd.toList == [108, 111, 97, 100]) = false := by simpa using k4
          exact memory_store w W r q gm cm r2 q2 gn cn N i bs cs me ow k kd A B C K On S1 T1 h hi k1' k2' k3' k4'
end
end Go.Proofs.Ytnppahmlifnnnab

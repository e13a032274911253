/- Pipes, plain; the code's pipes as they lie; there, times, pipe, openTo. -/
import Derived.Test.YtmneolabgajhmaaGreatBa
import Derived.Lib.LazyBuf
import Derived.Laws.BytesString
namespace Go.Proofs.YtmneolabgajhmaaGreat
open Go.RowKit

namespace Pp
/-- A pipe: its bytes, how often it is open to be read, to be written. -/
structure Pi where
  tx : ByteArray
  reads : Nat
  writes : Nat
def Pi.no : Pi := ⟨⟨#[]⟩, 0, 0⟩
def put (S : Nat → Pi) (n : Nat) (x : Pi) : Nat → Pi := fun m => if m = n then x else S m
theorem put_same (S : Nat → Pi) (n : Nat) (x : Pi) : put S n x n = x := if_pos rfl
theorem put_ne (S : Nat → Pi) (n : Nat) (x : Pi) (m : Nat) (h : m ≠ n) : put S n x m = S m := if_neg h
theorem put_put (S : Nat → Pi) (n : Nat) (x y : Pi) : put (put S n x) n y = put S n y := by
  funext m
  unfold put
  split <;> rfl
def thr (x : Pi) : Bool := decide (0 < x.reads ∨ 0 < x.writes)
def tim (x : Pi) (wr : Bool) : Nat := if wr then x.writes else x.reads
/-- What is wrong with a number; with a pipe that is to be open so. -/
def pipE (S : Nat → Pi) (z : Int) : Int := if z < 0 ∨ 7 < z then 1 else if thr (S z.toNat) then 0 else 2
def opE (S : Nat → Pi) (z : Int) (wr : Bool) : Int := if pipE S z ≠ 0 then pipE S z else if tim (S z.toNat) wr = 0 then 8 else 0
theorem pipE_ok {S : Nat → Pi} {z : Int} (h : pipE S z = 0) : ∃ n : Nat, z = n ∧ n < 8 ∧ thr (S n) = true := by
  unfold pipE at h
  by_cases c : z < 0 ∨ 7 < z
  · rw [if_pos c] at h; omega
  · rw [if_neg c] at h
    refine ⟨z.toNat, by omega, by omega, ?_⟩
    by_cases d : thr (S z.toNat) = true
    · exact d
    · rw [if_neg d] at h; omega
theorem opE_ok {S : Nat → Pi} {z : Int} {wr : Bool} (h : opE S z wr = 0) : ∃ n : Nat, z = n ∧ n < 8 ∧ thr (S n) = true ∧ tim (S n) wr ≠ 0 := by
  unfold opE at h
  by_cases c : pipE S z ≠ 0
  · rw [if_pos c] at h; exact absurd h c
  · rw [if_neg c] at h
    obtain ⟨n, rfl, hn, ht⟩ := pipE_ok (by omega : pipE S z = 0)
    refine ⟨n, rfl, hn, ht, fun d => ?_⟩
    rw [Int.toNat_natCast, if_pos d] at h
    omega
theorem pipE_nn (S : Nat → Pi) (z : Int) : 0 ≤ pipE S z := by
  unfold pipE
  repeat' split
  all_goals omega
theorem opE_nn (S : Nat → Pi) (z : Int) (wr : Bool) : 0 ≤ opE S z wr := by
  have := pipE_nn S z
  unfold opE
  repeat' split
  all_goals omega
/-- Bytes, as they lie. -/
def byL (t : ByteArray) : List Value := t.data.toList.map fun x => Value.int .u8 (x.toNat : Int)
theorem byL_len (t : ByteArray) : (byL t).length = t.size := by simp [byL]
end Pp
open Pp (Pi)
/-- The code's pipes: eight of fifteen cells each: twelve bytes, how many are in use, how often it is open to be read, to be written. -/
structure PAt (w : World) (b : Nat) (S : Nat → Pi) : Prop where
  blk : ∃ C T, w.heap[b]? = some (.cells C T (0, 0)) ∧ C.size = 120
  byt : ∀ n, n < 8 → ∀ j v, (Pp.byL (S n).tx)[j]? = some v → w.cell? ⟨b, n * 15 + j, none⟩ = some v
  many : ∀ n, n < 8 → w.cell? ⟨b, n * 15 + 12, none⟩ = some (.int .i64 ((S n).tx.size : Int))
  reads : ∀ n, n < 8 → w.cell? ⟨b, n * 15 + 13, none⟩ = some (.int .i64 ((S n).reads : Int))
  writes : ∀ n, n < 8 → w.cell? ⟨b, n * 15 + 14, none⟩ = some (.int .i64 ((S n).writes : Int))
  small : ∀ n, n < 8 → (S n).tx.size ≤ 12
section
variable {w w' : World} {b : Nat} {S : Nat → Pi}
theorem PAt.lt (h : PAt w b S) : b < w.heap.size := by
  obtain ⟨C, T, e, _⟩ := h.blk
  exact (Array.getElem?_eq_some_iff.1 e).1
theorem PAt.frozen (h : PAt w b S) (o : Nat) : w.frozen? ⟨b, o, none⟩ = false := by
  obtain ⟨C, T, e, _⟩ := h.blk
  exact frozen_blk e o
theorem PAt.isS (h : PAt w b S) (o : Nat) (ho : o < 120) : (w.cell? ⟨b, o, none⟩).isSome = true := by
  obtain ⟨C, T, e, hC⟩ := h.blk
  rw [cell_blk e, Array.getElem?_eq_getElem (by omega)]; rfl
theorem PAt.same (h : PAt w b S) (e : w'.heap[b]? = w.heap[b]?) : PAt w' b S := by
  have hc : ∀ o, w'.cell? ⟨b, o, none⟩ = w.cell? ⟨b, o, none⟩ := fun o => World.cell?_of_block e
  exact ⟨by rw [e]; exact h.blk, fun n hn j v hv => (hc _).trans (h.byt n hn j v hv), fun n hn => (hc _).trans (h.many n hn), fun n hn => (hc _).trans (h.reads n hn), fun n hn => (hc _).trans (h.writes n hn), h.small⟩
theorem PAt.drew (h : PAt w b S) : PAt w.drew b S := h.same rfl
theorem PAt.drewN (h : PAt w b S) (n : Nat) : PAt (w.drewN n) b S := h.same rfl
theorem PAt.below {B : Nat} (h : PAt w b S) (k : Below B w w') (hb : b < B) : PAt w' b S := h.same (k.block b hb)
theorem PAt.frm {c : Nat} (h : PAt w b S) (k : Frm c w w') (hb : b ≠ c) : PAt w' b S := h.same (k.block b h.lt hb)
end
/-- A pointer to a pipe, where nothing is wrong. -/
def pptE (b : Nat) (z E : Int) : Value := if E = 0 then .pointer (some ⟨b, z.toNat * 15, none⟩) else .pointer none
theorem pptE_ok (b n : Nat) : pptE b (n : Int) 0 = .pointer (some ⟨b, n * 15, none⟩) := by unfold pptE; rw [if_pos rfl, Int.toNat_natCast]
theorem pptE_no {b : Nat} {z E : Int} (h : E ≠ 0) : pptE b z E = .pointer none := if_neg h
set_option maxRecDepth 100000 in
set_option maxHeartbeats 400000 in
theorem pthere_any (b n : Nat) (S : Nat → Pi) (w : World) (h : PAt w b S) (hn : n < 8) :
    Calls Tryz.prog 58 #[.pointer (some ⟨b, n * 15, none⟩)] w fun e w' => e = .returned (.bool (Pp.thr (S n))) ∧ w' = w := by
  have c1 := h.reads n hn
  have c2 := h.writes n hn
  unfold Pp.thr
  generalize (S n).reads = r at c1 ⊢
  generalize (S n).writes = u at c2 ⊢
  clear h
  by_cases r0 : 0 < r
  · have r1 : (0 : Int) < (r : Int) := by omega
    go_enter Tryz.func58, Tryz.ntmps58
    go_wp2_with fail
    go_ret
    exact ⟨ret_bool (by simp [r0]), rfl⟩
  · have r1 : ¬ (0 : Int) < (r : Int) := by omega
    go_enter Tryz.func58, Tryz.ntmps58
    go_wp2_with fail
    go_ret
    exact ⟨ret_bool (by simp), rfl⟩
set_option maxRecDepth 100000 in
set_option maxHeartbeats 400000 in
theorem ptimes_any (b o : Nat) (wr : Bool) (w : World) :
    Calls Tryz.prog 111 #[.pointer (some ⟨b, o, none⟩), .bool wr] w fun e w' => e = .returned (.pointer (some ⟨b, o + (if wr then 14 else 13), none⟩)) ∧ w' = w := by
  cases wr
  · go_enter Tryz.func111, Tryz.ntmps111
    go_wp2_with fail
    go_ret
    exact ⟨rfl, rfl⟩
  · go_enter Tryz.func111, Tryz.ntmps111
    go_wp2_with fail
    go_ret
    exact ⟨rfl, rfl⟩
set_option maxRecDepth 100000 in
set_option maxHeartbeats 400000 in
theorem ppipe_any (b : Nat) (z : Int) (S : Nat → Pi) (w : World) (h : PAt w b S) :
    Calls Tryz.prog 110 #[.pointer (some ⟨b, 0, none⟩), .int .i64 z] w fun e w' => e = .returned (.tuple #[pptE b z (Pp.pipE S z), errV (Pp.pipE S z)]) ∧ w' = w := by
  have HF := Hid.intro h
  by_cases c : z < 0 ∨ 7 < z
  · have E : Hid (Pp.pipE S z = 1) := Hid.intro (if_pos c)
    have E2 : Hid (pptE b z 1 = .pointer none) := Hid.intro (pptE_no (by decide))
    by_cases c1 : z < 0
    · clear c h
      go_enter Tryz.func110, Tryz.ntmps110
      go_wp2_with fail
      go_ret2
      rw [E.out, E2.out]
      exact ⟨rfl, rfl⟩
    · have c2 : 8 ≤ z := by omega
      clear c h
      go_enter Tryz.func110, Tryz.ntmps110
      go_wp2_with fail
      go_ret2
      rw [E.out, E2.out]
      exact ⟨rfl, rfl⟩
  · obtain ⟨n, rfl⟩ : ∃ n : Nat, z = n := ⟨z.toNat, by omega⟩
    have n8 : n < 8 := by omega
    have n8i : (n : Int) < 8 := by omega
    have E : Pp.pipE S (n : Int) = if Pp.thr (S n) then 0 else 2 := by unfold Pp.pipE; rw [if_neg c, Int.toNat_natCast]
    by_cases d : Pp.thr (S n) = true
    · have E1 : Hid (Pp.pipE S (n : Int) = 0 ∧ pptE b (n : Int) 0 = .pointer (some ⟨b, n * 15, none⟩) ∧ Pp.thr (S n) = true) := Hid.intro ⟨by rw [E, if_pos d], pptE_ok b n, d⟩
      clear c h d E
      go_enter Tryz.func110, Tryz.ntmps110
      go_wp2_with fail
      refine (pthere_any b n S _ HF.out n8).mono ?_
      rintro e w1 ⟨rfl, hw1⟩
      subst w1
      rw [E1.out.2.2]
      go_wp2_with fail
      go_ret2
      rw [E1.out.1, E1.out.2.1]
      exact ⟨rfl, rfl⟩
    · have E1 : Hid (Pp.pipE S (n : Int) = 2 ∧ pptE b (n : Int) 2 = .pointer none ∧ Pp.thr (S n) = false) := Hid.intro ⟨by rw [E, if_neg d], pptE_no (by decide), by simpa using d⟩
      clear c h d E
      go_enter Tryz.func110, Tryz.ntmps110
      go_wp2_with fail
      refine (pthere_any b n S _ HF.out n8).mono ?_
      rintro e w1 ⟨rfl, hw1⟩
      subst w1
      rw [E1.out.2.2]
      go_wp2_with fail
      go_ret2
      rw [E1.out.1, E1.out.2.1]
      exact ⟨rfl, rfl⟩
set_option maxRecDepth 100000 in
set_option maxHeartbeats 400000 in
theorem pop_any (b : Nat) (z : Int) (wr : Bool) (S : Nat → Pi) (w : World) (h : PAt w b S) :
    Calls Tryz.prog 99 #[.pointer (some ⟨b, 0, none⟩), .int .i64 z, .bool wr] w fun e w' => e = .returned (.tuple #[pptE b z (Pp.opE S z wr), errV (Pp.opE S z wr)]) ∧ w' = w := by
  have HF := Hid.intro h
  by_cases c : Pp.pipE S z = 0
  · obtain ⟨n, rfl, n8, _⟩ := Pp.pipE_ok c
    have c0 : w.cell? ⟨b, n * 15 + (if wr then 14 else 13), none⟩ = some (.int .i64 (Pp.tim (S n) wr : Int)) := by
      cases wr
      · exact h.reads n n8
      · exact h.writes n n8
    have EP : Hid (Pp.pipE S (n : Int) = 0 ∧ pptE b (n : Int) 0 = .pointer (some ⟨b, n * 15, none⟩)) := Hid.intro ⟨c, pptE_ok b n⟩
    have EO : Pp.opE S (n : Int) wr = if Pp.tim (S n) wr = 0 then 8 else 0 := by unfold Pp.opE; rw [if_neg (fun d => d c), Int.toNat_natCast]
    obtain ⟨o, ho⟩ : ∃ o, (if wr then 14 else 13) = o := ⟨_, rfl⟩
    have T : Hid (∀ W : World, Calls Tryz.prog 111 #[.pointer (some ⟨b, n * 15, none⟩), .bool wr] W fun e w' => e = .returned (.pointer (some ⟨b, n * 15 + o, none⟩)) ∧ w' = W) := Hid.intro (fun W => by
      have := ptimes_any b (n * 15) wr W
      rw [ho] at this
      exact this)
    rw [ho] at c0
    by_cases d : Pp.tim (S n) wr = 0
    · have FIN : Hid (Pp.opE S (n : Int) wr = 8 ∧ pptE b (n : Int) 8 = .pointer none) := Hid.intro ⟨by rw [EO, if_pos d], pptE_no (by decide)⟩
      rw [d] at c0
      have c1 : w.cell? ⟨b, n * 15 + o, none⟩ = some (.int .i64 0) := c0
      clear h c EO d c0 ho
      go_enter Tryz.func99, Tryz.ntmps99
      go_wp2_with fail
      refine (ppipe_any b n S _ HF.out).mono ?_
      rintro e w1 ⟨rfl, hw1⟩
      subst w1
      rw [EP.out.1, EP.out.2, errV_zero]
      go_wp2_with fail
      refine (T.out _).mono ?_
      rintro e w1 ⟨rfl, hw1⟩
      subst w1
      go_wp2_with fail
      go_ret2
      rw [FIN.out.1, FIN.out.2]
      exact ⟨rfl, rfl⟩
    · have FIN : Hid (Pp.opE S (n : Int) wr = 0) := Hid.intro (by rw [EO, if_neg d])
      generalize Pp.tim (S n) wr = k at d c0
      have d1 : ¬ (k : Int) = 0 := by omega
      clear h c EO d ho
      go_enter Tryz.func99, Tryz.ntmps99
      go_wp2_with fail
      refine (ppipe_any b n S _ HF.out).mono ?_
      rintro e w1 ⟨rfl, hw1⟩
      subst w1
      rw [EP.out.1, EP.out.2, errV_zero]
      go_wp2_with fail
      refine (T.out _).mono ?_
      rintro e w1 ⟨rfl, hw1⟩
      subst w1
      go_wp2_with fail
      go_ret2
      rw [FIN.out, EP.out.2]
      exact ⟨rfl, rfl⟩
  · have E2 : Hid (pptE b z (Pp.pipE S z) = .pointer none ∧ errV (Pp.pipE S z) = .iface 90 (.int .i64 (Pp.pipE S z)) ∧ Pp.opE S z wr = Pp.pipE S z) := Hid.intro ⟨pptE_no c, errV_ne c, if_pos c⟩
    clear h c
    go_enter Tryz.func99, Tryz.ntmps99
    go_wp2_with fail
    refine (ppipe_any b z S _ HF.out).mono ?_
    rintro e w1 ⟨rfl, hw1⟩
    subst w1
    rw [E2.out.1, E2.out.2.1]
    go_wp2_with fail
    go_ret2
    rw [E2.out.2.2, E2.out.1, E2.out.2.1]
    exact ⟨rfl, rfl⟩
end Go.Proofs.YtmneolabgajhmaaGreat

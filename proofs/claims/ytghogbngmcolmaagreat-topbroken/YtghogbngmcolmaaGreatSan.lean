import Derived.Lib.LazyBuf
import Derived.Laws.BytesString
import Derived.Deep.Cut
import Derived.Test.YtghogbngmcolmaaGreatSaa
import Derived.Test.YtghogbngmcolmaaGreatSam
namespace Go.Proofs.YtghogbngmcolmaaGreat
open Go.RowKit
namespace Pp
structure Pi where
  tx : ByteArray
  reads : Nat
  writes : Nat
def Pi.no : Pi := ⟨⟨#[]⟩, 0, 0⟩
def put (S : Nat → Pi) (n : Nat) (x : Pi) : Nat → Pi := fun m => if m = n then x else S m
theorem put_same (S : Nat → Pi) (n : Nat) (x : Pi) : put S n x n = x := if_pos rfl
theorem put_ne (S : Nat → Pi) (n : Nat) (x : Pi) (m : Nat) (h : m ≠ n) : put S n x m = S m := if_neg h
theorem put_put (S : Nat → Pi) (n : Nat) (x y : Pi) : put (put S n x) n y = put S n y := by
  funext m
  unfold put
  split <;> rfl
def thr (x : Pi) : Bool := decide (0 < x.reads ∨ 0 < x.writes)
def tim (x : Pi) (wr : Bool) : Nat := if wr then x.writes else x.reads
def pipE (S : Nat → Pi) (z : Int) : Int := if z < 0 ∨ 7 < z then 1 else if thr (S z.toNat) then 0 else 2
def opE (S : Nat → Pi) (z : Int) (wr : Bool) : Int := if pipE S z ≠ 0 then pipE S z else if tim (S z.toNat) wr = 0 then 8 else 0
theorem pipE_ok {S : Nat → Pi} {z : Int} (h : pipE S z = 0) : ∃ n : Nat, z = n ∧ n < 8 ∧ thr (S n) = true := by
  unfold pipE at h
  by_cases c : z < 0 ∨ 7 < z
  · rw [if_pos c] at h; omega
  · rw [if_neg c] at h
    refine ⟨z.toNat, by omega, by omega, ?_⟩
    by_cases d : thr (S z.toNat) = true
    · exact d
    · rw [if_neg d] at h; omega
theorem opE_ok {S : Nat → Pi} {z : Int} {wr : Bool} (h : opE S z wr = 0) : ∃ n : Nat, z = n ∧ n < 8 ∧ thr (S n) = true ∧ tim (S n) wr ≠ 0 := by
  unfold opE at h
  by_cases c : pipE S z ≠ 0
  · rw [if_pos c] at h; exact absurd h c
  · rw [if_neg c] at h
    obtain ⟨n, rfl, hn, ht⟩ := pipE_ok (by omega : pipE S z = 0)
    refine ⟨n, rfl, hn, ht, fun d => ?_⟩
    rw [Int.toNat_natCast, if_pos d] at h
    omega
def byL (t : ByteArray) : List Value := t.data.toList.map fun x => Value.int .u8 (x.toNat : Int)
theorem byL_len (t : ByteArray) : (byL t).length = t.size := by simp [byL]
end Pp
open Pp (Pi)
structure PAt (w : World) (b : Nat) (S : Nat → Pi) : Prop where
  blk : ∃ C T, w.heap[b]? = some (.cells C T (0, 0)) ∧ C.size = 120
  byt : ∀ n, n < 8 → ∀ j v, (Pp.byL (S n).tx)[j]? = some v → w.cell? ⟨b, n * 15 + j, none⟩ = some v
  many : ∀ n, n < 8 → w.cell? ⟨b, n * 15 + 12, none⟩ = some (.int .i64 ((S n).tx.size : Int))
  reads : ∀ n, n < 8 → w.cell? ⟨b, n * 15 + 13, none⟩ = some (.int .i64 ((S n).reads : Int))
  writes : ∀ n, n < 8 → w.cell? ⟨b, n * 15 + 14, none⟩ = some (.int .i64 ((S n).writes : Int))
  small : ∀ n, n < 8 → (S n).tx.size ≤ 12
section
variable {w w' : World} {b : Nat} {S : Nat → Pi}
theorem PAt.lt (h : PAt w b S) : b < w.heap.size := by
  obtain ⟨C, T, e, _⟩ := h.blk
  exact (Array.getElem?_eq_some_iff.1 e).1
theorem PAt.frozen (h : PAt w b S) (o : Nat) : w.frozen? ⟨b, o, none⟩ = false := by
  obtain ⟨C, T, e, _⟩ := h.blk
  exact frozen_blk e o
theorem PAt.isS (h : PAt w b S) (o : Nat) (ho : o < 120) : (w.cell? ⟨b, o, none⟩).isSome = true := by
  obtain ⟨C, T, e, hC⟩ := h.blk
  rw [cell_blk e, Array.getElem?_eq_getElem (by omega)]; rfl
theorem PAt.same (h : PAt w b S) (e : w'.heap[b]? = w.heap[b]?) : PAt w' b S := by
  have hc : ∀ o, w'.cell? ⟨b, o, none⟩ = w.cell? ⟨b, o, none⟩ := fun o => World.cell?_of_block e
  exact ⟨by rw [e]; exact h.blk, fun n hn j v hv => (hc _).trans (h.byt n hn j v hv), fun n hn => (hc _).trans (h.many n hn), fun n hn => (hc _).trans (h.reads n hn), fun n hn => (hc _).trans (h.writes n hn), h.small⟩
theorem PAt.drew (h : PAt w b S) : PAt w.drew b S := h.same rfl
theorem PAt.below {B : Nat} (h : PAt w b S) (k : Below B w w') (hb : b < B) : PAt w' b S := h.same (k.block b hb)
theorem PAt.frm {c : Nat} (h : PAt w b S) (k : Frm c w w') (hb : b ≠ c) : PAt w' b S := h.same (k.block b h.lt hb)
end
def pptE (b : Nat) (z E : Int) : Value := if E = 0 then .pointer (some ⟨b, z.toNat * 15, none⟩) else .pointer none
theorem pptE_ok (b n : Nat) : pptE b (n : Int) 0 = .pointer (some ⟨b, n * 15, none⟩) := by unfold pptE; rw [if_pos rfl, Int.toNat_natCast]
theorem pptE_no {b : Nat} {z E : Int} (h : E ≠ 0) : pptE b z E = .pointer none := if_neg h
set_option maxRecDepth 100000 in
set_option maxHeartbeats 400000 in
theorem pthere_any (b n : Nat) (S : Nat → Pi) (w : World) (h : PAt w b S) (hn : n < 8) :
    Calls Tryz.prog 108 #[.pointer (some ⟨b, n * 15, none⟩)] w fun e w' => e = .returned (.bool (Pp.thr (S n))) ∧ w' = w := by
  have c1 := h.reads n hn
  have c2 := h.writes n hn
  unfold Pp.thr
  generalize (S n).reads = r at c1 ⊢
  generalize (S n).writes = u at c2 ⊢
  clear h
  by_cases r0 : 0 < r
  · have r1 : (0 : Int) < (r : Int) := by omega
    go_enter Tryz.func108, Tryz.ntmps108
    go_wp2_with fail
    go_ret
    exact ⟨ret_bool (by simp [r0]), rfl⟩
  · have r1 : ¬ (0 : Int) < (r : Int) := by omega
    go_enter Tryz.func108, Tryz.ntmps108
    go_wp2_with fail
    go_ret
    exact ⟨ret_bool (by simp), rfl⟩
set_option maxRecDepth 100000 in
set_option maxHeartbeats 400000 in
theorem ptimes_any (b o : Nat) (wr : Bool) (w : World) :
    Calls Tryz.prog 148 #[.pointer (some ⟨b, o, none⟩), .bool wr] w fun e w' => e = .returned (.pointer (some ⟨b, o + (if wr then 14 else 13), none⟩)) ∧ w' = w := by
  cases wr
  · go_enter Tryz.func148, Tryz.ntmps148
    go_wp2_with fail
    go_ret
    exact ⟨rfl, rfl⟩
  · go_enter Tryz.func148, Tryz.ntmps148
    go_wp2_with fail
    go_ret
    exact ⟨rfl, rfl⟩
set_option maxRecDepth 100000 in
set_option maxHeartbeats 400000 in
theorem ppipe_any (b : Nat) (z : Int) (S : Nat → Pi) (w : World) (h : PAt w b S) :
    Calls Tryz.prog 147 #[.pointer (some ⟨b, 0, none⟩), .int .i64 z] w fun e w' => e = .returned (.tuple #[pptE b z (Pp.pipE S z), errV (Pp.pipE S z)]) ∧ w' = w := by
  have HF := Hid.intro h
  by_cases c : z < 0 ∨ 7 < z
  · have E : Hid (Pp.pipE S z = 1) := Hid.intro (if_pos c)
    have E2 : Hid (pptE b z 1 = .pointer none) := Hid.intro (pptE_no (by decide))
    by_cases c1 : z < 0
    · clear c h
      go_enter Tryz.func147, Tryz.ntmps147
      go_wp2_with fail
      go_ret2
      rw [E.out, E2.out]
      exact ⟨rfl, rfl⟩
    · have c2 : 8 ≤ z := by omega
      clear c h
      go_enter Tryz.func147, Tryz.ntmps147
      go_wp2_with fail
      go_ret2
      rw [E.out, E2.out]
      exact ⟨rfl, rfl⟩
  · obtain ⟨n, rfl⟩ : ∃ n : Nat, z = n := ⟨z.toNat, by omega⟩
    have n8 : n < 8 := by omega
    have n8i : (n : Int) < 8 := by omega
    have E : Pp.pipE S (n : Int) = if Pp.thr (S n) then 0 else 2 := by unfold Pp.pipE; rw [if_neg c, Int.toNat_natCast]
    by_cases d : Pp.thr (S n) = true
    · have E1 : Hid (Pp.pipE S (n : Int) = 0 ∧ pptE b (n : Int) 0 = .pointer (some ⟨b, n * 15, none⟩) ∧ Pp.thr (S n) = true) := Hid.intro ⟨by rw [E, if_pos d], pptE_ok b n, d⟩
      clear c h d E
      go_enter Tryz.func147, Tryz.ntmps147
      go_wp2_with fail
      refine (pthere_any b n S _ HF.out n8).mono ?_
      rintro e w1 ⟨rfl, hw1⟩
      subst w1
      rw [E1.out.2.2]
      go_wp2_with fail
      go_ret2
      rw [E1.out.1, E1.out.2.1]
      exact ⟨rfl, rfl⟩
    · have E1 : Hid (Pp.pipE S (n : Int) = 2 ∧ pptE b (n : Int) 2 = .pointer none ∧ Pp.thr (S n) = false) := Hid.intro ⟨by rw [E, if_neg d], pptE_no (by decide), by simpa using d⟩
      clear c h d E
      go_enter Tryz.func147, Tryz.ntmps147
      go_wp2_with fail
      refine (pthere_any b n S _ HF.out n8).mono ?_
      rintro e w1 ⟨rfl, hw1⟩
      subst w1
      rw [E1.out.2.2]
      go_wp2_with fail
      go_ret2
      rw [E1.out.1, E1.out.2.1]
      exact ⟨rfl, rfl⟩
set_option maxRecDepth 100000 in
set_option maxHeartbeats 400000 in
theorem pop_any (b : Nat) (z : Int) (wr : Bool) (S : Nat → Pi) (w : World) (h : PAt w b S) :
    Calls Tryz.prog 129 #[.pointer (some ⟨b, 0, none⟩), .int .i64 z, .bool wr] w fun e w' => e = .returned (.tuple #[pptE b z (Pp.opE S z wr), errV (Pp.opE S z wr)]) ∧ w' = w := by
  have HF := Hid.intro h
  by_cases c : Pp.pipE S z = 0
  · obtain ⟨n, rfl, n8, _⟩ := Pp.pipE_ok c
    have c0 : w.cell? ⟨b, n * 15 + (if wr then 14 else 13), none⟩ = some (.int .i64 (Pp.tim (S n) wr : Int)) := by
      cases wr
      · exact h.reads n n8
      · exact h.writes n n8
    have EP : Hid (Pp.pipE S (n : Int) = 0 ∧ pptE b (n : Int) 0 = .pointer (some ⟨b, n * 15, none⟩)) := Hid.intro ⟨c, pptE_ok b n⟩
    have EO : Pp.opE S (n : Int) wr = if Pp.tim (S n) wr = 0 then 8 else 0 := by unfold Pp.opE; rw [if_neg (fun d => d c), Int.toNat_natCast]
    obtain ⟨o, ho⟩ : ∃ o, (if wr then 14 else 13) = o := ⟨_, rfl⟩
    have T : Hid (∀ W : World, Calls Tryz.prog 148 #[.pointer (some ⟨b, n * 15, none⟩), .bool wr] W fun e w' => e = .returned (.pointer (some ⟨b, n * 15 + o, none⟩)) ∧ w' = W) := Hid.intro (fun W => by
      have := ptimes_any b (n * 15) wr W
      rw [ho] at this
      exact this)
    rw [ho] at c0
    by_cases d : Pp.tim (S n) wr = 0
    · have FIN : Hid (Pp.opE S (n : Int) wr = 8 ∧ pptE b (n : Int) 8 = .pointer none) := Hid.intro ⟨by rw [EO, if_pos d], pptE_no (by decide)⟩
      rw [d] at c0
      have c1 : w.cell? ⟨b, n * 15 + o, none⟩ = some (.int .i64 0) := c0
      clear h c EO d c0 ho
      go_enter Tryz.func129, Tryz.ntmps129
      go_wp2_with fail
      refine (ppipe_any b n S _ HF.out).mono ?_
      rintro e w1 ⟨rfl, hw1⟩
      subst w1
      rw [EP.out.1, EP.out.2, errV_zero]
      go_wp2_with fail
      refine (T.out _).mono ?_
      rintro e w1 ⟨rfl, hw1⟩
      subst w1
      go_wp2_with fail
      go_ret2
      rw [FIN.out.1, FIN.out.2]
      exact ⟨rfl, rfl⟩
    · have FIN : Hid (Pp.opE S (n : Int) wr = 0) := Hid.intro (by rw [EO, if_neg d])
      generalize Pp.tim (S n) wr = k at d c0
      have d1 : ¬ (k : Int) = 0 := by omega
      clear h c EO d ho
      go_enter Tryz.func129, Tryz.ntmps129
      go_wp2_with fail
      refine (ppipe_any b n S _ HF.out).mono ?_
      rintro e w1 ⟨rfl, hw1⟩
      subst w1
      rw [EP.out.1, EP.out.2, errV_zero]
      go_wp2_with fail
      refine (T.out _).mono ?_
      rintro e w1 ⟨rfl, hw1⟩
      subst w1
      go_wp2_with fail
      go_ret2
      rw [FIN.out, EP.out.2]
      exact ⟨rfl, rfl⟩
  · have E2 : Hid (pptE b z (Pp.pipE S z) = .pointer none ∧ errV (Pp.pipE S z) = .iface 60 (.int .i64 (Pp.pipE S z)) ∧ Pp.opE S z wr = Pp.pipE S z) := Hid.intro ⟨pptE_no c, errV_ne c, if_pos c⟩
    clear h c
    go_enter Tryz.func129, Tryz.ntmps129
    go_wp2_with fail
    refine (ppipe_any b z S _ HF.out).mono ?_
    rintro e w1 ⟨rfl, hw1⟩
    subst w1
    rw [E2.out.1, E2.out.2.1]
    go_wp2_with fail
    go_ret2
    rw [E2.out.2.2, E2.out.1, E2.out.2.1]
    exact ⟨rfl, rfl⟩
end Go.Proofs.YtghogbngmcolmaaGreat
namespace Go.Proofs.YtghogbngmcolmaaGreat
open Go.RowKit
open Pp (Pi)
theorem Pp.below_drewN (B : Nat) (w : World) (n : Nat) : Below B w (w.drewN n) := by
  have := Below.refl B w
  exact ⟨this.os, this.tape, this.output, this.size, this.block⟩
theorem Pp.frm_setCells {b : Nat} : ∀ (vs : List Value) (o : Nat) {u w : World}, Frm b u w → Frm b u (w.setCells b o vs)
  | [], _, _, _, h => h
  | v :: r, o, u, w, h => by rw [World.setCells]; exact Pp.frm_setCells r (o + 1) (h.setCell o v)
theorem Pp.blk_setCells (b : Nat) : ∀ (vs : List Value) (o : Nat) (w : World) (C : Array Value) {T : TypeId}, w.heap[b]? = some (.cells C T (0, 0)) → ∃ C', (w.setCells b o vs).heap[b]? = some (.cells C' T (0, 0)) ∧ C'.size = C.size
  | [], _, _, C, _, h => ⟨C, h, rfl⟩
  | v :: r, o, w, C, _, h => by
    rw [World.setCells]
    obtain ⟨C', h1, h2⟩ := Pp.blk_setCells b r (o + 1) _ _ (blk_set h o v)
    exact ⟨C', h1, by simpa using h2⟩
def Pp.setT (x : Pi) (wr : Bool) (k : Nat) : Pi := if wr then { x with writes := k } else { x with reads := k }
def Pp.noA (r u : Nat) : Array Value := #[.int .u8 0, .int .u8 0, .int .u8 0, .int .u8 0, .int .u8 0, .int .u8 0, .int .u8 0, .int .u8 0, .int .u8 0, .int .u8 0, .int .u8 0, .int .u8 0, .int .i64 0, .int .i64 (r : Int), .int .i64 (u : Int)]
section
variable {w : World} {b : Nat} {S : Nat → Pi}
theorem Pp.byt_lt {t : ByteArray} {j : Nat} {v : Value} (h : (Pp.byL t)[j]? = some v) : j < t.size := by
  have := (List.getElem?_eq_some_iff.1 h).1
  rw [Pp.byL_len] at this
  exact this
theorem PAt.setT (h : PAt w b S) (n : Nat) (hn : n < 8) (wr : Bool) (k : Nat) : PAt (w.setCell ⟨b, n * 15 + (if wr then 14 else 13), none⟩ (.int .i64 (k : Int))) b (Pp.put S n (Pp.setT (S n) wr k)) := by
  obtain ⟨C, T, h1, h2⟩ := h.blk
  have ne : ∀ o, o ≠ n * 15 + (if wr then 14 else 13) → (w.setCell ⟨b, n * 15 + (if wr then 14 else 13), none⟩ (.int .i64 (k : Int))).cell? ⟨b, o, none⟩ = w.cell? ⟨b, o, none⟩ := fun o ho => cell_set_ne h1 _ _ _ (Ne.symm ho)
  have eq : (w.setCell ⟨b, n * 15 + (if wr then 14 else 13), none⟩ (.int .i64 (k : Int))).cell? ⟨b, n * 15 + (if wr then 14 else 13), none⟩ = some (.int .i64 (k : Int)) := cell_set_same h1 _ _ (by split <;> omega)
  have tx : (Pp.setT (S n) wr k).tx = (S n).tx := by cases wr <;> rfl
  refine ⟨⟨_, T, blk_set h1 _ _, by simpa using h2⟩, fun m hm j v hv => ?_, fun m hm => ?_, fun m hm => ?_, fun m hm => ?_, fun m hm => ?_⟩
  · by_cases c : m = n
    · subst c
      rw [Pp.put_same, tx] at hv
      have := Pp.byt_lt hv
      have := h.small m hm
      rw [ne _ (by split <;> omega)]
      exact h.byt m hm j v hv
    · rw [Pp.put_ne _ _ _ _ c] at hv
      have := Pp.byt_lt hv
      have := h.small m hm
      rw [ne _ (by split <;> omega)]
      exact h.byt m hm j v hv
  · rw [ne _ (by split <;> omega), h.many m hm]
    by_cases c : m = n
    · subst c; rw [Pp.put_same, tx]
    · rw [Pp.put_ne _ _ _ _ c]
  · by_cases c : m = n
    · subst c
      rw [Pp.put_same]
      cases wr
      · exact eq
      · rw [ne _ (by simp)]; exact h.reads m hm
    · rw [Pp.put_ne _ _ _ _ c, ne _ (by split <;> omega), h.reads m hm]
  · by_cases c : m = n
    · subst c
      rw [Pp.put_same]
      cases wr
      · rw [ne _ (by simp)]; exact h.writes m hm
      · exact eq
    · rw [Pp.put_ne _ _ _ _ c, ne _ (by split <;> omega), h.writes m hm]
  · by_cases c : m = n
    · subst c; rw [Pp.put_same, tx]; exact h.small m hm
    · rw [Pp.put_ne _ _ _ _ c]; exact h.small m hm
theorem PAt.setNo (h : PAt w b S) (n : Nat) (hn : n < 8) (r u : Nat) : PAt (w.setCells b (n * 15) (Pp.noA r u).toList) b (Pp.put S n ⟨⟨#[]⟩, r, u⟩) := by
  obtain ⟨C, T, h1, h2⟩ := h.blk
  obtain ⟨C', k1, k2⟩ := Pp.blk_setCells b (Pp.noA r u).toList (n * 15) w C h1
  have out : ∀ o, o < n * 15 ∨ n * 15 + 15 ≤ o → (w.setCells b (n * 15) (Pp.noA r u).toList).cell? ⟨b, o, none⟩ = w.cell? ⟨b, o, none⟩ := fun o ho => World.cell?_setCells_out b _ (n * 15) w ⟨b, o, none⟩ (fun _ _ => by show o < _ ∨ _ ≤ o; exact ho)
  have inn : ∀ j (hj : j < 15), (w.setCells b (n * 15) (Pp.noA r u).toList).cell? ⟨b, n * 15 + j, none⟩ = some ((Pp.noA r u).toList[j]'hj) := fun j hj => World.cell?_setCells_in b (Pp.noA r u).toList (n * 15) w (fun i hi => h.isS _ (by have : i < 15 := hi; omega)) j hj
  refine ⟨⟨C', T, k1, by omega⟩, fun m hm j v hv => ?_, fun m hm => ?_, fun m hm => ?_, fun m hm => ?_, fun m hm => ?_⟩
  · by_cases c : m = n
    · subst c
      rw [Pp.put_same] at hv
      exact absurd (Pp.byt_lt hv) (by show ¬ j < 0; omega)
    · rw [Pp.put_ne _ _ _ _ c] at hv
      have := Pp.byt_lt hv
      have := h.small m hm
      rw [out _ (by omega)]
      exact h.byt m hm j v hv
  · by_cases c : m = n
    · subst c; rw [Pp.put_same]; exact inn 12 (by omega)
    · rw [Pp.put_ne _ _ _ _ c, out _ (by omega)]; exact h.many m hm
  · by_cases c : m = n
    · subst c; rw [Pp.put_same]; exact inn 13 (by omega)
    · rw [Pp.put_ne _ _ _ _ c, out _ (by omega)]; exact h.reads m hm
  · by_cases c : m = n
    · subst c; rw [Pp.put_same]; exact inn 14 (by omega)
    · rw [Pp.put_ne _ _ _ _ c, out _ (by omega)]; exact h.writes m hm
  · by_cases c : m = n
    · subst c; rw [Pp.put_same]; exact Nat.zero_le _
    · rw [Pp.put_ne _ _ _ _ c]; exact h.small m hm
theorem PAt.there15 (h : PAt w b S) (n : Nat) (hn : n < 8) (r u : Nat) : w.there b (n * 15) (Pp.noA r u).size := fun j hj => by
  have : j < 15 := hj
  exact ⟨h.isS _ (by omega), h.frozen _⟩
theorem Pp.info_pipe (r u : Nat) : (Tryz.prog.info? 105).map (·.size) = some (Pp.noA r u).size := by
  show _ = some 15
  kernel_rfl
theorem Pp.noA_one (r u : Nat) : (Pp.noA r u).all (·.oneCell') = true := by simp [Pp.noA, Value.oneCell']
end
section
variable {ops : Array Oper} {rest : List Oper} {x : Oper} {a : Act} {w : World} {Q : Exit → Act → World → Prop}
set_option maxRecDepth 100000 in
theorem Pp.wp_build0 (hgd : x.guard = none) (ho : x.op = .build 105 #[]) (h : wpList Tryz.prog ops Q rest (a.put x.dst (.agg (Pp.noA 0 0))) w) : wpList Tryz.prog ops Q (x :: rest) a w :=
  wpList_plain hgd fun _ hK => by
    unfold Oper.wp execOp
    simp only [ho]
    simp [go_sem]
    exact hK _ _ h
set_option maxRecDepth 100000 in
theorem Pp.wp_build2 (hgd : x.guard = none) (ho : x.op = .build 105 #[(2, .const (.int .i64 1)), (3, .const (.int .i64 1))]) (h : wpList Tryz.prog ops Q rest (a.put x.dst (.agg (Pp.noA 1 1))) w) : wpList Tryz.prog ops Q (x :: rest) a w :=
  wpList_plain hgd fun _ hK => by
    unfold Oper.wp execOp
    simp only [ho]
    simp [go_sem]
    exact hK _ _ h
end
def Pp.less (x : Pi) (wr : Bool) : Pi := if Pp.thr (Pp.setT x wr (Pp.tim x wr - 1)) then Pp.setT x wr (Pp.tim x wr - 1) else Pi.no
def Pp.droF (S : Nat → Pi) (z : Int) (wr : Bool) : Nat → Pi := if Pp.opE S z wr = 0 then Pp.put S z.toNat (Pp.less (S z.toNat) wr) else S
theorem PAt.tim {w : World} {b : Nat} {S : Nat → Pi} (h : PAt w b S) (n : Nat) (hn : n < 8) (wr : Bool) : w.cell? ⟨b, n * 15 + (if wr then 14 else 13), none⟩ = some (.int .i64 (Pp.tim (S n) wr : Int)) := by
  cases wr
  · exact h.reads n hn
  · exact h.writes n hn
set_option maxRecDepth 100000 in
set_option maxHeartbeats 1000000 in
theorem pdrop_any (b : Nat) (z : Int) (wr : Bool) (S : Nat → Pi) (w : World) (h : PAt w b S) (hb : ∀ n, n < 8 → Pp.tim (S n) wr < 2 ^ 60) :
    Calls Tryz.prog 133 #[.pointer (some ⟨b, 0, none⟩), .int .i64 z, .bool wr] w fun e w' => e = .returned (errV (Pp.opE S z wr)) ∧ PAt w' b (Pp.droF S z wr) ∧ Frm b w w' := by
  have HF := Hid.intro h
  by_cases c : Pp.opE S z wr = 0
  · obtain ⟨n, rfl, n8, _, t0⟩ := Pp.opE_ok c
    have EP : Hid (Pp.opE S (n : Int) wr = 0 ∧ pptE b (n : Int) 0 = .pointer (some ⟨b, n * 15, none⟩)) := Hid.intro ⟨c, pptE_ok b n⟩
    have ED : Pp.droF S (n : Int) wr = Pp.put S n (Pp.less (S n) wr) := by unfold Pp.droF; rw [if_pos c, Int.toNat_natCast]
    have c0 := h.tim n n8 wr
    have hl := hb n n8
    have T := Hid.intro (ptimes_any b (n * 15) wr)
    have S1 : Hid (PAt (w.setCell ⟨b, n * 15 + (if wr then 14 else 13), none⟩ (.int .i64 ((Pp.tim (S n) wr - 1 : Nat) : Int))) b (Pp.put S n (Pp.setT (S n) wr (Pp.tim (S n) wr - 1)))) := Hid.intro (h.setT n n8 wr _)
    have cf := h.frozen
    have HL : Hid (Pp.less (S n) wr = if Pp.thr (Pp.setT (S n) wr (Pp.tim (S n) wr - 1)) then Pp.setT (S n) wr (Pp.tim (S n) wr - 1) else Pi.no) := Hid.intro rfl
    generalize hX : Pp.setT (S n) wr (Pp.tim (S n) wr - 1) = X at S1 HL
    clear hX
    generalize (if wr then 14 else 13) = o at c0 T S1
    generalize Pp.tim (S n) wr = k at *
    obtain ⟨q, rfl⟩ : ∃ q, k = q + 1 := ⟨k - 1, by omega⟩
    have hw : IntKind.i64.wrap ((q + 1 : Nat) - 1 : Int) = (q : Int) := (IntWalk.i64_in _ ⟨by omega, by omega⟩).trans (by omega)
    rw [Nat.add_sub_cancel] at S1
    clear h c hb t0 hl
    obtain ⟨k1, hk1⟩ : ∃ k1 : Int, ((q + 1 : Nat) : Int) = k1 := ⟨_, rfl⟩
    rw [hk1] at c0 hw
    clear hk1
    go_enter Tryz.func133, Tryz.ntmps133
    go_wp2_with fail
    refine (pop_any b n wr S _ HF.out).mono ?_
    rintro e w1 ⟨rfl, hw1⟩
    subst w1
    rw [EP.out.1, EP.out.2, errV_zero]
    go_wp2_with fail
    refine (T.out _).mono ?_
    rintro e w1 ⟨rfl, hw1⟩
    subst w1
    go_wp2_with fail
    have TH := Hid.intro (pthere_any b n _ _ S1.out n8)
    rw [Pp.put_same] at TH
    refine TH.out.mono ?_
    rintro e w1 ⟨rfl, hw1⟩
    subst w1
    have F1 : Hid (Frm b w (w.setCell ⟨b, n * 15 + o, none⟩ (.int .i64 (q : Int)))) := Hid.intro ((Frm.refl b w).setCell _ _)
    clear TH T
    cases hth : Pp.thr X
    · have TH := Hid.intro (S1.out.there15 n n8 0 0)
      have HS := Hid.intro (Pp.info_pipe 0 0)
      have H1 := Hid.intro (Pp.noA_one 0 0)
      have FIN : Hid (PAt ((w.setCell ⟨b, n * 15 + o, none⟩ (.int .i64 (q : Int))).setCells b (n * 15) (Pp.noA 0 0).toList) b (Pp.droF S (n : Int) wr) ∧ Frm b w ((w.setCell ⟨b, n * 15 + o, none⟩ (.int .i64 (q : Int))).setCells b (n * 15) (Pp.noA 0 0).toList)) := Hid.intro (by
        have := S1.out.setNo n n8 0 0
        rw [Pp.put_put] at this
        rw [ED, HL.out, hth, if_neg (by decide)]
        exact ⟨this, Pp.frm_setCells _ _ F1.out⟩)
      obtain ⟨A, hA⟩ : ∃ A, Pp.noA 0 0 = A := ⟨_, rfl⟩
      rw [hA] at FIN TH HS H1
      clear c0 cf hw S1 F1 HL ED hth
      generalize w.setCell ⟨b, n * 15 + o, none⟩ (.int .i64 (q : Int)) = W at *
      go_wp2_with (first | (refine Pp.wp_build0 rfl rfl ?_; rw [hA]) | (refine wpList_store_mid rfl 105 _ _ rfl b (n * 15) A rfl rfl TH.out HS.out H1.out ?_))
      go_ret
      rw [EP.out.1]
      exact ⟨rfl, FIN.out⟩
    · have FIN : Hid (PAt (w.setCell ⟨b, n * 15 + o, none⟩ (.int .i64 (q : Int))) b (Pp.droF S (n : Int) wr)) := Hid.intro (by
        rw [ED, HL.out, hth, if_pos rfl]
        exact S1.out)
      clear c0 cf hw S1 HL ED hth
      generalize w.setCell ⟨b, n * 15 + o, none⟩ (.int .i64 (q : Int)) = W at *
      go_wp2_with fail
      go_ret
      rw [EP.out.1]
      exact ⟨rfl, FIN.out, F1.out⟩
  · have E2 : Hid (pptE b z (Pp.opE S z wr) = .pointer none ∧ errV (Pp.opE S z wr) = .iface 60 (.int .i64 (Pp.opE S z wr)) ∧ Pp.droF S z wr = S) := Hid.intro ⟨pptE_no c, errV_ne c, if_neg c⟩
    clear h c hb
    go_enter Tryz.func133, Tryz.ntmps133
    go_wp2_with fail
    refine (pop_any b z wr S _ HF.out).mono ?_
    rintro e w1 ⟨rfl, hw1⟩
    subst w1
    rw [E2.out.1, E2.out.2.1]
    go_wp2_with fail
    go_ret
    rw [E2.out.2.2, E2.out.2.1]
    exact ⟨rfl, HF.out, Frm.refl _ _⟩
end Go.Proofs.YtghogbngmcolmaaGreat
namespace Go.Proofs.YtghogbngmcolmaaGreat
open Go.RowKit
open Pp (Pi)
theorem Pp.byL_ext (t : ByteArray) (a e : Nat) : Pp.byL (t.extract a e) = ((Pp.byL t).drop a).take (e - a) := by
  unfold Pp.byL
  rw [ByteArray.data_extract, Array.toList_extract, List.extract, List.map_take, List.map_drop]
theorem Pp.byL_app (s t : ByteArray) : Pp.byL (s ++ t) = Pp.byL s ++ Pp.byL t := by
  unfold Pp.byL
  rw [ByteArray.data_append, Array.toList_append, List.map_append]
section
variable {P : Program}
theorem Pp.run_copy_part (w : World) (dT sT ty elem : TypeId) (b o dLen dCap : Nat) (t : ByteArray) (hu : P.underlying dT = some (.slice elem)) (hz : ∀ w, (Go.sizeOf elem).run P w = .ok 1 w)
    (hc : ∀ j, j < min t.size dLen → (w.cell? ⟨b, o + j, none⟩).isSome = true) (hf : ∀ j, j < min t.size dLen → w.frozen? ⟨b, o + j, none⟩ = false) :
    (Builtin.copy_ #[dT, sT] ty #[.slice (some ⟨b, o, none⟩) dLen dCap, .string t]).run P w = .ok (goInt ((min t.size dLen : Nat) : Int)) (w.setCells b o (Pp.byL (t.extract 0 (min t.size dLen)))) := by
  have hl : (Pp.byL (t.extract 0 (min t.size dLen))).length = min t.size dLen := by rw [Pp.byL_len, ByteArray.size_extract]; omega
  have hst := run_storeCells_cells (P := P) b o (Pp.byL (t.extract 0 (min t.size dLen))) 0 w (by rw [hl]; simpa using hc) (by rw [hl]; simpa using hf) (by
    intro v hv
    obtain ⟨x, _, rfl⟩ := List.mem_map.1 hv
    rfl)
  have hm : Nat.min t.size dLen = min t.size dLen := rfl
  have ht : List.take (min t.size dLen) (List.map (fun x : UInt8 => Value.int .u8 (x.toNat : Int)) t.data.toList) = Pp.byL (t.extract 0 (min t.size dLen)) := by
    rw [Pp.byL_ext, List.drop_zero, Nat.sub_zero]
    rfl
  simp [Builtin.copy_, run_underlying hu, Builtin.lenOf, Builtin.firstCells, hz, hm]
  rw [ht, hst]
  rfl
set_option maxRecDepth 100000 in
theorem Pp.run_copy_emp (w : World) (ty : TypeId) (d : Option Addr) (dLen dCap : Nat) : (Builtin.copy_ #[220, 9] ty #[.slice d dLen dCap, .string ⟨#[]⟩]).run Tryz.prog w = .ok (goInt 0) w := by
  have hu : Tryz.prog.underlying 220 = some (.slice 5) := by kernel_rfl
  have hz : ∀ w, (Go.sizeOf 5).run Tryz.prog w = .ok 1 w := fun w => by rfl
  have e0 : ByteArray.size ⟨#[]⟩ = 0 := rfl
  cases d <;> simp [Builtin.copy_, run_underlying hu, Builtin.lenOf, Builtin.firstCells, hz, e0, storeCells]
theorem Pp.step_copy {ops : Array Oper} {o : Oper} {a : Act} {w : World} {K : Act → World → Prop} {Q : Exit → Act → World → Prop} {E : Prop}
    (hg : o.guard = none) (d x : Operand) (dT sT : TypeId) (hop : o.op = Op.call { callee := Callee.builtin Builtin.copy, args := #[d, x], argTypes := #[dT, sT] })
    (v1 v2 r : Value) (W : World) (hd : a.eval d = v1) (hx : a.eval x = v2) (hrun : (Builtin.copy_ #[dT, sT] o.type #[v1, v2]).run P w = .ok r W) (hK : K (a.put o.dst r) W) :
    if Region.wanted o (yielded ops a.tmps) = true then Oper.wp P o a w K Q else E := by
  have hw : Region.wanted o (yielded ops a.tmps) = true := by simp [Region.wanted, hg]
  rw [if_pos hw]
  unfold Oper.wp
  simp [execOp, hop, resolve, invoke, builtin, hd, hx, hrun, Result.andThen]
  exact hK
end
section
variable {w : World} {b : Nat} {S : Nat → Pi}
theorem PAt.wrote (h : PAt w b S) (n : Nat) (hn : n < 8) (t : ByteArray) (ht : (S n).tx.size + t.size ≤ 12) :
    PAt ((w.setCells b (n * 15 + (S n).tx.size) (Pp.byL t)).setCell ⟨b, n * 15 + 12, none⟩ (.int .i64 (((S n).tx.size + t.size : Nat) : Int))) b (Pp.put S n { S n with tx := (S n).tx ++ t }) := by
  obtain ⟨C, T, h1, h2⟩ := h.blk
  obtain ⟨C', k1, k2⟩ := Pp.blk_setCells b (Pp.byL t) (n * 15 + (S n).tx.size) w C h1
  have hl := Pp.byL_len t
  have ne : ∀ o, o ≠ n * 15 + 12 → ((w.setCells b (n * 15 + (S n).tx.size) (Pp.byL t)).setCell ⟨b, n * 15 + 12, none⟩ (.int .i64 (((S n).tx.size + t.size : Nat) : Int))).cell? ⟨b, o, none⟩ = (w.setCells b (n * 15 + (S n).tx.size) (Pp.byL t)).cell? ⟨b, o, none⟩ := fun o ho => cell_set_ne k1 _ _ _ (Ne.symm ho)
  have out : ∀ o, o < n * 15 + (S n).tx.size ∨ n * 15 + (S n).tx.size + t.size ≤ o → (w.setCells b (n * 15 + (S n).tx.size) (Pp.byL t)).cell? ⟨b, o, none⟩ = w.cell? ⟨b, o, none⟩ := fun o ho => World.cell?_setCells_out b _ _ w ⟨b, o, none⟩ (fun _ _ => by rw [hl]; exact ho)
  have inn : ∀ j (hj : j < (Pp.byL t).length), (w.setCells b (n * 15 + (S n).tx.size) (Pp.byL t)).cell? ⟨b, n * 15 + (S n).tx.size + j, none⟩ = some ((Pp.byL t)[j]) := fun j hj => World.cell?_setCells_in b (Pp.byL t) _ w (fun i hi => h.isS _ (by rw [hl] at hi; omega)) j hj
  refine ⟨⟨_, T, blk_set k1 _ _, by simp; omega⟩, fun m hm j v hv => ?_, fun m hm => ?_, fun m hm => ?_, fun m hm => ?_, fun m hm => ?_⟩
  · by_cases c : m = n
    · subst c
      rw [Pp.put_same] at hv
      have hj := Pp.byt_lt hv
      rw [ByteArray.size_append] at hj
      rw [ne _ (by omega)]
      have hv : (Pp.byL (S m).tx ++ Pp.byL t)[j]? = some v := by rw [← Pp.byL_app]; exact hv
      by_cases d : j < (S m).tx.size
      · rw [List.getElem?_append_left (by rw [Pp.byL_len]; exact d)] at hv
        rw [out _ (by omega)]
        exact h.byt m hm j v hv
      · rw [List.getElem?_append_right (by rw [Pp.byL_len]; omega), Pp.byL_len] at hv
        have := inn (j - (S m).tx.size) (by rw [hl]; omega)
        rw [show m * 15 + (S m).tx.size + (j - (S m).tx.size) = m * 15 + j by omega, ← List.getElem?_eq_getElem, hv] at this
        exact this
    · rw [Pp.put_ne _ _ _ _ c] at hv
      have := Pp.byt_lt hv
      have := h.small m hm
      rw [ne _ (by omega), out _ (by omega)]
      exact h.byt m hm j v hv
  · by_cases c : m = n
    · subst c
      rw [Pp.put_same, cell_set_same k1 _ _ (by omega)]
      show _ = some (Value.int .i64 ((((S m).tx ++ t).size : Nat) : Int))
      rw [ByteArray.size_append]
    · rw [Pp.put_ne _ _ _ _ c, ne _ (by omega), out _ (by omega)]; exact h.many m hm
  · rw [ne _ (by omega), out _ (by omega), h.reads m hm]
    by_cases c : m = n
    · subst c; rw [Pp.put_same]
    · rw [Pp.put_ne _ _ _ _ c]
  · rw [ne _ (by omega), out _ (by omega), h.writes m hm]
    by_cases c : m = n
    · subst c; rw [Pp.put_same]
    · rw [Pp.put_ne _ _ _ _ c]
  · by_cases c : m = n
    · subst c; rw [Pp.put_same]; show ((S m).tx ++ t).size ≤ 12; rw [ByteArray.size_append]; exact ht
    · rw [Pp.put_ne _ _ _ _ c]; exact h.small m hm
end
def Pp.wriE (S : Nat → Pi) (z : Int) (s : ByteArray) : Int := if Pp.opE S z true ≠ 0 then Pp.opE S z true else if (S z.toNat).reads = 0 then 12 else if s.size ≠ 0 ∧ (S z.toNat).tx.size = 12 then 13 else 0
def Pp.wriK (S : Nat → Pi) (z : Int) (s : ByteArray) : Nat := if Pp.wriE S z s = 0 then min s.size (12 - (S z.toNat).tx.size) else 0
def Pp.wriF (S : Nat → Pi) (z : Int) (s : ByteArray) : Nat → Pi := if Pp.wriE S z s = 0 then Pp.put S z.toNat { S z.toNat with tx := (S z.toNat).tx ++ s.extract 0 (Pp.wriK S z s) } else S
set_option maxRecDepth 100000 in
set_option maxHeartbeats 2000000 in
theorem pwrite_any (b : Nat) (z : Int) (s : ByteArray) (S : Nat → Pi) (w : World) (h : PAt w b S) (hs : s.size < 2 ^ 60) :
    Calls Tryz.prog 86 #[.pointer (some ⟨b, 0, none⟩), .int .i64 z, .string s] w fun e w' => e = .returned (.tuple #[.int .i64 (Pp.wriK S z s : Int), errV (Pp.wriE S z s)]) ∧ PAt w' b (Pp.wriF S z s) ∧ Frm b w w' := by
  have HF := Hid.intro h
  by_cases c : Pp.opE S z true = 0
  · obtain ⟨n, rfl, n8, _, t0⟩ := Pp.opE_ok c
    have EP : Hid (Pp.opE S (n : Int) true = 0 ∧ pptE b (n : Int) 0 = .pointer (some ⟨b, n * 15, none⟩)) := Hid.intro ⟨c, pptE_ok b n⟩
    have EW : Pp.wriE S (n : Int) s = if (S n).reads = 0 then 12 else if s.size ≠ 0 ∧ (S n).tx.size = 12 then 13 else 0 := by unfold Pp.wriE; rw [if_neg (fun d => d c), Int.toNat_natCast]
    have c1 := h.many n n8
    have c2 := h.reads n n8
    have no : ∀ E, E ≠ 0 → Pp.wriE S (n : Int) s = E → Pp.wriK S (n : Int) s = 0 ∧ Pp.wriF S (n : Int) s = S := fun E e0 e => ⟨by unfold Pp.wriK; rw [e, if_neg e0], by unfold Pp.wriF; rw [e, if_neg e0]⟩
    by_cases r0 : (S n).reads = 0
    · have e : Pp.wriE S (n : Int) s = 12 := by rw [EW, if_pos r0]
      have FIN : Hid (Pp.wriE S (n : Int) s = 12 ∧ Pp.wriK S (n : Int) s = 0 ∧ Pp.wriF S (n : Int) s = S) := Hid.intro ⟨e, no 12 (by decide) e⟩
      rw [r0] at c2
      have c2' : w.cell? ⟨b, n * 15 + 13, none⟩ = some (.int .i64 0) := c2
      clear h c EW no e c2 r0 t0 hs
      go_enter Tryz.func86, Tryz.ntmps86
      go_wp2_with fail
      refine (pop_any b n true S _ HF.out).mono ?_
      rintro e w1 ⟨rfl, hw1⟩
      subst w1
      rw [EP.out.1, EP.out.2, errV_zero]
      go_wp2_with fail
      go_ret2
      rw [FIN.out.1, FIN.out.2.1, FIN.out.2.2]
      exact ⟨rfl, HF.out, Frm.refl _ _⟩
    · have r1 : (((S n).reads : Int) == 0) = false := by simp; omega
      by_cases s0 : s.size = 0
      · obtain rfl : s = ⟨#[]⟩ := by
          apply ByteArray.ext
          exact Array.eq_empty_of_size_eq_zero s0
        have e : Pp.wriE S (n : Int) ⟨#[]⟩ = 0 := by rw [EW, if_neg r0, if_neg (fun d => d.1 s0)]
        have FIN : Hid (Pp.wriE S (n : Int) ⟨#[]⟩ = 0 ∧ Pp.wriK S (n : Int) ⟨#[]⟩ = 0) := Hid.intro ⟨e, by unfold Pp.wriK; rw [if_pos e, s0, Nat.zero_min]⟩
        have FI2 : Hid (PAt (w.setCell ⟨b, n * 15 + 12, none⟩ (.int .i64 ((S n).tx.size : Int))) b (Pp.wriF S (n : Int) ⟨#[]⟩)) := Hid.intro (by
          have q := h.wrote n n8 ⟨#[]⟩ (by have := h.small n n8; rw [s0]; omega)
          unfold Pp.wriF
          rw [if_pos e, Int.toNat_natCast, FIN.out.2]
          exact q)
        have sm := h.small n n8
        generalize (S n).reads = rr at *
        generalize (S n).tx.size = mm at *
        have z12 : mm ≤ 12 := sm
        have cf := h.drew.frozen
        have ad0 : IntKind.i64.wrap (mm : Int) = (mm : Int) := IntWalk.i64_in _ ⟨by omega, by omega⟩
        have z12I : (mm : Int) ≤ 12 := by omega
        clear h c EW no e r0 t0 hs s0 sm
        have EMP := Hid.intro Pp.run_copy_emp
        go_enter Tryz.func86, Tryz.ntmps86
        go_wp2_with fail
        refine (pop_any b n true S _ HF.out).mono ?_
        rintro e w1 ⟨rfl, hw1⟩
        subst w1
        rw [EP.out.1, EP.out.2, errV_zero]
        go_upto_region 8 with fail
        go_region_law (refine Pp.step_copy rfl _ _ 220 9 rfl (.slice (some (if 12 = mm then ⟨b, n * 15, none⟩ else ⟨b, n * 15 + mm, none⟩)) (12 - mm) (12 - mm)) (.string ⟨#[]⟩) _ _ (by simp [Act.eval, Act.put]) (by simp [Act.eval, Act.put]) (EMP.out _ _ _ _ _) ?_)
        generalize (if 12 = mm then (⟨b, n * 15, none⟩ : Addr) else ⟨b, n * 15 + mm, none⟩) = ad
        go_wp2_with fail
        go_ret2
        rw [FIN.out.1, FIN.out.2]
        exact ⟨rfl, FI2.out.drew, ((Frm.refl b w).setCell _ _).drew⟩
      · have sl : (s.toList == []) = false := by
          rw [beq_eq_false_iff_ne]
          intro e
          rw [ByteArray.toList_eq] at e
          apply s0
          show s.data.size = 0
          rw [← Array.length_toList, e]
          rfl
        by_cases m12 : (S n).tx.size = 12
        · have e : Pp.wriE S (n : Int) s = 13 := by rw [EW, if_neg r0, if_pos ⟨s0, m12⟩]
          have FIN : Hid (Pp.wriE S (n : Int) s = 13 ∧ Pp.wriK S (n : Int) s = 0 ∧ Pp.wriF S (n : Int) s = S) := Hid.intro ⟨e, no 13 (by decide) e⟩
          rw [m12] at c1
          have c1' : w.cell? ⟨b, n * 15 + 12, none⟩ = some (.int .i64 12) := c1
          generalize (S n).reads = rr at *
          clear h c EW no e c1 r0 t0 hs m12 s0
          go_enter Tryz.func86, Tryz.ntmps86
          go_wp2_with fail
          refine (pop_any b n true S _ HF.out).mono ?_
          rintro e w1 ⟨rfl, hw1⟩
          subst w1
          rw [EP.out.1, EP.out.2, errV_zero]
          go_wp2_with fail
          go_ret2
          rw [FIN.out.1, FIN.out.2.1, FIN.out.2.2]
          exact ⟨rfl, HF.out, Frm.refl _ _⟩
        · have e : Pp.wriE S (n : Int) s = 0 := by rw [EW, if_neg r0, if_neg (fun d => m12 d.2)]
          have sm := h.small n n8
          obtain ⟨k, hk⟩ : ∃ k, min s.size (12 - (S n).tx.size) = k := ⟨_, rfl⟩
          have eK : Pp.wriK S (n : Int) s = k := by unfold Pp.wriK; rw [if_pos e, Int.toNat_natCast, hk]
          have FIN : Hid (Pp.wriE S (n : Int) s = 0 ∧ Pp.wriK S (n : Int) s = k) := Hid.intro ⟨e, eK⟩
          have MID : Hid (∀ V, PAt V b S → Frm b w V → (V.setCells b (n * 15 + (S n).tx.size) (Pp.byL (s.extract 0 k))).cell? ⟨b, n * 15 + 12, none⟩ = some (.int .i64 ((S n).tx.size : Int)) ∧ (∀ o, (V.setCells b (n * 15 + (S n).tx.size) (Pp.byL (s.extract 0 k))).frozen? ⟨b, o, none⟩ = false)
              ∧ PAt ((V.setCells b (n * 15 + (S n).tx.size) (Pp.byL (s.extract 0 k))).setCell ⟨b, n * 15 + 12, none⟩ (.int .i64 (((S n).tx.size + k : Nat) : Int))) b (Pp.wriF S (n : Int) s) ∧ Frm b w (V.setCells b (n * 15 + (S n).tx.size) (Pp.byL (s.extract 0 k)))) := Hid.intro (fun V hV fV => by
            have z : (s.extract 0 k).size = k := by rw [ByteArray.size_extract]; omega
            have q := hV.wrote n n8 (s.extract 0 k) (by rw [z]; omega)
            rw [z] at q
            obtain ⟨C, T, h1, _⟩ := hV.blk
            obtain ⟨C', k1, _⟩ := Pp.blk_setCells b (Pp.byL (s.extract 0 k)) (n * 15 + (S n).tx.size) V C h1
            refine ⟨?_, fun o => frozen_blk k1 o, ?_, Pp.frm_setCells _ _ fV⟩
            · rw [World.cell?_setCells_out b _ _ V ⟨b, n * 15 + 12, none⟩ (fun _ _ => by rw [Pp.byL_len, z]; show n * 15 + 12 < _ ∨ _ ≤ n * 15 + 12; omega)]
              exact hV.many n n8
            · unfold Pp.wriF
              rw [if_pos e, Int.toNat_natCast, eK]
              exact q)
          have CP : Hid (∀ V ty, PAt V b S → (Builtin.copy_ #[220, 9] ty #[.slice (some ⟨b, n * 15 + (S n).tx.size, none⟩) (12 - (S n).tx.size) (12 - (S n).tx.size), .string s]).run Tryz.prog V = .ok (goInt (k : Int)) (V.setCells b (n * 15 + (S n).tx.size) (Pp.byL (s.extract 0 k)))) := Hid.intro (fun V ty hV => by
            have := Pp.run_copy_part (P := Tryz.prog) V 220 9 ty 5 b (n * 15 + (S n).tx.size) (12 - (S n).tx.size) (12 - (S n).tx.size) s (by kernel_rfl) (fun w => by rfl) (fun j hj => hV.isS _ (by omega)) (fun j _ => hV.frozen _)
            rw [hk] at this
            exact this)
          generalize (S n).reads = rr at *
          generalize (S n).tx.size = mm at *
          have mlt : mm < 12 := by omega
          have mltI : (mm : Int) < 12 := by omega
          have mleI : (mm : Int) ≤ 12 := by omega
          have mn0 : ¬ 12 = mm := by omega
          have mn0' : ¬ mm = 12 := by omega
          have mn1 : ¬ 12 - mm = 0 := by omega
          have mn2 : ¬ (mm : Int) = 12 := by omega
          have mn3 : ((mm : Int) == 12) = false := by simp; omega
          have ad : IntKind.i64.wrap ((mm : Int) + (k : Int)) = ((mm + k : Nat) : Int) := (IntWalk.i64_in _ ⟨by omega, by omega⟩).trans (by omega)
          generalize Pp.byL (s.extract 0 k) = L at *
          clear h c EW no e eK r0 t0 hs m12 s0 sm hk
          go_enter Tryz.func86, Tryz.ntmps86
          go_wp2_with fail
          refine (pop_any b n true S _ HF.out).mono ?_
          rintro e w1 ⟨rfl, hw1⟩
          subst w1
          rw [EP.out.1, EP.out.2, errV_zero]
          go_upto_region 8 with fail
          go_region_law (refine Pp.step_copy rfl _ _ 220 9 rfl (.slice (some ⟨b, n * 15 + mm, none⟩) (12 - mm) (12 - mm)) (.string s) _ _ (by simp [Act.eval, Act.put]) (by simp [Act.eval, Act.put]) (CP.out _ _ HF.out.drew) ?_)
          have M := MID.out _ HF.out.drew (Frm.refl b w).drew
          generalize w.drew.setCells b (n * 15 + mm) L = W at M ⊢
          obtain ⟨d1, d2, d3, d4⟩ := M
          have FI3 := Hid.intro d3
          have FI4 := Hid.intro d4
          clear d3 d4 MID CP c1 c2
          go_wp2_with fail
          go_ret2
          rw [FIN.out.1, FIN.out.2]
          exact ⟨rfl, FI3.out, FI4.out.setCell _ _⟩
  · have E2 : Hid (pptE b z (Pp.opE S z true) = .pointer none ∧ errV (Pp.opE S z true) = .iface 60 (.int .i64 (Pp.opE S z true)) ∧ Pp.wriE S z s = Pp.opE S z true ∧ Pp.wriK S z s = 0 ∧ Pp.wriF S z s = S) := Hid.intro (by
      have e : Pp.wriE S z s = Pp.opE S z true := if_pos c
      exact ⟨pptE_no c, errV_ne c, e, by unfold Pp.wriK; rw [e, if_neg c], by unfold Pp.wriF; rw [e, if_neg c]⟩)
    clear h c hs
    go_enter Tryz.func86, Tryz.ntmps86
    go_wp2_with fail
    refine (pop_any b z true S _ HF.out).mono ?_
    rintro e w1 ⟨rfl, hw1⟩
    subst w1
    rw [E2.out.1, E2.out.2.1]
    go_wp2_with fail
    go_ret2
    rw [E2.out.2.2.1, E2.out.2.2.2.1, E2.out.2.2.2.2, E2.out.2.1]
    exact ⟨rfl, HF.out, Frm.refl _ _⟩
end Go.Proofs.YtghogbngmcolmaaGreat
namespace Go.Proofs.YtghogbngmcolmaaGreat
open Go.RowKit
namespace Fx
structure Fi where
  kind : Nat
  num : Nat
  wr : Bool
  pos : Nat
  refs : Nat
def Fi.no : Fi := ⟨0, 0, false, 0, 0⟩
def put (T : Nat → Fi) (n : Nat) (x : Fi) : Nat → Fi := fun m => if m = n then x else T m
theorem put_same (T : Nat → Fi) (n : Nat) (x : Fi) : put T n x n = x := if_pos rfl
theorem put_ne (T : Nat → Fi) (n : Nat) (x : Fi) (m : Nat) (h : m ≠ n) : put T n x m = T m := if_neg h
theorem put_put (T : Nat → Fi) (n : Nat) (x y : Fi) : put (put T n x) n y = put T n y := by
  funext m
  unfold put
  split <;> rfl
def cel (x : Fi) : Nat → Value
  | 0 => .int .i64 (x.kind : Int)
  | 1 => .int .i64 (x.num : Int)
  | 2 => .bool x.wr
  | 3 => .int .i64 (x.pos : Int)
  | _ => .int .i64 (x.refs : Int)
def arr (x : Fi) : Array Value := #[.int .i64 (x.kind : Int), .int .i64 (x.num : Int), .bool x.wr, .int .i64 (x.pos : Int), .int .i64 (x.refs : Int)]
def filE (T : Nat → Fi) (z : Int) : Int := if z < 0 ∨ 23 < z then 1 else if (T z.toNat).refs = 0 then 2 else 0
theorem filE_ok {T : Nat → Fi} {z : Int} (h : filE T z = 0) : ∃ n : Nat, z = n ∧ n < 24 ∧ (T n).refs ≠ 0 := by
  unfold filE at h
  by_cases c : z < 0 ∨ 23 < z
  · rw [if_pos c] at h; omega
  · rw [if_neg c] at h
    refine ⟨z.toNat, by omega, by omega, fun d => ?_⟩
    rw [if_pos d] at h
    omega
def cnt (T : Nat → Fi) : Nat → Nat
  | 0 => 0
  | n + 1 => cnt T n + if (T n).refs = 0 then 0 else 1
theorem cnt_le (T : Nat → Fi) : ∀ n, cnt T n ≤ n
  | 0 => Nat.le_refl 0
  | n + 1 => by
    have := cnt_le T n
    unfold cnt
    split <;> omega
theorem cnt_free (T : Nat → Fi) : ∀ n, cnt T n < n → ∃ m, m < n ∧ (T m).refs = 0 ∧ ∀ k, k < m → (T k).refs ≠ 0
  | 0, h => absurd h (Nat.not_lt_zero _)
  | n + 1, h => by
    by_cases c : cnt T n < n
    · obtain ⟨m, h1, h2, h3⟩ := cnt_free T n c
      exact ⟨m, by omega, h2, h3⟩
    · have hl := cnt_le T n
      unfold cnt at h
      by_cases d : (T n).refs = 0
      · refine ⟨n, by omega, d, fun k hk e => ?_⟩
        have : ∀ n, cnt T n = n → ∀ k, k < n → (T k).refs ≠ 0 := by
          intro n
          induction n with
          | zero => intro _ k hk; omega
          | succ n ih =>
            intro hc k hk e
            have hl := cnt_le T n
            unfold cnt at hc
            by_cases g : (T n).refs = 0
            · rw [if_pos g] at hc; omega
            · by_cases j : k = n
              · subst j; exact g e
              · exact ih (by rw [if_neg g] at hc; omega) k (by omega) e
        exact this n (by omega) k hk e
      · rw [if_neg d] at h; omega
def Low (T : Nat → Fi) (n : Nat) : Prop := n < 24 ∧ (T n).refs = 0 ∧ ∀ k, k < n → (T k).refs ≠ 0
theorem Low.unique {T : Nat → Fi} {n m : Nat} (h : Low T n) (k : Low T m) : n = m := by
  rcases Nat.lt_trichotomy n m with c | c | c
  · exact absurd h.2.1 (k.2.2 n c)
  · exact c
  · exact absurd k.2.1 (h.2.2 m c)
theorem low_of {T : Nat → Fi} (h : cnt T 24 < 24) : ∃ n, Low T n := by
  obtain ⟨m, h1, h2, h3⟩ := cnt_free T 24 h
  exact ⟨m, h1, h2, h3⟩
end Fx
open Fx (Fi)
structure XAt (w : World) (t b p : Nat) (T : Nat → Fi) : Prop where
  blk : ∃ C Ty, w.heap[t]? = some (.cells C Ty (0, 0)) ∧ C.size = 122
  fo : w.cell? ⟨t, 0, none⟩ = some (.pointer (some ⟨b, 0, none⟩))
  pi : w.cell? ⟨t, 1, none⟩ = some (.pointer (some ⟨p, 0, none⟩))
  cell : ∀ n, n < 24 → ∀ i, i < 5 → w.cell? ⟨t, 2 + n * 5 + i, none⟩ = some (Fx.cel (T n) i)
section
variable {w w' : World} {t b p : Nat} {T : Nat → Fi}
theorem XAt.lt (h : XAt w t b p T) : t < w.heap.size := by
  obtain ⟨C, Ty, e, _⟩ := h.blk
  exact (Array.getElem?_eq_some_iff.1 e).1
theorem XAt.frozen (h : XAt w t b p T) (o : Nat) : w.frozen? ⟨t, o, none⟩ = false := by
  obtain ⟨C, Ty, e, _⟩ := h.blk
  exact frozen_blk e o
theorem XAt.same (h : XAt w t b p T) (e : w'.heap[t]? = w.heap[t]?) : XAt w' t b p T := by
  have hc : ∀ o, w'.cell? ⟨t, o, none⟩ = w.cell? ⟨t, o, none⟩ := fun o => World.cell?_of_block e
  exact ⟨by rw [e]; exact h.blk, (hc _).trans h.fo, (hc _).trans h.pi, fun n hn i hi => (hc _).trans (h.cell n hn i hi)⟩
theorem XAt.drew (h : XAt w t b p T) : XAt w.drew t b p T := h.same rfl
theorem XAt.below {B : Nat} (h : XAt w t b p T) (k : Below B w w') (hb : t < B) : XAt w' t b p T := h.same (k.block t hb)
theorem XAt.frm {c : Nat} (h : XAt w t b p T) (k : Frm c w w') (hb : t ≠ c) : XAt w' t b p T := h.same (k.block t h.lt hb)
theorem XAt.kind (h : XAt w t b p T) (n : Nat) (hn : n < 24) : w.cell? ⟨t, 2 + n * 5, none⟩ = some (.int .i64 ((T n).kind : Int)) := h.cell n hn 0 (by omega)
theorem XAt.num (h : XAt w t b p T) (n : Nat) (hn : n < 24) : w.cell? ⟨t, 2 + n * 5 + 1, none⟩ = some (.int .i64 ((T n).num : Int)) := h.cell n hn 1 (by omega)
theorem XAt.wr (h : XAt w t b p T) (n : Nat) (hn : n < 24) : w.cell? ⟨t, 2 + n * 5 + 2, none⟩ = some (.bool (T n).wr) := h.cell n hn 2 (by omega)
theorem XAt.pos (h : XAt w t b p T) (n : Nat) (hn : n < 24) : w.cell? ⟨t, 2 + n * 5 + 3, none⟩ = some (.int .i64 ((T n).pos : Int)) := h.cell n hn 3 (by omega)
theorem XAt.refs (h : XAt w t b p T) (n : Nat) (hn : n < 24) : w.cell? ⟨t, 2 + n * 5 + 4, none⟩ = some (.int .i64 ((T n).refs : Int)) := h.cell n hn 4 (by omega)
theorem XAt.set (h : XAt w t b p T) (n : Nat) (hn : n < 24) (i : Nat) (hi : i < 5) (x : Fi) (hx : ∀ j, j < 5 → j ≠ i → Fx.cel x j = Fx.cel (T n) j) : XAt (w.setCell ⟨t, 2 + n * 5 + i, none⟩ (Fx.cel x i)) t b p (Fx.put T n x) := by
  obtain ⟨C, Ty, h1, h2⟩ := h.blk
  have ne : ∀ o, o ≠ 2 + n * 5 + i → (w.setCell ⟨t, 2 + n * 5 + i, none⟩ (Fx.cel x i)).cell? ⟨t, o, none⟩ = w.cell? ⟨t, o, none⟩ := fun o ho => cell_set_ne h1 _ _ _ (Ne.symm ho)
  refine ⟨⟨_, Ty, blk_set h1 _ _, by simpa using h2⟩, (ne _ (by omega)).trans h.fo, (ne _ (by omega)).trans h.pi, fun m hm j hj => ?_⟩
  by_cases c : m = n
  · subst c
    rw [Fx.put_same]
    by_cases d : j = i
    · subst d; exact cell_set_same h1 _ _ (by omega)
    · rw [ne _ (by omega), hx j hj d]; exact h.cell m hm j hj
  · rw [Fx.put_ne _ _ _ _ c, ne _ (by omega)]; exact h.cell m hm j hj
theorem XAt.setRefs (h : XAt w t b p T) (n : Nat) (hn : n < 24) (k : Nat) : XAt (w.setCell ⟨t, 2 + n * 5 + 4, none⟩ (.int .i64 (k : Int))) t b p (Fx.put T n { T n with refs := k }) :=
  h.set n hn 4 (by omega) { T n with refs := k } (fun j hj d => by
    match j, hj, d with
    | 0, _, _ => rfl
    | 1, _, _ => rfl
    | 2, _, _ => rfl
    | 3, _, _ => rfl
    | 4, _, d => exact absurd rfl d)
theorem XAt.setPos (h : XAt w t b p T) (n : Nat) (hn : n < 24) (k : Nat) : XAt (w.setCell ⟨t, 2 + n * 5 + 3, none⟩ (.int .i64 (k : Int))) t b p (Fx.put T n { T n with pos := k }) :=
  h.set n hn 3 (by omega) { T n with pos := k } (fun j hj d => by
    match j, hj, d with
    | 0, _, _ => rfl
    | 1, _, _ => rfl
    | 2, _, _ => rfl
    | 3, _, d => exact absurd rfl d
    | 4, _, _ => rfl)
theorem XAt.setAll (h : XAt w t b p T) (n : Nat) (hn : n < 24) (x : Fi) : XAt (w.setCells t (2 + n * 5) (Fx.arr x).toList) t b p (Fx.put T n x) := by
  obtain ⟨C, Ty, h1, h2⟩ := h.blk
  obtain ⟨C', k1, k2⟩ := Pp.blk_setCells t (Fx.arr x).toList (2 + n * 5) w C h1
  have out : ∀ o, o < 2 + n * 5 ∨ 2 + n * 5 + 5 ≤ o → (w.setCells t (2 + n * 5) (Fx.arr x).toList).cell? ⟨t, o, none⟩ = w.cell? ⟨t, o, none⟩ := fun o ho => World.cell?_setCells_out t _ _ w ⟨t, o, none⟩ (fun _ _ => by show o < _ ∨ _ ≤ o; exact ho)
  refine ⟨⟨C', Ty, k1, by omega⟩, (out _ (by omega)).trans h.fo, (out _ (by omega)).trans h.pi, fun m hm j hj => ?_⟩
  by_cases c : m = n
  · subst c
    rw [Fx.put_same, World.cell?_setCells_in t (Fx.arr x).toList (2 + m * 5) w (fun i hi => by have : i < 5 := hi; rw [h.cell m hm i this]; rfl) j hj]
    match j, hj with
    | 0, _ => rfl
    | 1, _ => rfl
    | 2, _ => rfl
    | 3, _ => rfl
    | 4, _ => rfl
  · rw [Fx.put_ne _ _ _ _ c, out _ (by omega)]; exact h.cell m hm j hj
end
def fptE (t : Nat) (z E : Int) : Value := if E = 0 then .pointer (some ⟨t, 2 + z.toNat * 5, none⟩) else .pointer none
theorem fptE_ok (t n : Nat) : fptE t (n : Int) 0 = .pointer (some ⟨t, 2 + n * 5, none⟩) := by unfold fptE; rw [if_pos rfl, Int.toNat_natCast]
theorem fptE_no {t : Nat} {z E : Int} (h : E ≠ 0) : fptE t z E = .pointer none := if_neg h
set_option maxRecDepth 100000 in
set_option maxHeartbeats 400000 in
theorem xfile_any (t b p : Nat) (z : Int) (T : Nat → Fi) (w : World) (h : XAt w t b p T) :
    Calls Tryz.prog 85 #[.pointer (some ⟨t, 0, none⟩), .int .i64 z] w fun e w' => e = .returned (.tuple #[fptE t z (Fx.filE T z), errV (Fx.filE T z)]) ∧ w' = w := by
  by_cases c : z < 0 ∨ 23 < z
  · have E : Hid (Fx.filE T z = 1) := Hid.intro (if_pos c)
    have E2 : Hid (fptE t z 1 = .pointer none) := Hid.intro (fptE_no (by decide))
    by_cases c1 : z < 0
    · clear c h
      go_enter Tryz.func85, Tryz.ntmps85
      go_wp2_with fail
      go_ret2
      rw [E.out, E2.out]
      exact ⟨rfl, rfl⟩
    · have c2 : 24 ≤ z := by omega
      clear c h
      go_enter Tryz.func85, Tryz.ntmps85
      go_wp2_with fail
      go_ret2
      rw [E.out, E2.out]
      exact ⟨rfl, rfl⟩
  · obtain ⟨n, rfl⟩ : ∃ n : Nat, z = n := ⟨z.toNat, by omega⟩
    have n24 : n < 24 := by omega
    have n24i : (n : Int) < 24 := by omega
    have E : Fx.filE T (n : Int) = if (T n).refs = 0 then 2 else 0 := by unfold Fx.filE; rw [if_neg c, Int.toNat_natCast]
    have c4 := h.refs n n24
    by_cases d : (T n).refs = 0
    · have E1 : Hid (Fx.filE T (n : Int) = 2 ∧ fptE t (n : Int) 2 = .pointer none) := Hid.intro ⟨by rw [E, if_pos d], fptE_no (by decide)⟩
      rw [d] at c4
      have c4' : w.cell? ⟨t, 2 + n * 5 + 4, none⟩ = some (.int .i64 0) := c4
      clear c h d E c4
      go_enter Tryz.func85, Tryz.ntmps85
      go_wp2_with fail
      go_ret2
      rw [E1.out.1, E1.out.2]
      exact ⟨rfl, rfl⟩
    · have E1 : Hid (Fx.filE T (n : Int) = 0 ∧ fptE t (n : Int) 0 = .pointer (some ⟨t, 2 + n * 5, none⟩)) := Hid.intro ⟨by rw [E, if_neg d], fptE_ok t n⟩
      generalize (T n).refs = rr at *
      have d1 : ((rr : Int) == 0) = false := by simp; omega
      clear c h d E
      go_enter Tryz.func85, Tryz.ntmps85
      go_wp2_with fail
      go_ret2
      rw [E1.out.1, E1.out.2]
      exact ⟨rfl, rfl⟩
set_option maxRecDepth 100000 in
set_option maxHeartbeats 1000000 in
theorem xopen_any (t b p : Nat) (T : Nat → Fi) (w : World) (h : XAt w t b p T) :
    Calls Tryz.prog 107 #[.pointer (some ⟨t, 0, none⟩)] w fun e w' => e = .returned (.int .i64 (Fx.cnt T 24 : Int)) ∧ w' = w := by
  have HF := Hid.intro h
  clear h
  go_enter Tryz.func107, Tryz.ntmps107
  go_wp2_with fail
  go_loopw [3, 4, 5] (fun c x i wr => ∃ (n : Nat), i = .int .i64 n ∧ c = .int .i64 (Fx.cnt T n : Int) ∧ n ≤ 24 ∧ wr = w) (fun _ _ i _ => 24 - (intOf i).toNat)
  case atStart => exact ⟨0, rfl, rfl, by omega, rfl⟩
  case round =>
    obtain ⟨n, rfl, rfl, hn, hwr⟩ := hrel
    subst wr
    by_cases hlt : n < 24
    · have hltI : (n : Int) < 24 := by omega
      have lc := Fx.cnt_le T n
      have LS : Fx.cnt T (n + 1) = Fx.cnt T n + if (T n).refs = 0 then 0 else 1 := rfl
      have c4 := HF.out.refs n hlt
      generalize Fx.cnt T n = cn at *
      by_cases d : (T n).refs = 0
      · rw [if_pos d] at LS
        have LL := Hid.intro LS
        have d1 : ¬ (0 : Int) < ((T n).refs : Int) := by omega
        generalize (T n).refs = rr at *
        clear d LS
        go_wp2_with fail
        go_roundw
        case rel => exact ⟨n + 1, by go_num, by rw [LL.out]; rfl, by omega, by first | rfl | trivial⟩
        case measure => simp [intOf]; omega
      · rw [if_neg d] at LS
        have LL := Hid.intro LS
        have d1 : (0 : Int) < ((T n).refs : Int) := by omega
        generalize (T n).refs = rr at *
        clear d LS
        go_wp2_with fail
        go_roundw
        case rel => exact ⟨n + 1, by go_num, by rw [LL.out]; go_num, by omega, by first | rfl | trivial⟩
        case measure => simp [intOf]; omega
    · have hltI : ¬ (n : Int) < 24 := by omega
      obtain rfl : n = 24 := by omega
      go_wp2_with fail
      go_ret
      exact ⟨rfl, rfl⟩
set_option maxRecDepth 100000 in
set_option maxHeartbeats 400000 in
theorem xroom_any (t b p : Nat) (m : Int) (T : Nat → Fi) (w : World) (h : XAt w t b p T) :
    Calls Tryz.prog 62 #[.pointer (some ⟨t, 0, none⟩), .int .i64 m] w fun e w' => e = .returned (.bool (decide (m ≤ 24 - (Fx.cnt T 24 : Int)))) ∧ w' = w := by
  have HF := Hid.intro h
  have lc := Fx.cnt_le T 24
  have hw : IntKind.i64.wrap (24 - (Fx.cnt T 24 : Int)) = 24 - (Fx.cnt T 24 : Int) := IntWalk.i64_in _ ⟨by omega, by omega⟩
  clear h
  go_enter Tryz.func62, Tryz.ntmps62
  go_wp2_with fail
  refine (xopen_any t b p T _ HF.out).mono ?_
  rintro e w1 ⟨rfl, hw1⟩
  subst w1
  go_wp2_with fail
  go_ret
  exact ⟨rfl, rfl⟩
end Go.Proofs.YtghogbngmcolmaaGreat

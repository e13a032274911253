/- The document's own blocks in memory: NewBlocks, size, Is, Free, Left. -/
import Derived.Test.YtnppahmlifnnnabBa
import Derived.Test.YtnppahmlifnnnabXb
namespace Go.Proofs.Ytnppahmlifnnnab
open Go.RowKit
open Bd (P)

def cellK (p : P) (o : Nat) : Value := if o < 64 then .int .i64 (p.ord o : Int) else .bool (p.tk (o - 64))
/-- The blocks p lie in block b. -/
structure KAt (w : World) (b : Nat) (p : P) : Prop where
  blk : ∃ C, w.heap[b]? = some (.cells C 125 (0, 0)) ∧ C.size = 128
  cell : ∀ o, o < 128 → w.cell? ⟨b, o, none⟩ = some (cellK p o)
section
variable {w w' : World} {b : Nat} {p p' : P}
theorem KAt.drewN (h : KAt w b p) (n : Nat) : KAt (w.drewN n) b p := ⟨h.blk, h.cell⟩
theorem KAt.drew (h : KAt w b p) : KAt w.drew b p := ⟨h.blk, h.cell⟩
theorem KAt.frozen (h : KAt w b p) (o : Nat) : w.frozen? ⟨b, o, none⟩ = false := by obtain ⟨C, h1, _⟩ := h.blk; exact frozen_blk h1 o
theorem KAt.lt (h : KAt w b p) : b < w.heap.size := by obtain ⟨C, h1, _⟩ := h.blk; exact (Array.getElem?_eq_some_iff.1 h1).1
theorem KAt.same (h : KAt w b p) (e : w'.heap[b]? = w.heap[b]?) : KAt w' b p := ⟨by rw [e]; exact h.blk, fun o ho => (World.cell?_of_block e).trans (h.cell o ho)⟩
theorem KAt.below (h : KAt w b p) (k : Below w.heap.size w w') : KAt w' b p := h.same (k.block b h.lt)
theorem KAt.cOrd (h : KAt w b p) (i : Nat) (hi : i < 64) : w.cell? ⟨b, i, none⟩ = some (.int .i64 (p.ord i : Int)) := by rw [h.cell _ (by omega), cellK, if_pos hi]
theorem KAt.cTk (h : KAt w b p) (i : Nat) (hi : i < 64) : w.cell? ⟨b, 64 + i, none⟩ = some (.bool (p.tk i)) := by rw [h.cell _ (by omega), cellK, if_neg (by omega), show 64 + i - 64 = i by omega]
theorem KAt.set (h : KAt w b p) (o : Nat) (ho : o < 128) (v : Value) (hv : ∀ i, i < 128 → cellK p' i = if i = o then v else cellK p i) : KAt (w.setCell ⟨b, o, none⟩ v) b p' := by
  obtain ⟨C, h1, h2⟩ := h.blk
  refine ⟨⟨_, blk_set h1 _ v, by simpa using h2⟩, fun i hi => ?_⟩
  rw [hv i hi]
  by_cases e : i = o
  · subst e; rw [cell_set_same h1 _ v (by omega), if_pos rfl]
  · rw [cell_set_ne h1 _ _ v (Ne.symm e), if_neg e]; exact h.cell i hi
theorem KAt.setOrd (h : KAt w b p) (i v : Nat) (hi : i < 64) : KAt (w.setCell ⟨b, i, none⟩ (.int .i64 (v : Int))) b { p with ord := Bd.up p.ord i v } := by
  refine h.set i (by omega) _ (fun x hx => ?_)
  unfold cellK Bd.up
  by_cases c : x < 64
  · by_cases e : x = i
    · simp [e, hi]
    · simp [c, e]
  · simp [c, show x ≠ i by omega]
theorem KAt.setTk (h : KAt w b p) (i : Nat) (v : Bool) (hi : i < 64) : KAt (w.setCell ⟨b, 64 + i, none⟩ (.bool v)) b { p with tk := Bd.upb p.tk i v } := by
  refine h.set (64 + i) (by omega) _ (fun x hx => ?_)
  unfold cellK Bd.upb
  by_cases c : x < 64
  · simp [c, show x ≠ 64 + i by omega]
  · by_cases e : x = 64 + i
    · simp [e]
    · simp [c, e, show x - 64 ≠ i by omega]
end
def kzA : Array Value := ((List.range 128).map fun i => if i < 64 then Value.int .i64 0 else .bool false).toArray
theorem kz_eq : Try.zeroCells125 = kzA := by kernel_rfl
theorem kz_at (i : Nat) (h : i < 128) : kzA[i]? = some (if i < 64 then Value.int .i64 0 else .bool false) := by simp [kzA, h]
def pz : P := ⟨fun _ => 0, fun _ => false⟩
theorem k_zero {w : World} {b : Nat} (h : w.heap[b]? = some (.cells kzA 125 (0, 0))) : KAt w b pz := by
  refine ⟨⟨_, h, by simp [kzA]⟩, fun o ho => ?_⟩
  rw [cell_blk h, kz_at o ho]
  unfold cellK
  split <;> rfl
theorem p0_eq : ({ pz with ord := Bd.up pz.ord 0 7 } : P) = Bd.b0 := rfl

set_option maxRecDepth 100000 in
set_option maxHeartbeats 1000000 in
theorem newBlocks_any (w : World) : Calls Try.prog 60 #[] w fun e w' => e = .returned (.pointer (some ⟨w.heap.size, 0, none⟩)) ∧ KAt w' w.heap.size Bd.b0 ∧ Below w.heap.size w w' ∧ w.heap.size < w'.heap.size := by
  have Z : (w.alloc (.cells Try.zeroCells125 125)).heap[w.heap.size]? = some (.cells kzA 125 (0, 0)) := by
    rw [kz_eq]; exact heap_alloc_new w _
  have Z2 : (w.alloc (.cells (Try.zeroCells125.setIfInBounds 0 (Value.int IntKind.i64 7)) 125)).heap[w.heap.size]? = some (.cells (kzA.setIfInBounds 0 (Value.int IntKind.i64 7)) 125 (0, 0)) := by
    rw [kz_eq]; exact heap_alloc_new w _
  have FIN : Hid (KAt (w.alloc (.cells (Try.zeroCells125.setIfInBounds 0 (Value.int IntKind.i64 7)) 125)) w.heap.size Bd.b0) := Hid.intro (by
    have h := (k_zero Z).setOrd 0 7 (by omega)
    rw [p0_eq] at h
    refine h.same ?_
    rw [Z2]; exact (blk_set Z 0 _).symm)
  clear Z Z2
  go_enter Try.func60, Try.ntmps60
  go_wp2_with fail
  go_ret
  exact ⟨rfl, FIN.out, (Below.refl _ _).alloc (Nat.le_refl _) _, by simp⟩

theorem sz_le {k : Nat} (h : k ≤ 7) : Bd.sz k ≤ 64 := by
  unfold Bd.sz
  exact Nat.le_trans (Nat.pow_le_pow_right (by omega) (show k - 1 ≤ 6 by omega)) (by decide)
theorem sz_down {k : Nat} (h : 2 ≤ k) : Bd.sz k = 2 * Bd.sz (k - 1) := by
  have := Bd.sz_succ (k := k - 1) (by omega)
  rw [show k - 1 + 1 = k by omega] at this; exact this
set_option maxRecDepth 100000 in
set_option maxHeartbeats 400000 in
theorem size_any (k : Nat) (hk : k ≤ 7) (w : World) : Calls Try.prog 66 #[.int .i64 k] w fun e w' => e = .returned (.int .i64 (Bd.sz k : Int)) ∧ w' = w := by
  go_enter Try.func66, Try.ntmps66
  go_wp2_with fail
  go_loopw [0, 3] (fun i s wr => ∃ (j n : Nat), i = .int .i64 j ∧ s = .int .i64 n ∧ wr = w ∧ j ≤ 7 ∧ Hid (n * Bd.sz j = Bd.sz k)) (fun i _ _ => (intOf i).toNat)
  case atStart => exact ⟨k, 1, rfl, rfl, rfl, hk, by unfold Hid; omega⟩
  case round =>
    obtain ⟨j, n, rfl, rfl, hw, hj, HN⟩ := hrel
    subst wr
    by_cases h1 : 1 < j
    · have h1I : (1 : Int) < (j : Int) := by omega
      have hb : n * 2 ≤ 64 := by
        have a := HN.out
        have b := sz_le hk
        have c := sz_down (k := j) (by omega)
        have d := Bd.sz_pos (j - 1)
        rw [c] at a
        have : n * 2 * 1 ≤ n * 2 * Bd.sz (j - 1) := Nat.mul_le_mul_left _ d
        rw [Nat.mul_assoc] at this
        have e2 : n * 2 * Bd.sz (j - 1) = n * (2 * Bd.sz (j - 1)) := Nat.mul_assoc _ _ _
        omega
      have hj1 : IntKind.i64.wrap ((j : Int) - 1) = (j : Int) - 1 := IntWalk.i64_in _ ⟨by omega, by omega⟩
      go_wp2_with fail
      go_roundw
      case rel => exact ⟨j - 1, 2 * n, by go_num, by go_num, by first | rfl | trivial, by omega, by
        have a := HN.out
        rw [sz_down (k := j) (by omega)] at a
        unfold Hid
        rw [← a, Nat.mul_comm 2 n, Nat.mul_assoc]⟩
      case measure => simp [intOf]; omega
    · have h1I : ¬ (1 : Int) < (j : Int) := by omega
      have HE : Hid (n = Bd.sz k) := Hid.intro (by
        have a := HN.out
        have : Bd.sz j = 1 := by unfold Bd.sz; rw [show j - 1 = 0 by omega]
        rw [this] at a; omega)
      go_wp2_with fail
      go_ret
      rw [← HE.out]; exact ⟨rfl, rfl⟩
set_option maxRecDepth 100000 in
set_option maxHeartbeats 400000 in
theorem kis_any (b : Nat) (z : Int) (p : P) (w : World) (h : KAt w b p) : Calls Try.prog 169 #[.pointer (some ⟨b, 0, none⟩), .int .i64 z] w fun e w' => e = .returned (.int .i64 (Bd.giveE p z)) ∧ w' = w := by
  by_cases k : z < 0 ∨ 63 < z
  · have e : Hid (Bd.giveE p z = 1) := Hid.intro (if_pos k)
    by_cases h0 : z < 0
    · clear k
      go_enter Try.func169, Try.ntmps169
      go_wp2
      go_ret
      rw [e.out]; exact ⟨rfl, rfl⟩
    · have h1 : decide (z < 0) = false := by simp; omega
      have h2 : 63 < z := by omega
      clear k h0
      go_enter Try.func169, Try.ntmps169
      go_wp2
      go_ret
      rw [e.out]; exact ⟨rfl, rfl⟩
  · obtain ⟨n, rfl⟩ := Int.eq_ofNat_of_zero_le (show 0 ≤ z by omega)
    have hn : n < 64 := by omega
    have h1 : (n : Int) < 64 := by omega
    have h2 : decide (63 < (n : Int)) = false := by simp; omega
    have c0 := h.cTk n hn
    cases hh : p.tk n
    · have e : Hid (Bd.giveE p n = 2) := Hid.intro (by unfold Bd.giveE; rw [if_neg k, Int.toNat_natCast, hh]; rfl)
      rw [hh] at c0
      clear k hh h
      go_enter Try.func169, Try.ntmps169
      go_wp2
      go_ret
      rw [e.out]; exact ⟨rfl, rfl⟩
    · have e : Hid (Bd.giveE p n = 0) := Hid.intro (by unfold Bd.giveE; rw [if_neg k, Int.toNat_natCast, hh]; rfl)
      rw [hh] at c0
      clear k hh h
      go_enter Try.func169, Try.ntmps169
      go_wp2
      go_ret
      rw [e.out]; exact ⟨rfl, rfl⟩
end Go.Proofs.Ytnppahmlifnnnab

/- The code's pool in memory: New, wrongOrder, size, half, Order. -/
import Derived.Test.YtnppahmlifnnnabXe
import Derived.Test.YtnppahmlifnnnabXz
import Derived.Test.YtnppahmlifnnnabBc
import Derived.Laws.Rows
namespace Go.Proofs.Ytnppahmlifnnnab
open Go.RowKit
open Bd (P)

namespace Bd
/-- How a frame stands: 0: no block begins there; 1: a free one; 2: a taken one. -/
def st (p : P) (i : Nat) : Nat := if p.ord i = 0 then 0 else if p.tk i = true then 2 else 1
def od (p : P) (i : Nat) : Nat := p.ord i - 1
theorem st_free {p : P} {i : Nat} (h : 0 < p.ord i) (t : p.tk i = false) : st p i = 1 := by unfold st; rw [if_neg (by omega), if_neg (by rw [t]; decide)]
theorem st_taken {p : P} {i : Nat} (h : 0 < p.ord i) (t : p.tk i = true) : st p i = 2 := by unfold st; rw [if_neg (by omega), if_pos t]
theorem st_le (p : P) (i : Nat) : st p i ≤ 2 := by unfold st; split; omega; split <;> omega
theorem st_one {p : P} {i : Nat} : st p i = 1 ↔ 0 < p.ord i ∧ p.tk i = false := by
  constructor
  · intro h
    unfold st at h
    by_cases c : p.ord i = 0
    · rw [if_pos c] at h; omega
    · rw [if_neg c] at h
      cases t : p.tk i
      · exact ⟨by omega, rfl⟩
      · rw [if_pos t] at h; omega
  · rintro ⟨h1, h2⟩; exact st_free h1 h2
theorem st_two {p : P} (hI : Inv p) {i : Nat} (hi : i < 64) : st p i = 2 ↔ p.tk i = true := by
  constructor
  · intro h
    unfold st at h
    by_cases c : p.ord i = 0
    · rw [if_pos c] at h; omega
    · rw [if_neg c] at h
      cases t : p.tk i
      · rw [if_neg (by rw [t]; decide)] at h; omega
      · rfl
  · intro h; exact st_taken (hI.tk i hi h) h
end Bd

/-- A pool lies in block b: how each frame stands, and the order of the block that begins there. -/
structure CA (w : World) (b : Nat) (s d : Nat → Nat) : Prop where
  blk : ∃ C, w.heap[b]? = some (.cells C 134 (0, 0)) ∧ C.size = 128
  c0 : ∀ i, i < 64 → w.cell? ⟨b, i * 2, none⟩ = some (.int .i64 (s i : Int))
  c1 : ∀ i, i < 64 → w.cell? ⟨b, i * 2 + 1, none⟩ = some (.int .i64 (d i : Int))
def CAt (w : World) (b : Nat) (p : P) : Prop := CA w b (Bd.st p) (Bd.od p)
section
variable {w w' : World} {b : Nat} {s d s' d' : Nat → Nat}
theorem CA.drewN (h : CA w b s d) (n : Nat) : CA (w.drewN n) b s d := ⟨h.blk, h.c0, h.c1⟩
theorem CA.drew (h : CA w b s d) : CA w.drew b s d := ⟨h.blk, h.c0, h.c1⟩
theorem CA.frozen (h : CA w b s d) (o : Nat) : w.frozen? ⟨b, o, none⟩ = false := by obtain ⟨C, h1, _⟩ := h.blk; exact frozen_blk h1 o
theorem CA.lt (h : CA w b s d) : b < w.heap.size := by obtain ⟨C, h1, _⟩ := h.blk; exact (Array.getElem?_eq_some_iff.1 h1).1
theorem CA.same (h : CA w b s d) (e : w'.heap[b]? = w.heap[b]?) : CA w' b s d := ⟨by rw [e]; exact h.blk, fun o ho => (World.cell?_of_block e).trans (h.c0 o ho), fun o ho => (World.cell?_of_block e).trans (h.c1 o ho)⟩
theorem CA.below (h : CA w b s d) (k : Below w.heap.size w w') : CA w' b s d := h.same (k.block b h.lt)
theorem CA.congr (h : CA w b s d) (e : ∀ i, i < 64 → s' i = s i ∧ d' i = d i) : CA w b s' d' := ⟨h.blk, fun i hi => by rw [(e i hi).1]; exact h.c0 i hi, fun i hi => by rw [(e i hi).2]; exact h.c1 i hi⟩
theorem CA.setS (h : CA w b s d) (i v : Nat) (hi : i < 64) : CA (w.setCell ⟨b, i * 2, none⟩ (.int .i64 (v : Int))) b (Bd.up s i v) d := by
  obtain ⟨C, h1, h2⟩ := h.blk
  refine ⟨⟨_, blk_set h1 _ _, by simpa using h2⟩, fun j hj => ?_, fun j hj => ?_⟩
  · unfold Bd.up
    by_cases e : j = i
    · subst e; rw [cell_set_same h1 _ _ (by omega), if_pos rfl]
    · rw [cell_set_ne h1 _ _ _ (by omega), if_neg e]; exact h.c0 j hj
  · rw [cell_set_ne h1 _ _ _ (by omega)]; exact h.c1 j hj
theorem CA.setD (h : CA w b s d) (i v : Nat) (hi : i < 64) : CA (w.setCell ⟨b, i * 2 + 1, none⟩ (.int .i64 (v : Int))) b s (Bd.up d i v) := by
  obtain ⟨C, h1, h2⟩ := h.blk
  refine ⟨⟨_, blk_set h1 _ _, by simpa using h2⟩, fun j hj => ?_, fun j hj => ?_⟩
  · rw [cell_set_ne h1 _ _ _ (by omega)]; exact h.c0 j hj
  · unfold Bd.up
    by_cases e : j = i
    · subst e; rw [cell_set_same h1 _ _ (by omega), if_pos rfl]
    · rw [cell_set_ne h1 _ _ _ (by omega), if_neg e]; exact h.c1 j hj
end
section
variable {w w' : World} {b : Nat} {p p' : P}
theorem CAt.drewN (h : CAt w b p) (n : Nat) : CAt (w.drewN n) b p := CA.drewN h n
theorem CAt.drew (h : CAt w b p) : CAt w.drew b p := CA.drew h
theorem CAt.frozen (h : CAt w b p) (o : Nat) : w.frozen? ⟨b, o, none⟩ = false := CA.frozen h o
theorem CAt.lt (h : CAt w b p) : b < w.heap.size := CA.lt h
theorem CAt.same (h : CAt w b p) (e : w'.heap[b]? = w.heap[b]?) : CAt w' b p := CA.same h e
theorem CAt.below (h : CAt w b p) (k : Below w.heap.size w w') : CAt w' b p := CA.below h k
theorem CAt.cSt (h : CAt w b p) (i : Nat) (hi : i < 64) : w.cell? ⟨b, i * 2, none⟩ = some (.int .i64 (Bd.st p i : Int)) := h.c0 i hi
theorem CAt.cOd (h : CAt w b p) (i : Nat) (hi : i < 64) : w.cell? ⟨b, i * 2 + 1, none⟩ = some (.int .i64 (Bd.od p i : Int)) := h.c1 i hi
end
def czA : Array Value := ((List.range 128).map fun _ => Value.int .i64 0).toArray
theorem cz_eq : Try.zeroCells134 = czA := by kernel_rfl
theorem cz_at (i : Nat) (h : i < 128) : czA[i]? = some (Value.int .i64 0) := by simp [czA, h]
theorem c_zero {w : World} {b : Nat} (h : w.heap[b]? = some (.cells czA 134 (0, 0))) : CA w b (fun _ => 0) (fun _ => 0) := by
  refine ⟨⟨_, h, by simp [czA]⟩, fun o ho => ?_, fun o ho => ?_⟩
  · rw [cell_blk h, cz_at _ (by omega)]; rfl
  · rw [cell_blk h, cz_at _ (by omega)]; rfl

theorem bud_xor : ∀ (i : Fin 64) (k : Fin 7), IntKind.i64.wrap ((BitVec.ofInt 64 ((i.1 : Nat) : Int) ^^^ BitVec.ofInt 64 (((2 ^ k.1 : Nat)) : Int)).toNat : Int) = ((Bd.bud i.1 (2 ^ k.1) : Nat) : Int) := by decide +kernel

theorem c_b0 {w : World} {b : Nat} (h : CA w b (Bd.up (fun _ => 0) 0 1) (Bd.up (fun _ => 0) 0 6)) : CAt w b Bd.b0 := by
  refine CA.congr h (fun i _ => ?_)
  unfold Bd.st Bd.od Bd.up Bd.b0
  by_cases c : i = 0 <;> simp [c]
set_option maxRecDepth 100000 in
set_option maxHeartbeats 1000000 in
theorem cnew_any (w : World) : Calls Try.prog 22 #[] w fun e w' => e = .returned (.pointer (some ⟨w.heap.size, 0, none⟩)) ∧ CAt w' w.heap.size Bd.b0 ∧ Below w.heap.size w w' ∧ w.heap.size < w'.heap.size := by
  have Z : (w.alloc (.cells Try.zeroCells134 134)).heap[w.heap.size]? = some (.cells czA 134 (0, 0)) := by
    rw [cz_eq]; exact heap_alloc_new w _
  have Z2 : (w.alloc (.cells ((Try.zeroCells134.setIfInBounds 0 (Value.int IntKind.i64 1)).setIfInBounds 1 (Value.int IntKind.i64 6)) 134)).heap[w.heap.size]? = some (.cells ((czA.setIfInBounds 0 (Value.int IntKind.i64 1)).setIfInBounds 1 (Value.int IntKind.i64 6)) 134 (0, 0)) := by
    rw [cz_eq]; exact heap_alloc_new w _
  have FIN : Hid (CAt (w.alloc (.cells ((Try.zeroCells134.setIfInBounds 0 (Value.int IntKind.i64 1)).setIfInBounds 1 (Value.int IntKind.i64 6)) 134)) w.heap.size Bd.b0) := Hid.intro (by
    have h := ((c_zero Z).setS 0 1 (by omega)).setD 0 6 (by omega)
    refine (c_b0 h).same ?_
    rw [Z2]; exact (blk_set (blk_set Z 0 _) 1 _).symm)
  clear Z Z2
  go_enter Try.func22, Try.ntmps22
  go_wp2_with fail
  go_ret
  exact ⟨rfl, FIN.out, (Below.refl _ _).alloc (Nat.le_refl _) _, by simp⟩
theorem wrongOrder_any (z : Int) (w : World) : Calls Try.prog 74 #[.int .i64 z] w fun e w' => e = .returned (errV (Bd.freE z)) ∧ w' = w := by
  by_cases k : z < 0 ∨ 6 < z
  · have e : Hid (Bd.freE z = 1) := Hid.intro (if_pos k)
    by_cases h0 : z < 0
    · clear k
      go_enter Try.func74, Try.ntmps74
      go_wp2
      go_ret
      rw [e.out]; exact ⟨rfl, rfl⟩
    · have h1 : decide (z < 0) = false := by simp; omega
      have h2 : 6 < z := by omega
      clear k h0
      go_enter Try.func74, Try.ntmps74
      go_wp2
      go_ret
      rw [e.out]; exact ⟨rfl, rfl⟩
  · have e : Hid (Bd.freE z = 0) := Hid.intro (if_neg k)
    have h1 : decide (z < 0) = false := by simp; omega
    have h2 : decide (6 < z) = false := by simp; omega
    clear k
    go_enter Try.func74, Try.ntmps74
    go_wp2
    go_ret
    rw [e.out]; exact ⟨rfl, rfl⟩
theorem sz_shl (k : Nat) (hk : k ≤ 6) : wrap64 ((2 : Int) ^ k) = ((Bd.sz (k + 1) : Nat) : Int) := by
  have : ∀ k : Fin 7, wrap64 ((2 : Int) ^ k.1) = ((Bd.sz (k.1 + 1) : Nat) : Int) := by decide +kernel
  exact this ⟨k, by omega⟩
theorem bud_bits (i k : Nat) (hi : i < 64) (hk : k ≤ 6) : bits BinOp.xor IntKind.i64 (i : Int) ((Bd.sz (k + 1) : Nat) : Int) = ((Bd.bud i (Bd.sz (k + 1)) : Nat) : Int) := by
  have := bud_xor ⟨i, hi⟩ ⟨k, by omega⟩
  unfold Bd.sz
  rw [Nat.add_sub_cancel]
  exact this
theorem csize_any (k : Nat) (hk : k ≤ 6) (w : World) : Calls Try.prog 73 #[.int .i64 k] w fun e w' => e = .returned (.int .i64 (Bd.sz (k + 1) : Int)) ∧ w' = w := by
  have E := Hid.intro (sz_shl k hk)
  go_enter Try.func73, Try.ntmps73
  go_wp2
  go_ret
  rw [E.out]; exact ⟨rfl, rfl⟩
theorem chalf_any (i k : Nat) (hi : i < 64) (hk : k ≤ 6) (w : World) : Calls Try.prog 127 #[.int .i64 i, .int .i64 k] w fun e w' => e = .returned (.int .i64 (Bd.bud i (Bd.sz (k + 1)) : Int)) ∧ w' = w := by
  have E := Hid.intro (bud_bits i k hi hk)
  go_enter Try.func127, Try.ntmps127
  go_wp2_with fail
  refine (csize_any k hk _).mono ?_
  rintro e w1 ⟨rfl, hw⟩
  subst w1
  go_wp2
  go_ret
  rw [E.out]; exact ⟨rfl, rfl⟩

def Bd.ordN (p : P) (z : Int) : Nat := if Bd.giveE p z = 0 then Bd.od p z.toNat else 0
set_option maxRecDepth 100000 in
set_option maxHeartbeats 400000 in
theorem corder_any (b : Nat) (z : Int) (p : P) (w : World) (h : CAt w b p) (hI : Bd.Inv p) : Calls Try.prog 77 #[.pointer (some ⟨b, 0, none⟩), .int .i64 z] w fun e w' => e = .returned (.tuple #[.int .i64 (Bd.ordN p z : Int), errV (Bd.giveE p z)]) ∧ w' = w := by
  by_cases k : z < 0 ∨ 63 < z
  · have e : Hid (Bd.giveE p z = 1 ∧ Bd.ordN p z = 0) := Hid.intro (by
      have : Bd.giveE p z = 1 := if_pos k
      exact ⟨this, by unfold Bd.ordN; rw [this]; rfl⟩)
    by_cases h0 : z < 0
    · clear k
      go_enter Try.func77, Try.ntmps77
      go_wp2
      go_ret2
      rw [e.out.1, e.out.2]; exact ⟨rfl, rfl⟩
    · have h1 : decide (z < 0) = false := by simp; omega
      have h2 : 64 ≤ z := by omega
      clear k h0
      go_enter Try.func77, Try.ntmps77
      go_wp2
      go_ret2
      rw [e.out.1, e.out.2]; exact ⟨rfl, rfl⟩
  · obtain ⟨n, rfl⟩ := Int.eq_ofNat_of_zero_le (show 0 ≤ z by omega)
    have hn : n < 64 := by omega
    have h1 : (n : Int) < 64 := by omega
    have h2 : decide (64 ≤ (n : Int)) = false := by simp; omega
    have c0 := h.cSt n hn
    have c1 := h.cOd n hn
    cases hh : p.tk n
    · have e : Hid (Bd.giveE p n = 2 ∧ Bd.ordN p n = 0) := Hid.intro (by
        have : Bd.giveE p n = 2 := by unfold Bd.giveE; rw [if_neg k, Int.toNat_natCast, hh]; rfl
        exact ⟨this, by unfold Bd.ordN; rw [this]; rfl⟩)
      have s2 : ((Bd.st p n : Int) == 2) = false := by
        have : Bd.st p n ≠ 2 := fun c => by rw [(Bd.st_two hI hn).1 c] at hh; cases hh
        simp; omega
      generalize Bd.st p n = s at *
      clear k hh h
      go_enter Try.func77, Try.ntmps77
      go_wp2
      go_ret2
      rw [e.out.1, e.out.2]; exact ⟨rfl, rfl⟩
    · have e : Hid (Bd.giveE p n = 0 ∧ Bd.ordN p n = Bd.od p n) := Hid.intro (by
        have : Bd.giveE p n = 0 := by unfold Bd.giveE; rw [if_neg k, Int.toNat_natCast, hh]; rfl
        exact ⟨this, by unfold Bd.ordN; rw [this, if_pos rfl, Int.toNat_natCast]⟩)
      rw [(Bd.st_two hI hn).2 hh] at c0
      have c0' : w.cell? ⟨b, n * 2, none⟩ = some (.int .i64 2) := c0
      clear k hh h c0
      go_enter Try.func77, Try.ntmps77
      go_wp2
      go_ret2
      rw [e.out.1, e.out.2]; exact ⟨rfl, rfl⟩
end Go.Proofs.Ytnppahmlifnnnab

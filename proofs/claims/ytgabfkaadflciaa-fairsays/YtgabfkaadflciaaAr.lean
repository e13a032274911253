/- Arrays in memory; an act, as it lies; a slice of acts, or of integers, that came in: what a walk is told of it. -/
import Derived.Test.YtgabfkaadflciaaFc
import Derived.OpenShut
import Derived.ProofKit
import Derived.Deep.Slices
namespace Go.Proofs.Ytgabfkaadflciaa
open Go.RowKit

/-- The cells of arrays of integers, of bools. -/
def arrZ (n : Nat) (f : Nat → Int) : Array Value := ((List.range n).map fun i => Value.int .i64 (f i)).toArray
def arrB (n : Nat) (g : Nat → Bool) : Array Value := ((List.range n).map fun i => Value.bool (g i)).toArray
def updZ (f : Nat → Int) (i : Nat) (v : Int) : Nat → Int := fun j => if j = i then v else f j
def updB (g : Nat → Bool) (i : Nat) (v : Bool) : Nat → Bool := fun j => if j = i then v else g j
theorem updZ_same (f : Nat → Int) (i : Nat) (v : Int) : updZ f i v i = v := by simp [updZ]
theorem updZ_ne (f : Nat → Int) (i : Nat) (v : Int) (j : Nat) (h : j ≠ i) : updZ f i v j = f j := by simp [updZ, h]
theorem updB_same (f : Nat → Bool) (i : Nat) (v : Bool) : updB f i v i = v := by simp [updB]
theorem updB_ne (f : Nat → Bool) (i : Nat) (v : Bool) (j : Nat) (h : j ≠ i) : updB f i v j = f j := by simp [updB, h]
theorem arrZ_at (n : Nat) (f : Nat → Int) (i : Nat) (h : i < n) : (arrZ n f)[i]? = some (.int .i64 (f i)) := by simp [arrZ, h]
theorem arrB_at (n : Nat) (g : Nat → Bool) (i : Nat) (h : i < n) : (arrB n g)[i]? = some (.bool (g i)) := by simp [arrB, h]
theorem arrZ_set (n : Nat) (f : Nat → Int) (i : Nat) (v : Int) (h : i < n) : (arrZ n f).setIfInBounds i (.int .i64 v) = arrZ n (updZ f i v) := by
  apply Array.ext_getElem?
  intro j
  rcases Nat.lt_or_ge j n with hj | hj
  · rw [arrZ_at n _ j hj]
    by_cases e : j = i
    · subst e; rw [Array.getElem?_setIfInBounds_self_of_lt (by simp [arrZ, hj]), updZ_same]
    · rw [Array.getElem?_setIfInBounds_ne (by omega), arrZ_at n f j hj, updZ_ne _ _ _ _ e]
  · rw [Array.getElem?_eq_none (by simp [arrZ]; omega), Array.getElem?_eq_none (by simp [arrZ]; omega)]
theorem arrB_set (n : Nat) (f : Nat → Bool) (i : Nat) (v : Bool) (h : i < n) : (arrB n f).setIfInBounds i (.bool v) = arrB n (updB f i v) := by
  apply Array.ext_getElem?
  intro j
  rcases Nat.lt_or_ge j n with hj | hj
  · rw [arrB_at n _ j hj]
    by_cases e : j = i
    · subst e; rw [Array.getElem?_setIfInBounds_self_of_lt (by simp [arrB, hj]), updB_same]
    · rw [Array.getElem?_setIfInBounds_ne (by omega), arrB_at n f j hj, updB_ne _ _ _ _ e]
  · rw [Array.getElem?_eq_none (by simp [arrB]; omega), Array.getElem?_eq_none (by simp [arrB]; omega)]
/-- An array of integers, of bools, lies in block b. -/
def ZAt (w : World) (b n : Nat) (T : TypeId) (f : Nat → Int) : Prop := w.heap[b]? = some (.cells (arrZ n f) T (0, 0))
def BAt (w : World) (b n : Nat) (T : TypeId) (f : Nat → Bool) : Prop := w.heap[b]? = some (.cells (arrB n f) T (0, 0))
section
variable {w : World} {b n : Nat} {T : TypeId}
theorem ZAt.cell {f : Nat → Int} (h : ZAt w b n T f) (i : Nat) (hi : i < n) : w.cell? ⟨b, i, none⟩ = some (.int .i64 (f i)) := by rw [cell_blk h, arrZ_at n f i hi]
theorem BAt.cell {f : Nat → Bool} (h : BAt w b n T f) (i : Nat) (hi : i < n) : w.cell? ⟨b, i, none⟩ = some (.bool (f i)) := by rw [cell_blk h, arrB_at n f i hi]
theorem ZAt.frozen {f : Nat → Int} (h : ZAt w b n T f) (i : Nat) : w.frozen? ⟨b, i, none⟩ = false := frozen_blk h i
theorem BAt.frozen {f : Nat → Bool} (h : BAt w b n T f) (i : Nat) : w.frozen? ⟨b, i, none⟩ = false := frozen_blk h i
theorem ZAt.set {f : Nat → Int} (h : ZAt w b n T f) (i : Nat) (v : Int) (hi : i < n) : ZAt (w.setCell ⟨b, i, none⟩ (.int .i64 v)) b n T (updZ f i v) := by
  unfold ZAt; rw [blk_set h, arrZ_set n f i v hi]
theorem BAt.set {f : Nat → Bool} (h : BAt w b n T f) (i : Nat) (v : Bool) (hi : i < n) : BAt (w.setCell ⟨b, i, none⟩ (.bool v)) b n T (updB f i v) := by
  unfold BAt; rw [blk_set h, arrB_set n f i v hi]
theorem ZAt.same {w' : World} {f : Nat → Int} (h : ZAt w b n T f) (e : w'.heap[b]? = w.heap[b]?) : ZAt w' b n T f := e.trans h
theorem BAt.same {w' : World} {f : Nat → Bool} (h : BAt w b n T f) (e : w'.heap[b]? = w.heap[b]?) : BAt w' b n T f := e.trans h
theorem ZAt.lt {f : Nat → Int} (h : ZAt w b n T f) : b < w.heap.size := (Array.getElem?_eq_some_iff.1 h).1
theorem BAt.lt {f : Nat → Bool} (h : BAt w b n T f) : b < w.heap.size := (Array.getElem?_eq_some_iff.1 h).1
end
theorem light_any (a : Option Addr) (n c : Nat) (m : Int) (w : World) : Calls Try.prog 14 #[.slice a n c, .int .i64 m] w fun e w' => e = .returned (.bool (decide ((n : Int) ≤ m))) ∧ w' = w := by
  go_enter Try.func14, Try.ntmps14
  go_wp2
  go_ret
  exact ⟨rfl, rfl⟩

/-- A slice of integers that came in: where there is one, a row of numbers. -/
def IsInts (w : World) (a : Option Addr) (len : Nat) : Prop := len ≤ maxLen ∧ (0 < len → ∃ b o, ∃ z : Nat → Int, a = some ⟨b, o, none⟩ ∧ ∀ i, i < len → w.cell? ⟨b, o + i, none⟩ = some (.int .i64 (z i)))
theorem addNoneO (b o j : Nat) : (⟨b, o, none⟩ : Addr).add j = ⟨b, o + j, none⟩ := by unfold Addr.add; split <;> simp_all

/-- An act, as it lies. -/
structure Act8 where
  kind : ByteArray
  a : Int
  b : Int
  c : Int
  key : Nat
  on : Bool
  s : ByteArray
  t : ByteArray
def Act8.cell (x : Act8) : Nat → Value
  | 0 => .string x.kind
  | 1 => .int .i64 x.a
  | 2 => .int .i64 x.b
  | 3 => .int .i64 x.c
  | 4 => .int .u64 x.key
  | 5 => .bool x.on
  | 6 => .string x.s
  | _ => .string x.t

theorem cellsAct : Try.prog.cellsOf 36 = 8 := by kernel_rfl
theorem cells9 : Try.prog.cellsOf 9 = 1 := by kernel_rfl
theorem cells3 : Try.prog.cellsOf 3 = 1 := by kernel_rfl
theorem cells27 : Try.prog.cellsOf 27 = 1 := by kernel_rfl
theorem cells4 : Try.prog.cellsOf 4 = 1 := by kernel_rfl

theorem list8 {α : Type} {l : List α} (h : l.length = 8) : ∃ a b c d e f g k, l = [a, b, c, d, e, f, g, k] := by
  match l, h with
  | [a, b, c, d, e, f, g, k], _ => exact ⟨a, b, c, d, e, f, g, k, rfl⟩

theorem act_of {H : Type} {enc : TypeId × Value → H} {w : World} {base : Nat} {spare : Nat → Bool} {held : Bool} {fuel : Nat} {cs : List Value} {x : DataW H × List MemPlace} (h : DataW.trod enc Try.prog w base spare held fuel 36 cs = some x) :
    ∃ y : Act8, cs.length = 8 ∧ ∀ j, j < 8 → cs[j]? = some (y.cell j) := by
  obtain ⟨xs, n, _, _, hl, hlen, hf⟩ := DataW.trod_struct Try.underlying36 h
  rw [cellsAct] at hl
  obtain ⟨c0, c1, c2, c3, c4, c5, c6, c7, rfl⟩ := list8 hl
  obtain ⟨x0, x1, x2, x3, x4, x5, x6, x7, rfl⟩ := list8 (show xs.length = 8 from hlen)
  have f0 : DataW.trod enc Try.prog w base spare held n 9 (([c0, c1, c2, c3, c4, c5, c6, c7].drop 0).take (Try.prog.cellsOf 9)) = some x0 := hf 0 _ rfl
  have f1 : DataW.trod enc Try.prog w base spare held n 3 (([c0, c1, c2, c3, c4, c5, c6, c7].drop 1).take (Try.prog.cellsOf 3)) = some x1 := hf 1 _ rfl
  have f2 : DataW.trod enc Try.prog w base spare held n 3 (([c0, c1, c2, c3, c4, c5, c6, c7].drop 2).take (Try.prog.cellsOf 3)) = some x2 := hf 2 _ rfl
  have f3 : DataW.trod enc Try.prog w base spare held n 3 (([c0, c1, c2, c3, c4, c5, c6, c7].drop 3).take (Try.prog.cellsOf 3)) = some x3 := hf 3 _ rfl
  have f4 : DataW.trod enc Try.prog w base spare held n 27 (([c0, c1, c2, c3, c4, c5, c6, c7].drop 4).take (Try.prog.cellsOf 27)) = some x4 := hf 4 _ rfl
  have f5 : DataW.trod enc Try.prog w base spare held n 4 (([c0, c1, c2, c3, c4, c5, c6, c7].drop 5).take (Try.prog.cellsOf 4)) = some x5 := hf 5 _ rfl
  have f6 : DataW.trod enc Try.prog w base spare held n 9 (([c0, c1, c2, c3, c4, c5, c6, c7].drop 6).take (Try.prog.cellsOf 9)) = some x6 := hf 6 _ rfl
  have f7 : DataW.trod enc Try.prog w base spare held n 9 (([c0, c1, c2, c3, c4, c5, c6, c7].drop 7).take (Try.prog.cellsOf 9)) = some x7 := hf 7 _ rfl
  rw [cells9] at f0
  rw [cells3] at f1
  rw [cells3] at f2
  rw [cells3] at f3
  rw [cells27] at f4
  rw [cells4] at f5
  rw [cells9] at f6
  rw [cells9] at f7
  obtain ⟨k0, e0, _⟩ := DataW.trod_string Try.underlying9 f0
  obtain ⟨k1, e1, _⟩ := DataW.trod_int Try.underlying3 f1
  obtain ⟨k2, e2, _⟩ := DataW.trod_int Try.underlying3 f2
  obtain ⟨k3, e3, _⟩ := DataW.trod_int Try.underlying3 f3
  obtain ⟨k4, e4, _, w4⟩ := DataW.trod_int Try.underlying27 f4
  obtain ⟨k5, e5, _⟩ := DataW.trod_bool Try.underlying4 f5
  obtain ⟨k6, e6, _⟩ := DataW.trod_string Try.underlying9 f6
  obtain ⟨k7, e7, _⟩ := DataW.trod_string Try.underlying9 f7
  have p4 : 0 ≤ k4 := (bounds_u64 w4).1
  refine ⟨⟨k0, k1, k2, k3, k4.toNat, k5, k6, k7⟩, rfl, fun j hj => ?_⟩
  simp only [List.drop, List.take, List.cons.injEq, and_true] at e0 e1 e2 e3 e4 e5 e6 e7
  subst e0 e1 e2 e3 e4 e5 e6 e7
  have e4 : ((k4.toNat : Nat) : Int) = k4 := Int.toNat_of_nonneg p4
  match j, hj with
  | 0, _ => rfl
  | 1, _ => rfl
  | 2, _ => rfl
  | 3, _ => rfl
  | 4, _ => simp [Act8.cell, e4]
  | 5, _ => rfl
  | 6, _ => rfl
  | 7, _ => rfl

/-- A slice of acts: where there is one, a row of acts. -/
def IsActs0 (w : World) (a : Option Addr) (len : Nat) : Prop := len ≤ maxLen ∧ (0 < len → ∃ b o, ∃ ax : Nat → Act8, a = some ⟨b, o, none⟩ ∧ ∀ i, i < len → ∀ j, j < 8 → w.cell? ⟨b, o + i * 8 + j, none⟩ = some ((ax i).cell j))

theorem acts_of {H : Type} {enc : TypeId × Value → H} {w : World} {base : Nat} {spare : Nat → Bool} {held : Bool} {fuel : Nat} {a : Option Addr} {len cap : Nat} {x : DataW H × List MemPlace} (h : DataW.trod enc Try.prog w base spare held fuel 22 [.slice a len cap] = some x) :
    IsActs0 w a len := by
  rcases Go.Deep.open_slice Try.underlying22 h with ⟨hcs, _⟩ | ⟨ad, l, c, m, n, D, Pl, hcs, _, hl, hm, hmm, _, hel⟩
  · simp at hcs
    obtain ⟨rfl, rfl, rfl⟩ := hcs
    exact ⟨Nat.zero_le _, fun h0 => absurd h0 (by omega)⟩
  · simp at hcs
    obtain ⟨rfl, rfl, rfl⟩ := hcs
    refine ⟨by omega, fun h0 => ?_⟩
    have hlm : len ≤ m := by rw [hmm]; split <;> omega
    have hex : ∀ i, i < len → ∃ y : Act8, ∀ j, j < 8 → w.cell? (ad.add (i * 8 + j)) = some (y.cell j) := fun i hi => by
      obtain ⟨cs', hc, ht⟩ := hel i (by omega)
      rw [cellsAct] at hc
      obtain ⟨y, hl8, hy⟩ := act_of ht
      refine ⟨y, fun j hj => ?_⟩
      have h8 := (World.cells?_some hc).2.2 j hj
      rw [Go.Deep.add_add, hy j hj] at h8
      exact h8
    obtain ⟨b, o, spot⟩ := ad
    have hspot : spot = none := by
      obtain ⟨y, hy⟩ := hex 0 h0
      simpa [Addr.add] using World.cell?_spot (hy 0 (by omega))
    subst hspot
    refine ⟨b, o, fun i => if hi : i < len then Classical.choose (hex i hi) else ⟨⟨#[]⟩, 0, 0, 0, 0, false, ⟨#[]⟩, ⟨#[]⟩⟩, rfl, fun i hi j hj => ?_⟩
    have hc := Classical.choose_spec (hex i hi) j hj
    have ha : (⟨b, o, none⟩ : Addr).add (i * 8 + j) = ⟨b, o + i * 8 + j, none⟩ := by unfold Addr.add; split <;> simp_all <;> omega
    rw [ha] at hc
    simp only [dif_pos hi]
    exact hc

end Go.Proofs.Ytgabfkaadflciaa

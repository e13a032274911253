/- Blocks of frames, plain: which are free, how many frames are left. -/
import Derived.Test.YtnppahmlifnnnabXc
namespace Go.Proofs.Ytnppahmlifnnnab

open Bd (P)
namespace Bd
def freP (p : P) (o i : Nat) : Bool := decide (p.ord i = o + 1) && !p.tk i
def freK (p : P) (o k : Nat) : List Nat := (List.range k).filter (freP p o)
def freL (p : P) (z : Int) : List Nat := if z < 0 ∨ 6 < z then [] else freK p z.toNat 64
def freE (z : Int) : Int := if z < 0 ∨ 6 < z then 1 else 0
theorem freK_yes {p : P} {o k : Nat} (h : freP p o k = true) : freK p o (k + 1) = freK p o k ++ [k] := by
  unfold freK; rw [List.range_succ, List.filter_append]; simp [h]
theorem freK_no {p : P} {o k : Nat} (h : freP p o k = false) : freK p o (k + 1) = freK p o k := by
  unfold freK; rw [List.range_succ, List.filter_append]; simp [h]
theorem freK_len (p : P) (o k : Nat) : (freK p o k).length ≤ k := by
  have := List.length_filter_le (freP p o) (List.range k)
  simpa [freK] using this
/-- How many frames are in free blocks. -/
def leftK (p : P) : Nat → Nat
  | 0 => 0
  | k + 1 => leftK p k + if 0 < p.ord k ∧ p.tk k = false then sz (p.ord k) else 0
def left (p : P) : Nat := leftK p 64
end Bd
theorem leftK_le {p : P} (h : ∀ i, i < 64 → p.ord i ≤ 7) : ∀ k, k ≤ 64 → Bd.leftK p k ≤ 64 * k
  | 0, _ => by show 0 ≤ _; omega
  | k + 1, hk => by
    have a := leftK_le h k (by omega)
    have b := sz_le (h k (by omega))
    show Bd.leftK p k + (if 0 < p.ord k ∧ p.tk k = false then Bd.sz (p.ord k) else 0) ≤ _
    split <;> omega
end Go.Proofs.Ytnppahmlifnnnab

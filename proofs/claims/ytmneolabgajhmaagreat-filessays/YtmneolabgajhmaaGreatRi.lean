/- Pipes, plain: what stays true. The document's own pipes: none. -/
import Derived.Test.YtmneolabgajhmaaGreatPn
import Derived.Test.YtmneolabgajhmaaGreatPg
import Derived.Test.YtmneolabgajhmaaGreatQc
namespace Go.Proofs.YtmneolabgajhmaaGreat
open Go.RowKit
open Pp (Pi)

/-- Open k times at most; what is no pipe has nothing. -/
def Pp.PI (k : Nat) (S : Nat → Pi) : Prop := (∀ n, n < 8 → (S n).reads ≤ k ∧ (S n).writes ≤ k) ∧ Pp.Zr S
theorem Pp.PI.sm {k : Nat} {S : Nat → Pi} (h : Pp.PI k S) (hk : k < 1000) : Pp.Sm S := fun n hn => by have := h.1 n hn; omega
theorem Pp.PI.tim {k : Nat} {S : Nat → Pi} (h : Pp.PI k S) (hk : k < 1000) (wr : Bool) : ∀ n, n < 8 → Pp.tim (S n) wr < 2 ^ 60 := fun n hn => by
  have := h.1 n hn
  unfold Pp.tim
  split <;> omega
theorem Pp.PI.put {k : Nat} {S : Nat → Pi} (h : Pp.PI k S) (n : Nat) (x : Pi) (h1 : x.reads ≤ k + 1 ∧ x.writes ≤ k + 1) (h2 : Pp.thr x = false → x = Pi.no) : Pp.PI (k + 1) (Pp.put S n x) := by
  refine ⟨fun m hm => ?_, fun m hm => ?_⟩
  · by_cases c : m = n
    · subst c; rw [Pp.put_same]; exact h1
    · rw [Pp.put_ne _ _ _ _ c]; have := h.1 m hm; omega
  · by_cases c : m = n
    · subst c; rw [Pp.put_same]; exact h2
    · rw [Pp.put_ne _ _ _ _ c]; exact h.2 m hm
theorem Pp.PI.up {k : Nat} {S : Nat → Pi} (h : Pp.PI k S) : Pp.PI (k + 1) S := ⟨fun n hn => by have := h.1 n hn; omega, h.2⟩
theorem Pp.PI.mak {k n : Nat} {E : Int} {S : Nat → Pi} (h : Pp.PI k S) : Pp.PI (k + 1) (Pp.makF S n E) := by
  unfold Pp.makF
  split
  · exact h.put n _ ⟨by show 1 ≤ k + 1; omega, by show 1 ≤ k + 1; omega⟩ (fun e => by cases e)
  · exact h.up
theorem Pp.PI.sha {k : Nat} {S : Nat → Pi} (h : Pp.PI k S) (z : Int) (wr : Bool) : Pp.PI (k + 1) (Pp.shaF S z wr) := by
  unfold Pp.shaF
  split
  · rename_i c
    obtain ⟨n, rfl, hn, ht, _⟩ := Pp.opE_ok c
    rw [Int.toNat_natCast]
    have hb := h.1 n hn
    refine h.put n _ ?_ (fun e => ?_)
    · unfold Pp.setT Pp.tim
      cases wr
      · exact ⟨by show (S n).reads + 1 ≤ k + 1; omega, by show (S n).writes ≤ k + 1; omega⟩
      · exact ⟨by show (S n).reads ≤ k + 1; omega, by show (S n).writes + 1 ≤ k + 1; omega⟩
    · exfalso
      unfold Pp.thr Pp.setT at e
      cases wr <;> simp at e
  · exact h.up
theorem Pp.PI.dro {k : Nat} {S : Nat → Pi} (h : Pp.PI k S) (z : Int) (wr : Bool) : Pp.PI (k + 1) (Pp.droF S z wr) := by
  unfold Pp.droF
  split
  · rename_i c
    obtain ⟨n, rfl, hn, ht, _⟩ := Pp.opE_ok c
    rw [Int.toNat_natCast]
    have hb := h.1 n hn
    unfold Pp.less
    split
    · rename_i c2
      refine h.put n _ ?_ (fun e => absurd c2 (by rw [e]; decide))
      unfold Pp.setT Pp.tim
      cases wr
      · exact ⟨by show (S n).reads - 1 ≤ k + 1; omega, by show (S n).writes ≤ k + 1; omega⟩
      · exact ⟨by show (S n).reads ≤ k + 1; omega, by show (S n).writes - 1 ≤ k + 1; omega⟩
    · exact h.put n _ ⟨Nat.zero_le _, Nat.zero_le _⟩ (fun _ => rfl)
  · exact h.up
theorem Pp.PI.tx {k : Nat} {S : Nat → Pi} (h : Pp.PI k S) (n : Nat) (hn : n < 8) (ht : Pp.thr (S n) = true) (t : ByteArray) : Pp.PI (k + 1) (Pp.put S n { S n with tx := t }) := by
  have hb := h.1 n hn
  refine h.put n _ ⟨by show (S n).reads ≤ k + 1; omega, by show (S n).writes ≤ k + 1; omega⟩ (fun e => ?_)
  have : Pp.thr (S n) = false := e
  rw [ht] at this
  cases this
theorem Pp.PI.rea {k : Nat} {S : Nat → Pi} (h : Pp.PI k S) (z m : Int) : Pp.PI (k + 1) (Pp.reaF S z m) := by
  unfold Pp.reaF
  split
  · rename_i c
    have o : Pp.opE S z false = 0 := by
      unfold Pp.reaE at c
      by_cases d : Pp.opE S z false ≠ 0
      · rw [if_pos d] at c; exact absurd c d
      · omega
    obtain ⟨n, rfl, hn, ht, _⟩ := Pp.opE_ok o
    rw [Int.toNat_natCast]
    exact h.tx n hn ht _
  · exact h.up
theorem Pp.PI.wri {k : Nat} {S : Nat → Pi} (h : Pp.PI k S) (z : Int) (s : ByteArray) : Pp.PI (k + 1) (Pp.wriF S z s) := by
  unfold Pp.wriF
  split
  · rename_i c
    have o : Pp.opE S z true = 0 := by
      unfold Pp.wriE at c
      by_cases d : Pp.opE S z true ≠ 0
      · rw [if_pos d] at c; exact absurd c d
      · omega
    obtain ⟨n, rfl, hn, ht, _⟩ := Pp.opE_ok o
    rw [Int.toNat_natCast]
    exact h.tx n hn ht _
  · exact h.up
theorem Pp.PI.nul : Pp.PI 0 Pp.nul := ⟨fun _ _ => ⟨Nat.le_refl _, Nat.le_refl _⟩, fun _ _ _ => rfl⟩
theorem Pp.reaE_nn (S : Nat → Pi) (z m : Int) : 0 ≤ Pp.reaE S z m := by
  have := Pp.opE_nn S z false
  unfold Pp.reaE
  repeat' split
  all_goals omega
theorem Pp.wriE_nn (S : Nat → Pi) (z : Int) (s : ByteArray) : 0 ≤ Pp.wriE S z s := by
  have := Pp.opE_nn S z true
  unfold Pp.wriE
  repeat' split
  all_goals omega
theorem Pp.FreeTo.nn {S : Nat → Pi} {n : Nat} {E : Int} (h : Pp.FreeTo S n E) : 0 ≤ E := by rcases h with ⟨e, _⟩ | ⟨e, _⟩ <;> omega
/-- The document's own pipes, none. -/
def Pp.zR : Array Value := ((List.range 24).map fun o => if o < 8 then Value.string ⟨#[]⟩ else Value.int .i64 0).toArray
theorem Pp.zR_at (o : Nat) (h : o < 24) : Pp.zR[o]? = some (if o < 8 then Value.string ⟨#[]⟩ else Value.int .i64 0) := by simp [Pp.zR, h]
theorem QAt.zero {w : World} {b : Nat} {T : TypeId} (h : w.heap[b]? = some (.cells Pp.zR T (0, 0))) : QAt w b Pp.nul := by
  refine ⟨⟨_, T, h, by simp [Pp.zR]⟩, fun n hn => ?_, fun n hn => ?_, fun n hn => ?_⟩
  · rw [cell_blk h, Pp.zR_at _ (by omega), if_pos (by omega)]; rfl
  · rw [cell_blk h, Pp.zR_at _ (by omega), if_neg (by omega)]; rfl
  · rw [cell_blk h, Pp.zR_at _ (by omega), if_neg (by omega)]; rfl
theorem Pp.zR_eq : Pp.zR = #[.string ⟨#[]⟩, .string ⟨#[]⟩, .string ⟨#[]⟩, .string ⟨#[]⟩, .string ⟨#[]⟩, .string ⟨#[]⟩, .string ⟨#[]⟩, .string ⟨#[]⟩, .int .i64 0, .int .i64 0, .int .i64 0, .int .i64 0, .int .i64 0, .int .i64 0, .int .i64 0, .int .i64 0, .int .i64 0, .int .i64 0, .int .i64 0, .int .i64 0, .int .i64 0, .int .i64 0, .int .i64 0, .int .i64 0] := rfl
end Go.Proofs.YtmneolabgajhmaaGreat

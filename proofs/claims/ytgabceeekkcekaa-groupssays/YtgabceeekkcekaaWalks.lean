/- The walks of the queue's own functions: each by its contract. -/
import Derived.Test.YtgabceeekkcekaaRows
import Derived.Test.YtgabceeekkcekaaHeap
import Derived.WalkKit
import Derived.WalkSpells
import Derived.WalkLawsBesides
import Derived.WalkSmall
import Derived.Deep.QuietTactic
import Derived.BigQuiet
namespace Go.Proofs.Ytgabceeekkcekaa
open Go.RowKit
open Hp (Q)

/-- The cells of a queue. -/
def enc (q : Q) : Array Value := #[.int .i64 q.many] ++ ((List.range 64).map fun i => Value.int .i64 (q.heap i)).toArray ++ ((List.range 64).map fun i => Value.int .i64 (q.place i)).toArray ++ ((List.range 64).map fun i => Value.int .u64 (q.keys i)).toArray

theorem enc_size (q : Q) : (enc q).size = 193 := by simp [enc]
theorem enc_many (q : Q) : (enc q)[0]? = some (.int .i64 q.many) := by simp [enc]
theorem enc_heap (q : Q) (i : Nat) (h : i < 64) : (enc q)[1 + i]? = some (.int .i64 (q.heap i)) := by
  unfold enc
  rw [Array.getElem?_append_left (by simp; omega), Array.getElem?_append_left (by simp; omega), Array.getElem?_append_right (by simp)]
  simp [h]
theorem enc_place (q : Q) (i : Nat) (h : i < 64) : (enc q)[65 + i]? = some (.int .i64 (q.place i)) := by
  unfold enc
  rw [Array.getElem?_append_left (by simp; omega), Array.getElem?_append_right (by simp)]
  simp [h]
theorem enc_keys (q : Q) (i : Nat) (h : i < 64) : (enc q)[129 + i]? = some (.int .u64 (q.keys i)) := by
  unfold enc
  rw [Array.getElem?_append_right (by simp)]
  simp [h]
theorem enc_ext (q : Q) (c : Array Value) (hs : c.size = 193) (h0 : c[0]? = some (.int .i64 q.many)) (h1 : ∀ i, i < 64 → c[1 + i]? = some (.int .i64 (q.heap i))) (h2 : ∀ i, i < 64 → c[65 + i]? = some (.int .i64 (q.place i)))
    (h3 : ∀ i, i < 64 → c[129 + i]? = some (.int .u64 (q.keys i))) : c = enc q := by
  apply Array.ext_getElem?
  intro j
  rcases Nat.lt_or_ge j 1 with hj | hj
  · obtain rfl : j = 0 := by omega
    rw [h0, enc_many]
  · rcases Nat.lt_or_ge j 65 with hj1 | hj1
    · obtain ⟨i, rfl⟩ : ∃ i, j = 1 + i := ⟨j - 1, by omega⟩
      rw [h1 i (by omega), enc_heap q i (by omega)]
    · rcases Nat.lt_or_ge j 129 with hj2 | hj2
      · obtain ⟨i, rfl⟩ : ∃ i, j = 65 + i := ⟨j - 65, by omega⟩
        rw [h2 i (by omega), enc_place q i (by omega)]
      · rcases Nat.lt_or_ge j 193 with hj3 | hj3
        · obtain ⟨i, rfl⟩ : ∃ i, j = 129 + i := ⟨j - 129, by omega⟩
          rw [h3 i (by omega), enc_keys q i (by omega)]
        · rw [Array.getElem?_eq_none (by omega), Array.getElem?_eq_none (by rw [enc_size]; omega)]

/-- The queue q lies in block b. -/
def At (w : World) (b : Nat) (q : Q) : Prop := w.heap[b]? = some (.cells (enc q) 30 (0, 0))

/-- Only block b has turned. -/
structure Only (b : Nat) (w w' : World) : Prop where
  os : w'.os = w.os
  tape : w'.tape = w.tape
  output : w'.output = w.output
  size : w'.heap.size = w.heap.size
  block : ∀ k, k ≠ b → w'.heap[k]? = w.heap[k]?
theorem Only.refl (b : Nat) (w : World) : Only b w w := ⟨rfl, rfl, rfl, rfl, fun _ _ => rfl⟩
theorem Only.trans {b : Nat} {u v w : World} (h : Only b u v) (k : Only b v w) : Only b u w := ⟨k.os.trans h.os, k.tape.trans h.tape, k.output.trans h.output, k.size.trans h.size, fun i hi => (k.block i hi).trans (h.block i hi)⟩
theorem Only.drew (b : Nat) (w : World) : Only b w w.drew := ⟨rfl, rfl, rfl, rfl, fun _ _ => rfl⟩
theorem Only.drewN (b : Nat) (w : World) (n : Nat) : Only b w (w.drewN n) := ⟨rfl, rfl, rfl, rfl, fun _ _ => rfl⟩
theorem Only.setCell (b : Nat) (w : World) (o : Nat) (v : Value) : Only b w (w.setCell ⟨b, o, none⟩ v) := ⟨rfl, rfl, rfl, by simp [World.setCell], fun k hk => Below.heap_setCell _ _ _ _ hk⟩

section
variable {w : World} {b : Nat} {q : Q}
theorem At.drew (h : At w b q) : At w.drew b q := h
theorem At.drewN (h : At w b q) (n : Nat) : At (w.drewN n) b q := h
theorem At.cell (h : At w b q) (o : Nat) : w.cell? ⟨b, o, none⟩ = (enc q)[o]? := by
  have h' : w.heap[b]? = some (.cells (enc q) 30 (0, 0)) := h
  simp [World.cell?, h']
theorem At.many (h : At w b q) : w.cell? ⟨b, 0, none⟩ = some (.int .i64 q.many) := by rw [h.cell, enc_many]
theorem At.heap (h : At w b q) (i : Nat) (hi : i < 64) : w.cell? ⟨b, 1 + i, none⟩ = some (.int .i64 (q.heap i)) := by rw [h.cell, enc_heap q i hi]
theorem At.place (h : At w b q) (i : Nat) (hi : i < 64) : w.cell? ⟨b, 65 + i, none⟩ = some (.int .i64 (q.place i)) := by rw [h.cell, enc_place q i hi]
theorem At.keys (h : At w b q) (i : Nat) (hi : i < 64) : w.cell? ⟨b, 129 + i, none⟩ = some (.int .u64 (q.keys i)) := by rw [h.cell, enc_keys q i hi]
theorem At.frozen (h : At w b q) (o : Nat) : w.frozen? ⟨b, o, none⟩ = false := by
  have h' : w.heap[b]? = some (.cells (enc q) 30 (0, 0)) := h
  simp [World.frozen?, h']
theorem At.set (h : At w b q) (o : Nat) (v : Value) : (w.setCell ⟨b, o, none⟩ v).heap[b]? = some (.cells ((enc q).setIfInBounds o v) 30 (0, 0)) := by
  have h' : w.heap[b]? = some (.cells (enc q) 30 (0, 0)) := h
  simp [World.setCell, Array.getElem?_modify, h']
theorem At.setMany (h : At w b q) (n : Nat) : At (w.setCell ⟨b, 0, none⟩ (.int .i64 n)) b { q with many := n } := by
  unfold At
  rw [h.set]
  refine congrArg (fun c => some (Obj.cells c 30 (0, 0))) ?_
  refine enc_ext _ _ (by simp [enc_size]) ?_ ?_ ?_ ?_
  · rw [Array.getElem?_setIfInBounds_self_of_lt (by rw [enc_size]; omega)]
  · intro i hi; rw [Array.getElem?_setIfInBounds_ne (by omega), enc_heap q i hi]
  · intro i hi; rw [Array.getElem?_setIfInBounds_ne (by omega), enc_place q i hi]
  · intro i hi; rw [Array.getElem?_setIfInBounds_ne (by omega), enc_keys q i hi]
theorem At.setHeap (h : At w b q) (x n : Nat) (hx : x < 64) : At (w.setCell ⟨b, 1 + x, none⟩ (.int .i64 n)) b { q with heap := Hp.upd q.heap x n } := by
  unfold At
  rw [h.set]
  refine congrArg (fun c => some (Obj.cells c 30 (0, 0))) ?_
  refine enc_ext _ _ (by simp [enc_size]) ?_ ?_ ?_ ?_
  · rw [Array.getElem?_setIfInBounds_ne (by omega), enc_many]
  · intro i hi
    show _ = some (Value.int .i64 ((Hp.upd q.heap x n i : Nat) : Int))
    by_cases e : i = x
    · subst e; rw [Array.getElem?_setIfInBounds_self_of_lt (by rw [enc_size]; omega), Hp.upd_same]
    · rw [Array.getElem?_setIfInBounds_ne (by omega), enc_heap q i hi, Hp.upd_ne _ _ _ _ e]
  · intro i hi; rw [Array.getElem?_setIfInBounds_ne (by omega), enc_place q i hi]
  · intro i hi; rw [Array.getElem?_setIfInBounds_ne (by omega), enc_keys q i hi]
theorem At.setPlace (h : At w b q) (x n : Nat) (hx : x < 64) : At (w.setCell ⟨b, 65 + x, none⟩ (.int .i64 n)) b { q with place := Hp.upd q.place x n } := by
  unfold At
  rw [h.set]
  refine congrArg (fun c => some (Obj.cells c 30 (0, 0))) ?_
  refine enc_ext _ _ (by simp [enc_size]) ?_ ?_ ?_ ?_
  · rw [Array.getElem?_setIfInBounds_ne (by omega), enc_many]
  · intro i hi; rw [Array.getElem?_setIfInBounds_ne (by omega), enc_heap q i hi]
  · intro i hi
    show _ = some (Value.int .i64 ((Hp.upd q.place x n i : Nat) : Int))
    by_cases e : i = x
    · subst e; rw [Array.getElem?_setIfInBounds_self_of_lt (by rw [enc_size]; omega), Hp.upd_same]
    · rw [Array.getElem?_setIfInBounds_ne (by omega), enc_place q i hi, Hp.upd_ne _ _ _ _ e]
  · intro i hi; rw [Array.getElem?_setIfInBounds_ne (by omega), enc_keys q i hi]
theorem At.setKeys (h : At w b q) (x n : Nat) (hx : x < 64) : At (w.setCell ⟨b, 129 + x, none⟩ (.int .u64 n)) b { q with keys := Hp.upd q.keys x n } := by
  unfold At
  rw [h.set]
  refine congrArg (fun c => some (Obj.cells c 30 (0, 0))) ?_
  refine enc_ext _ _ (by simp [enc_size]) ?_ ?_ ?_ ?_
  · rw [Array.getElem?_setIfInBounds_ne (by omega), enc_many]
  · intro i hi; rw [Array.getElem?_setIfInBounds_ne (by omega), enc_heap q i hi]
  · intro i hi; rw [Array.getElem?_setIfInBounds_ne (by omega), enc_place q i hi]
  · intro i hi
    show _ = some (Value.int .u64 ((Hp.upd q.keys x n i : Nat) : Int))
    by_cases e : i = x
    · subst e; rw [Array.getElem?_setIfInBounds_self_of_lt (by rw [enc_size]; omega), Hp.upd_same]
    · rw [Array.getElem?_setIfInBounds_ne (by omega), enc_keys q i hi, Hp.upd_ne _ _ _ _ e]
theorem At.only {w' : World} {c : Nat} (h : At w b q) (ho : Only c w w') (hne : b ≠ c) : At w' b q := (ho.block b hne).trans h
end

/-- Is it a number that a queue can have? -/
def bnd (j : Int) : Bool := decide (0 ≤ j ∧ j < 64)
theorem bnd_true {j : Int} (h : 0 ≤ j) (h2 : j < 64) : bnd j = true := decide_eq_true ⟨h, h2⟩
theorem bnd_false {j : Int} (h : j < 0 ∨ 64 ≤ j) : bnd j = false := decide_eq_false (by omega)
theorem ret_bool {a b : Bool} (h : a = b) : Ending.returned (.bool a) = .returned (.bool b) := by rw [h]

set_option maxHeartbeats 400000 in
theorem bounded_any (j : Int) (w : World) : Calls Try.prog 42 #[.int .i64 j] w fun e w' => e = .returned (.bool (bnd j)) ∧ w' = w := by
  by_cases h : 0 ≤ j
  · by_cases h2 : j < 64
    · go_enter Try.func42, Try.ntmps42
      go_wp2
      go_ret
      exact ⟨ret_bool (bnd_true h h2).symm, rfl⟩
    · go_enter Try.func42, Try.ntmps42
      go_wp2
      go_ret
      exact ⟨ret_bool (bnd_false (by omega)).symm, rfl⟩
  · go_enter Try.func42, Try.ntmps42
    go_wp2
    go_ret
    exact ⟨ret_bool (bnd_false (by omega)).symm, rfl⟩

/-- Is a number in it? -/
def isin (q : Q) (j : Nat) : Bool := decide (0 < q.place j)

set_option maxHeartbeats 400000 in
theorem has_any (b j : Nat) (q : Q) (w : World) (h : At w b q) (hj : j < 64) : Calls Try.prog 43 #[.pointer (some ⟨b, 0, none⟩), .int .i64 j] w fun e w' => e = .returned (.bool (isin q j)) ∧ w' = w := by
  have hc := h.place j hj
  have hlt : (j : Int) < 64 := by omega
  clear h
  go_enter Try.func43, Try.ntmps43
  go_wp2
  go_ret
  exact ⟨ret_bool (by simp [isin]), rfl⟩

set_option maxHeartbeats 400000 in
theorem set_any (b x j : Nat) (q : Q) (w : World) (h : At w b q) (hx : x < 64) (hj : j < 64) : Calls Try.prog 44 #[.pointer (some ⟨b, 0, none⟩), .int .i64 x, .int .i64 j] w fun e w' => e = .returned (.tuple #[]) ∧ At w' b (Hp.set q x j) ∧ Only b w w' := by
  have hc := h.heap x hx
  have hc2 := h.place j hj
  have hf := h.frozen
  have hlt : (j : Int) < 64 := by omega
  have hlt2 : (x : Int) < 64 := by omega
  have H : Hid (At w b q) := h
  clear h
  go_enter Try.func44, Try.ntmps44
  go_wp2
  go_end0
  exact ⟨rfl, (H.out.setHeap x j hx).setPlace j (x + 1) hj, (Only.setCell _ _ _ _).trans (Only.setCell _ _ _ _)⟩

/-- Is the number at one index to come ahead of the one at another? -/
def ahB (q : Q) (x y : Nat) : Bool := decide (q.keys (q.heap x) < q.keys (q.heap y) ∨ (q.keys (q.heap x) = q.keys (q.heap y) ∧ q.heap x < q.heap y))
theorem ahB_iff (q : Q) (x y : Nat) : ahB q x y = true ↔ Hp.ah q.keys (q.heap x) (q.heap y) := by simp [ahB, Hp.ah]

set_option maxHeartbeats 400000 in
theorem ahead_any (b x y : Nat) (q : Q) (w : World) (h : At w b q) (hx : x < 64) (hy : y < 64) (hhx : q.heap x < 64) (hhy : q.heap y < 64) :
    Calls Try.prog 69 #[.pointer (some ⟨b, 0, none⟩), .int .i64 x, .int .i64 y] w fun e w' => e = .returned (.bool (ahB q x y)) ∧ ∃ n, w' = w.drewN n := by
  have c1 := h.heap x hx
  have c2 := h.heap y hy
  have c3 := h.keys _ hhx
  have c4 := h.keys _ hhy
  have l1 : (x : Int) < 64 := by omega
  have l2 : (y : Int) < 64 := by omega
  have hA : ∀ r : Bool, (r = true ↔ Hp.ah q.keys (q.heap x) (q.heap y)) → r = ahB q x y := fun r hr => by rw [Bool.eq_iff_iff, hr, ahB_iff]
  clear h
  generalize hX : q.heap x = X at *
  generalize hY : q.heap y = Y at *
  generalize hKX : q.keys X = KX at *
  generalize hKY : q.keys Y = KY at *
  have l3 : (X : Int) < 64 := by omega
  have l4 : (Y : Int) < 64 := by omega
  have HA : Hid (∀ r : Bool, (r = true ↔ Hp.ah q.keys X Y) → r = ahB q x y) := hA
  have HKX : Hid (q.keys X = KX) := hKX
  have HKY : Hid (q.keys Y = KY) := hKY
  clear hA hX hY hKX hKY
  by_cases k1 : KX < KY
  · have d1 : decide ((KX : Int) < (KY : Int)) = true := by simp; omega
    go_enter Try.func69, Try.ntmps69
    go_wp2
    go_quiet (fail)
    go_wp2
    go_quiet (fail)
    go_wp2
    go_ret
    refine ⟨ret_bool (HA.out _ ?_), _, World.drewN_drewN _ _ _⟩
    unfold Hp.ah; rw [HKX.out, HKY.out]; simp; omega
  · have d1 : decide ((KX : Int) < (KY : Int)) = false := by simp; omega
    by_cases k2 : KX = KY
    · have d2 : ((KX : Int) == (KY : Int)) = true := by simp; omega
      go_enter Try.func69, Try.ntmps69
      go_wp2
      go_quiet (fail)
      go_wp2
      go_quiet (fail)
      go_wp2
      go_ret
      refine ⟨ret_bool (HA.out _ ?_), _, World.drewN_drewN _ _ _⟩
      unfold Hp.ah; rw [HKX.out, HKY.out]; simp; omega
    · have d2 : ((KX : Int) == (KY : Int)) = false := by simp; omega
      go_enter Try.func69, Try.ntmps69
      go_wp2
      go_quiet (fail)
      go_wp2
      go_quiet (fail)
      go_wp2
      go_ret
      refine ⟨ret_bool (HA.out _ ?_), _, World.drewN_drewN _ _ _⟩
      unfold Hp.ah; rw [HKX.out, HKY.out]; simp; omega

end Go.Proofs.Ytgabceeekkcekaa

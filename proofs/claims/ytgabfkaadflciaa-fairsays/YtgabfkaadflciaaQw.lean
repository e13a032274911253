/- The walks of the queue's own functions: each by its contract. -/
import Derived.Test.YtgabfkaadflciaaRows
import Derived.Test.YtgabfkaadflciaaHeap
import Derived.WalkKit
import Derived.WalkSpells
import Derived.WalkLawsBesides
import Derived.WalkSmall
import Derived.Deep.QuietTactic
import Derived.BigQuiet
namespace Go.Proofs.Ytgabfkaadflciaa
open Go.RowKit
open Hp (Q)

/-- The cells of a queue. -/
def enc (q : Q) : Array Value := #[.int .i64 q.many] ++ ((List.range 64).map fun i => Value.int .i64 (q.heap i)).toArray ++ ((List.range 64).map fun i => Value.int .i64 (q.place i)).toArray ++ ((List.range 64).map fun i => Value.int .u64 (q.keys i)).toArray

theorem enc_size (q : Q) : (enc q).size = 193 := by simp [enc]
theorem enc_many (q : Q) : (enc q)[0]? = some (.int .i64 q.many) := by simp [enc]
theorem enc_heap (q : Q) (i : Nat) (h : i < 64) : (enc q)[1 + i]? = some (.int .i64 (q.heap i)) := by
  unfold enc
  rw [Array.getElem?_append_left (by simp; omega), Array.getElem?_append_left (by simp; omega), Array.getElem?_append_right (by simp)]
  simp [h]
theorem enc_place (q : Q) (i : Nat) (h : i < 64) : (enc q)[65 + i]? = some (.int .i64 (q.place i)) := by
  unfold enc
  rw [Array.getElem?_append_left (by simp; omega), Array.getElem?_append_right (by simp)]
  simp [h]
theorem enc_keys (q : Q) (i : Nat) (h : i < 64) : (enc q)[129 + i]? = some (.int .u64 (q.keys i)) := by
  unfold enc
  rw [Array.getElem?_append_right (by simp)]
  simp [h]
theorem enc_ext (q : Q) (c : Array Value) (hs : c.size = 193) (h0 : c[0]? = some (.int .i64 q.many)) (h1 : ∀ i, i < 64 → c[1 + i]? = some (.int .i64 (q.heap i))) (h2 : ∀ i, i < 64 → c[65 + i]? = some (.int .i64 (q.place i)))
    (h3 : ∀ i, i < 64 → c[129 + i]? = some (.int .u64 (q.keys i))) : c = enc q := by
  apply Array.ext_getElem?
  intro j
  rcases Nat.lt_or_ge j 1 with hj | hj
  · obtain rfl : j = 0 := by omega
    rw [h0, enc_many]
  · rcases Nat.lt_or_ge j 65 with hj1 | hj1
    · obtain ⟨i, rfl⟩ : ∃ i, j = 1 + i := ⟨j - 1, by omega⟩
      rw [h1 i (by omega), enc_heap q i (by omega)]
    · rcases Nat.lt_or_ge j 129 with hj2 | hj2
      · obtain ⟨i, rfl⟩ : ∃ i, j = 65 + i := ⟨j - 65, by omega⟩
        rw [h2 i (by omega), enc_place q i (by omega)]
      · rcases Nat.lt_or_ge j 193 with hj3 | hj3
        · obtain ⟨i, rfl⟩ : ∃ i, j = 129 + i := ⟨j - 129, by omega⟩
          rw [h3 i (by omega), enc_keys q i (by omega)]
        · rw [Array.getElem?_eq_none (by omega), Array.getElem?_eq_none (by rw [enc_size]; omega)]

/-- The queue q lies in block b from o on. -/
def At (w : World) (b o : Nat) (q : Q) : Prop := ∃ C T, w.heap[b]? = some (.cells C T (0, 0)) ∧ ∀ i, i < 193 → C[o + i]? = (enc q)[i]?

/-- Only the cells of block b from o on, as many as a queue has, have turned. -/
structure Only (b o : Nat) (w w' : World) : Prop where
  os : w'.os = w.os
  tape : w'.tape = w.tape
  output : w'.output = w.output
  size : w'.heap.size = w.heap.size
  block : ∀ k, k ≠ b → w'.heap[k]? = w.heap[k]?
  rest : ∀ C T, w.heap[b]? = some (.cells C T (0, 0)) → ∃ C', w'.heap[b]? = some (.cells C' T (0, 0)) ∧ C'.size = C.size ∧ ∀ i, i < o ∨ o + 193 ≤ i → C'[i]? = C[i]?
theorem Only.refl (b o : Nat) (w : World) : Only b o w w := ⟨rfl, rfl, rfl, rfl, fun _ _ => rfl, fun C _ h => ⟨C, h, rfl, fun _ _ => rfl⟩⟩
theorem Only.trans {b o : Nat} {u v w : World} (h : Only b o u v) (k : Only b o v w) : Only b o u w := ⟨k.os.trans h.os, k.tape.trans h.tape, k.output.trans h.output, k.size.trans h.size, fun i hi => (k.block i hi).trans (h.block i hi), fun C T hC => by
  obtain ⟨C1, h1, h2, h3⟩ := h.rest C T hC
  obtain ⟨C2, k1, k2, k3⟩ := k.rest C1 T h1
  exact ⟨C2, k1, k2.trans h2, fun i hi => (k3 i hi).trans (h3 i hi)⟩⟩
theorem Only.drew (b o : Nat) (w : World) : Only b o w w.drew := ⟨rfl, rfl, rfl, rfl, fun _ _ => rfl, fun C _ h => ⟨C, h, rfl, fun _ _ => rfl⟩⟩
theorem Only.drewN (b o : Nat) (w : World) (n : Nat) : Only b o w (w.drewN n) := ⟨rfl, rfl, rfl, rfl, fun _ _ => rfl, fun C _ h => ⟨C, h, rfl, fun _ _ => rfl⟩⟩
theorem blk_set {w : World} {b : Nat} {C : Array Value} {T : TypeId} (h : w.heap[b]? = some (.cells C T (0, 0))) (i : Nat) (v : Value) : (w.setCell ⟨b, i, none⟩ v).heap[b]? = some (.cells (C.setIfInBounds i v) T (0, 0)) := by
  simp [World.setCell, Array.getElem?_modify, h]
theorem Only.setCell (b o : Nat) (w : World) (i : Nat) (v : Value) (hi : o ≤ i ∧ i < o + 193) : Only b o w (w.setCell ⟨b, i, none⟩ v) :=
  ⟨rfl, rfl, rfl, by simp [World.setCell], fun k hk => Below.heap_setCell _ _ _ _ hk, fun C T h => ⟨_, blk_set h i v, by simp, fun j hj => by rw [Array.getElem?_setIfInBounds_ne (by omega)]⟩⟩

section
variable {w : World} {b o : Nat} {q : Q}
theorem At.drew (h : At w b o q) : At w.drew b o q := h
theorem At.drewN (h : At w b o q) (n : Nat) : At (w.drewN n) b o q := h
theorem At.cell (h : At w b o q) (i : Nat) (hi : i < 193) : w.cell? ⟨b, o + i, none⟩ = (enc q)[i]? := by
  obtain ⟨C, T, h1, h2⟩ := h
  rw [← h2 i hi]
  simp [World.cell?, h1]
theorem At.many (h : At w b o q) : w.cell? ⟨b, o, none⟩ = some (.int .i64 q.many) := by have := h.cell 0 (by omega); rw [enc_many] at this; exact this
theorem At.heap (h : At w b o q) (i : Nat) (hi : i < 64) : w.cell? ⟨b, o + 1 + i, none⟩ = some (.int .i64 (q.heap i)) := by rw [Nat.add_assoc, h.cell _ (by omega), enc_heap q i hi]
theorem At.place (h : At w b o q) (i : Nat) (hi : i < 64) : w.cell? ⟨b, o + 65 + i, none⟩ = some (.int .i64 (q.place i)) := by rw [Nat.add_assoc, h.cell _ (by omega), enc_place q i hi]
theorem At.keys (h : At w b o q) (i : Nat) (hi : i < 64) : w.cell? ⟨b, o + 129 + i, none⟩ = some (.int .u64 (q.keys i)) := by rw [Nat.add_assoc, h.cell _ (by omega), enc_keys q i hi]
theorem At.frozen (h : At w b o q) (i : Nat) : w.frozen? ⟨b, i, none⟩ = false := by
  obtain ⟨C, T, h1, h2⟩ := h
  simp [World.frozen?, h1]
theorem At.set (h : At w b o q) (j : Nat) (v : Value) (q' : Q) (hj : j < 193) (he : (enc q).setIfInBounds j v = enc q') : At (w.setCell ⟨b, o + j, none⟩ v) b o q' := by
  obtain ⟨C, T, h1, h2⟩ := h
  refine ⟨_, T, blk_set h1 _ _, fun i hi => ?_⟩
  rw [← he]
  have hs : o + i < C.size := by
    have := h2 i hi
    have hi2 : i < (enc q).size := by rw [enc_size]; exact hi
    exact (Array.getElem?_eq_some_iff.1 (this.trans (Array.getElem?_eq_getElem hi2))).1
  by_cases e : i = j
  · subst e
    rw [Array.getElem?_setIfInBounds_self_of_lt hs, Array.getElem?_setIfInBounds_self_of_lt (by rw [enc_size]; exact hi)]
  · rw [Array.getElem?_setIfInBounds_ne (by omega), Array.getElem?_setIfInBounds_ne (by omega)]
    exact h2 i hi
theorem At.setMany (h : At w b o q) (n : Nat) : At (w.setCell ⟨b, o, none⟩ (.int .i64 n)) b o { q with many := n } := by
  refine h.set 0 _ _ (by omega) (enc_ext _ _ (by simp [enc_size]) ?_ ?_ ?_ ?_)
  · rw [Array.getElem?_setIfInBounds_self_of_lt (by rw [enc_size]; omega)]
  · intro i hi; rw [Array.getElem?_setIfInBounds_ne (by omega), enc_heap q i hi]
  · intro i hi; rw [Array.getElem?_setIfInBounds_ne (by omega), enc_place q i hi]
  · intro i hi; rw [Array.getElem?_setIfInBounds_ne (by omega), enc_keys q i hi]
theorem At.setHeap (h : At w b o q) (x n : Nat) (hx : x < 64) : At (w.setCell ⟨b, o + 1 + x, none⟩ (.int .i64 n)) b o { q with heap := Hp.upd q.heap x n } := by
  rw [Nat.add_assoc]
  refine h.set (1 + x) _ _ (by omega) (enc_ext _ _ (by simp [enc_size]) ?_ ?_ ?_ ?_)
  · rw [Array.getElem?_setIfInBounds_ne (by omega), enc_many]
  · intro i hi
    show _ = some (Value.int .i64 ((Hp.upd q.heap x n i : Nat) : Int))
    by_cases e : i = x
    · subst e; rw [Array.getElem?_setIfInBounds_self_of_lt (by rw [enc_size]; omega), Hp.upd_same]
    · rw [Array.getElem?_setIfInBounds_ne (by omega), enc_heap q i hi, Hp.upd_ne _ _ _ _ e]
  · intro i hi; rw [Array.getElem?_setIfInBounds_ne (by omega), enc_place q i hi]
  · intro i hi; rw [Array.getElem?_setIfInBounds_ne (by omega), enc_keys q i hi]
theorem At.setPlace (h : At w b o q) (x n : Nat) (hx : x < 64) : At (w.setCell ⟨b, o + 65 + x, none⟩ (.int .i64 n)) b o { q with place := Hp.upd q.place x n } := by
  rw [Nat.add_assoc]
  refine h.set (65 + x) _ _ (by omega) (enc_ext _ _ (by simp [enc_size]) ?_ ?_ ?_ ?_)
  · rw [Array.getElem?_setIfInBounds_ne (by omega), enc_many]
  · intro i hi; rw [Array.getElem?_setIfInBounds_ne (by omega), enc_heap q i hi]
  · intro i hi
    show _ = some (Value.int .i64 ((Hp.upd q.place x n i : Nat) : Int))
    by_cases e : i = x
    · subst e; rw [Array.getElem?_setIfInBounds_self_of_lt (by rw [enc_size]; omega), Hp.upd_same]
    · rw [Array.getElem?_setIfInBounds_ne (by omega), enc_place q i hi, Hp.upd_ne _ _ _ _ e]
  · intro i hi; rw [Array.getElem?_setIfInBounds_ne (by omega), enc_keys q i hi]
theorem At.setKeys (h : At w b o q) (x n : Nat) (hx : x < 64) : At (w.setCell ⟨b, o + 129 + x, none⟩ (.int .u64 n)) b o { q with keys := Hp.upd q.keys x n } := by
  rw [Nat.add_assoc]
  refine h.set (129 + x) _ _ (by omega) (enc_ext _ _ (by simp [enc_size]) ?_ ?_ ?_ ?_)
  · rw [Array.getElem?_setIfInBounds_ne (by omega), enc_many]
  · intro i hi; rw [Array.getElem?_setIfInBounds_ne (by omega), enc_heap q i hi]
  · intro i hi; rw [Array.getElem?_setIfInBounds_ne (by omega), enc_place q i hi]
  · intro i hi
    show _ = some (Value.int .u64 ((Hp.upd q.keys x n i : Nat) : Int))
    by_cases e : i = x
    · subst e; rw [Array.getElem?_setIfInBounds_self_of_lt (by rw [enc_size]; omega), Hp.upd_same]
    · rw [Array.getElem?_setIfInBounds_ne (by omega), enc_keys q i hi, Hp.upd_ne _ _ _ _ e]
end

/-- Is it a number that a queue can have? -/
def bnd (j : Int) : Bool := decide (0 ≤ j ∧ j < 64)
theorem bnd_true {j : Int} (h : 0 ≤ j) (h2 : j < 64) : bnd j = true := decide_eq_true ⟨h, h2⟩
theorem bnd_false {j : Int} (h : j < 0 ∨ 64 ≤ j) : bnd j = false := decide_eq_false (by omega)
theorem ret_bool {a b : Bool} (h : a = b) : Ending.returned (.bool a) = .returned (.bool b) := by rw [h]

set_option maxHeartbeats 400000 in
theorem bounded_any (j : Int) (w : World) : Calls Try.prog 76 #[.int .i64 j] w fun e w' => e = .returned (.bool (bnd j)) ∧ w' = w := by
  by_cases h : 0 ≤ j
  · by_cases h2 : j < 64
    · go_enter Try.func76, Try.ntmps76
      go_wp2
      go_ret
      exact ⟨ret_bool (bnd_true h h2).symm, rfl⟩
    · go_enter Try.func76, Try.ntmps76
      go_wp2
      go_ret
      exact ⟨ret_bool (bnd_false (by omega)).symm, rfl⟩
  · go_enter Try.func76, Try.ntmps76
    go_wp2
    go_ret
    exact ⟨ret_bool (bnd_false (by omega)).symm, rfl⟩

/-- Is a number in it? -/
def isin (q : Q) (j : Nat) : Bool := decide (0 < q.place j)

set_option maxHeartbeats 400000 in
theorem has_any (b o j : Nat) (q : Q) (w : World) (h : At w b o q) (hj : j < 64) : Calls Try.prog 77 #[.pointer (some ⟨b, o, none⟩), .int .i64 j] w fun e w' => e = .returned (.bool (isin q j)) ∧ w' = w := by
  have hc := h.place j hj
  have hlt : (j : Int) < 64 := by omega
  clear h
  go_enter Try.func77, Try.ntmps77
  go_wp2
  go_ret
  exact ⟨ret_bool (by simp [isin]), rfl⟩

set_option maxHeartbeats 400000 in
theorem set_any (b o x j : Nat) (q : Q) (w : World) (h : At w b o q) (hx : x < 64) (hj : j < 64) : Calls Try.prog 78 #[.pointer (some ⟨b, o, none⟩), .int .i64 x, .int .i64 j] w fun e w' => e = .returned (.tuple #[]) ∧ At w' b o (Hp.set q x j) ∧ Only b o w w' := by
  have hc := h.heap x hx
  have hc2 := h.place j hj
  have hf := h.frozen
  have hlt : (j : Int) < 64 := by omega
  have hlt2 : (x : Int) < 64 := by omega
  have H : Hid (At w b o q) := h
  clear h
  go_enter Try.func78, Try.ntmps78
  go_wp2
  go_end0
  exact ⟨rfl, (H.out.setHeap x j hx).setPlace j (x + 1) hj, (Only.setCell _ _ _ _ _ (by omega)).trans (Only.setCell _ _ _ _ _ (by omega))⟩

/-- Is the number at one index to come ahead of the one at another? -/
def ahB (q : Q) (x y : Nat) : Bool := decide (q.keys (q.heap x) < q.keys (q.heap y) ∨ (q.keys (q.heap x) = q.keys (q.heap y) ∧ q.heap x < q.heap y))
theorem ahB_iff (q : Q) (x y : Nat) : ahB q x y = true ↔ Hp.ah q.keys (q.heap x) (q.heap y) := by simp [ahB, Hp.ah]

set_option maxHeartbeats 400000 in
theorem ahead_any (b o x y : Nat) (q : Q) (w : World) (h : At w b o q) (hx : x < 64) (hy : y < 64) (hhx : q.heap x < 64) (hhy : q.heap y < 64) :
    Calls Try.prog 142 #[.pointer (some ⟨b, o, none⟩), .int .i64 x, .int .i64 y] w fun e w' => e = .returned (.bool (ahB q x y)) ∧ ∃ n, w' = w.drewN n := by
  have c1 := h.heap x hx
  have c2 := h.heap y hy
  have c3 := h.keys _ hhx
  have c4 := h.keys _ hhy
  have l1 : (x : Int) < 64 := by omega
  have l2 : (y : Int) < 64 := by omega
  have hA : ∀ r : Bool, (r = true ↔ Hp.ah q.keys (q.heap x) (q.heap y)) → r = ahB q x y := fun r hr => by rw [Bool.eq_iff_iff, hr, ahB_iff]
  clear h
  generalize hX : q.heap x = X at *
  generalize hY : q.heap y = Y at *
  generalize hKX : q.keys X = KX at *
  generalize hKY : q.keys Y = KY at *
  have l3 : (X : Int) < 64 := by omega
  have l4 : (Y : Int) < 64 := by omega
  have HA : Hid (∀ r : Bool, (r = true ↔ Hp.ah q.keys X Y) → r = ahB q x y) := hA
  have HKX : Hid (q.keys X = KX) := hKX
  have HKY : Hid (q.keys Y = KY) := hKY
  clear hA hX hY hKX hKY
  by_cases k1 : KX < KY
  · have d1 : decide ((KX : Int) < (KY : Int)) = true := by simp; omega
    go_enter Try.func142, Try.ntmps142
    go_wp2
    go_quiet (fail)
    go_wp2
    go_quiet (fail)
    go_wp2
    go_ret
    refine ⟨ret_bool (HA.out _ ?_), _, World.drewN_drewN _ _ _⟩
    unfold Hp.ah; rw [HKX.out, HKY.out]; simp; omega
  · have d1 : decide ((KX : Int) < (KY : Int)) = false := by simp; omega
    by_cases k2 : KX = KY
    · have d2 : ((KX : Int) == (KY : Int)) = true := by simp; omega
      go_enter Try.func142, Try.ntmps142
      go_wp2
      go_quiet (fail)
      go_wp2
      go_quiet (fail)
      go_wp2
      go_ret
      refine ⟨ret_bool (HA.out _ ?_), _, World.drewN_drewN _ _ _⟩
      unfold Hp.ah; rw [HKX.out, HKY.out]; simp; omega
    · have d2 : ((KX : Int) == (KY : Int)) = false := by simp; omega
      go_enter Try.func142, Try.ntmps142
      go_wp2
      go_quiet (fail)
      go_wp2
      go_quiet (fail)
      go_wp2
      go_ret
      refine ⟨ret_bool (HA.out _ ?_), _, World.drewN_drewN _ _ _⟩
      unfold Hp.ah; rw [HKX.out, HKY.out]; simp; omega

end Go.Proofs.Ytgabfkaadflciaa

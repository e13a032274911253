/- The walks of the document's own queue (package wardroomref): Is, Put, Of; and of same, SameNumbers, LightActs. -/
import Derived.Test.YtgabceeekkcekaaCut
import Derived.Test.YtgabceeekkcekaaTq
namespace Go.Proofs.Ytgabceeekkcekaa
open Go.RowKit
open Hp (Q)

/-- The cells of the document's own queue. -/
def encR (g : Nat → Bool) (f : Nat → Nat) : Array Value := ((List.range 64).map fun i => Value.bool (g i)).toArray ++ ((List.range 64).map fun i => Value.int .u64 (f i)).toArray
theorem encR_size (g : Nat → Bool) (f : Nat → Nat) : (encR g f).size = 128 := by simp [encR]
theorem encR_in (g : Nat → Bool) (f : Nat → Nat) (i : Nat) (h : i < 64) : (encR g f)[i]? = some (.bool (g i)) := by
  unfold encR
  rw [Array.getElem?_append_left (by simp; omega)]
  simp [h]
theorem encR_key (g : Nat → Bool) (f : Nat → Nat) (i : Nat) (h : i < 64) : (encR g f)[64 + i]? = some (.int .u64 (f i)) := by
  unfold encR
  rw [Array.getElem?_append_right (by simp)]
  simp [h]
theorem encR_ext (g : Nat → Bool) (f : Nat → Nat) (c : Array Value) (hs : c.size = 128) (h1 : ∀ i, i < 64 → c[i]? = some (.bool (g i))) (h2 : ∀ i, i < 64 → c[64 + i]? = some (.int .u64 (f i))) : c = encR g f := by
  apply Array.ext_getElem?
  intro j
  rcases Nat.lt_or_ge j 64 with hj | hj
  · rw [h1 j hj, encR_in g f j hj]
  · rcases Nat.lt_or_ge j 128 with hj1 | hj1
    · obtain ⟨i, rfl⟩ : ∃ i, j = 64 + i := ⟨j - 64, by omega⟩
      rw [h2 i (by omega), encR_key g f i (by omega)]
    · rw [Array.getElem?_eq_none (by omega), Array.getElem?_eq_none (by rw [encR_size]; omega)]

def RAt (w : World) (b : Nat) (g : Nat → Bool) (f : Nat → Nat) : Prop := w.heap[b]? = some (.cells (encR g f) 34 (0, 0))
theorem RAt.ins {w : World} {b : Nat} {g : Nat → Bool} {f : Nat → Nat} (h : RAt w b g f) (i : Nat) (hi : i < 64) : w.cell? ⟨b, i, none⟩ = some (.bool (g i)) := by rw [heap_cell h, encR_in g f i hi]
theorem RAt.key {w : World} {b : Nat} {g : Nat → Bool} {f : Nat → Nat} (h : RAt w b g f) (i : Nat) (hi : i < 64) : w.cell? ⟨b, 64 + i, none⟩ = some (.int .u64 (f i)) := by rw [heap_cell h, encR_key g f i hi]
theorem RAt.frozen {w : World} {b : Nat} {g : Nat → Bool} {f : Nat → Nat} (h : RAt w b g f) (o : Nat) : w.frozen? ⟨b, o, none⟩ = false := heap_frozen h o
theorem RAt.drewN {w : World} {b : Nat} {g : Nat → Bool} {f : Nat → Nat} (h : RAt w b g f) (n : Nat) : RAt (w.drewN n) b g f := h
theorem RAt.drew {w : World} {b : Nat} {g : Nat → Bool} {f : Nat → Nat} (h : RAt w b g f) : RAt w.drew b g f := h
theorem RAt.only {w w' : World} {b c : Nat} {g : Nat → Bool} {f : Nat → Nat} (h : RAt w b g f) (ho : Only c w w') (hne : b ≠ c) : RAt w' b g f := (ho.block b hne).trans h
theorem RAt.setIn {w : World} {b : Nat} {g : Nat → Bool} {f : Nat → Nat} (h : RAt w b g f) (x : Nat) (v : Bool) (hx : x < 64) : RAt (w.setCell ⟨b, x, none⟩ (.bool v)) b (updB g x v) f := by
  unfold RAt
  rw [heap_set h]
  refine congrArg (fun c => some (Obj.cells c 34 (0, 0))) ?_
  refine encR_ext _ _ _ (by simp [encR_size]) ?_ ?_
  · intro i hi
    by_cases e : i = x
    · subst e; rw [Array.getElem?_setIfInBounds_self_of_lt (by rw [encR_size]; omega)]; simp [updB]
    · rw [Array.getElem?_setIfInBounds_ne (by omega), encR_in g f i hi]; simp [updB, e]
  · intro i hi; rw [Array.getElem?_setIfInBounds_ne (by omega), encR_key g f i hi]
theorem RAt.setKey {w : World} {b : Nat} {g : Nat → Bool} {f : Nat → Nat} (h : RAt w b g f) (x v : Nat) (hx : x < 64) : RAt (w.setCell ⟨b, 64 + x, none⟩ (.int .u64 v)) b g (Hp.upd f x v) := by
  unfold RAt
  rw [heap_set h]
  refine congrArg (fun c => some (Obj.cells c 34 (0, 0))) ?_
  refine encR_ext _ _ _ (by simp [encR_size]) ?_ ?_
  · intro i hi; rw [Array.getElem?_setIfInBounds_ne (by omega), encR_in g f i hi]
  · intro i hi
    by_cases e : i = x
    · subst e; rw [Array.getElem?_setIfInBounds_self_of_lt (by rw [encR_size]; omega), Hp.upd_same]
    · rw [Array.getElem?_setIfInBounds_ne (by omega), encR_key g f i hi, Hp.upd_ne _ _ _ _ e]

set_option maxHeartbeats 400000 in
theorem ris_bad (b : Nat) (j : Int) (w : World) (hj : j < 0 ∨ 64 ≤ j) : Calls Try.prog 46 #[.pointer (some ⟨b, 0, none⟩), .int .i64 j] w fun e w' => e = .returned (.int .i64 1) ∧ w' = w := by
  by_cases h : j < 0
  · go_enter Try.func46, Try.ntmps46
    go_wp2
    go_ret
    exact ⟨rfl, rfl⟩
  · have h1 : decide (j < 0) = false := by simp; omega
    have h2 : 63 < j := by omega
    clear h hj
    go_enter Try.func46, Try.ntmps46
    go_wp2
    go_ret
    exact ⟨rfl, rfl⟩
set_option maxHeartbeats 400000 in
theorem ris_none (b j : Nat) (g : Nat → Bool) (f : Nat → Nat) (w : World) (h : RAt w b g f) (hj : j < 64) (hg : g j = false) : Calls Try.prog 46 #[.pointer (some ⟨b, 0, none⟩), .int .i64 j] w fun e w' => e = .returned (.int .i64 2) ∧ w' = w := by
  have c := h.ins j hj
  rw [hg] at c
  have h1 : (j : Int) < 64 := by omega
  have h2 : ¬ (63 : Int) < (j : Int) := by omega
  clear h hg
  go_enter Try.func46, Try.ntmps46
  go_wp2
  go_ret
  exact ⟨rfl, rfl⟩
set_option maxHeartbeats 400000 in
theorem ris_in (b j : Nat) (g : Nat → Bool) (f : Nat → Nat) (w : World) (h : RAt w b g f) (hj : j < 64) (hg : g j = true) : Calls Try.prog 46 #[.pointer (some ⟨b, 0, none⟩), .int .i64 j] w fun e w' => e = .returned (.int .i64 0) ∧ w' = w := by
  have c := h.ins j hj
  rw [hg] at c
  have h1 : (j : Int) < 64 := by omega
  have h2 : ¬ (63 : Int) < (j : Int) := by omega
  clear h hg
  go_enter Try.func46, Try.ntmps46
  go_wp2
  go_ret
  exact ⟨rfl, rfl⟩

set_option maxHeartbeats 400000 in
theorem rput_bad (b : Nat) (j k : Int) (w : World) (hj : j < 0 ∨ 64 ≤ j) : Calls Try.prog 11 #[.pointer (some ⟨b, 0, none⟩), .int .i64 j, .int .u64 k] w fun e w' => e = .returned (.int .i64 1) ∧ w' = w := by
  go_enter Try.func11, Try.ntmps11
  go_wp2_with fail
  refine (ris_bad b j _ hj).mono ?_
  rintro e w' ⟨rfl, rfl⟩
  go_wp2
  go_ret
  exact ⟨rfl, rfl⟩
set_option maxHeartbeats 400000 in
theorem rput_has (b j : Nat) (k : Int) (g : Nat → Bool) (f : Nat → Nat) (w : World) (h : RAt w b g f) (hj : j < 64) (hg : g j = true) : Calls Try.prog 11 #[.pointer (some ⟨b, 0, none⟩), .int .i64 j, .int .u64 k] w fun e w' => e = .returned (.int .i64 3) ∧ w' = w := by
  have H : Hid (RAt w b g f ∧ g j = true) := ⟨h, hg⟩
  clear h hg
  go_enter Try.func11, Try.ntmps11
  go_wp2_with fail
  refine (ris_in b j g f _ H.out.1 hj H.out.2).mono ?_
  rintro e w' ⟨rfl, rfl⟩
  go_wp2
  go_ret
  exact ⟨rfl, rfl⟩
set_option maxHeartbeats 400000 in
theorem rput_new (b j k : Nat) (g : Nat → Bool) (f : Nat → Nat) (w : World) (h : RAt w b g f) (hj : j < 64) (hg : g j = false) : Calls Try.prog 11 #[.pointer (some ⟨b, 0, none⟩), .int .i64 j, .int .u64 k] w fun e w' => e = .returned (.int .i64 0) ∧ Only b w w' ∧ RAt w' b (updB g j true) (Hp.upd f j k) := by
  have c1 := h.ins j hj
  have c2 := h.key j hj
  have cf := h.frozen
  have h1 : (j : Int) < 64 := by omega
  have H : Hid (RAt w b g f ∧ g j = false) := ⟨h, hg⟩
  clear h hg
  go_enter Try.func11, Try.ntmps11
  go_wp2_with fail
  refine (ris_none b j g f _ H.out.1 hj H.out.2).mono ?_
  rintro e w' ⟨rfl, rfl⟩
  go_wp2
  go_ret
  exact ⟨rfl, (Only.setCell b _ _ _).trans (Only.setCell b _ _ _), (H.out.1.setIn j true hj).setKey j k hj⟩

set_option maxHeartbeats 400000 in
theorem rof_bad (b : Nat) (j : Int) (c : Bool) (w : World) (hj : j < 0 ∨ 64 ≤ j) : Calls Try.prog 13 #[.pointer (some ⟨b, 0, none⟩), .int .i64 j, .bool c] w fun e w' => e = .returned (.tuple #[.int .u64 0, .int .i64 1]) ∧ w' = w := by
  go_enter Try.func13, Try.ntmps13
  go_wp2_with fail
  refine (ris_bad b j _ hj).mono ?_
  rintro e w' ⟨rfl, rfl⟩
  go_wp2
  go_ret2
  exact ⟨rfl, rfl⟩
set_option maxHeartbeats 400000 in
theorem rof_none (b j : Nat) (c : Bool) (g : Nat → Bool) (f : Nat → Nat) (w : World) (h : RAt w b g f) (hj : j < 64) (hg : g j = false) : Calls Try.prog 13 #[.pointer (some ⟨b, 0, none⟩), .int .i64 j, .bool c] w fun e w' => e = .returned (.tuple #[.int .u64 0, .int .i64 2]) ∧ w' = w := by
  have H : Hid (RAt w b g f ∧ g j = false) := ⟨h, hg⟩
  clear h hg
  go_enter Try.func13, Try.ntmps13
  go_wp2_with fail
  refine (ris_none b j g f _ H.out.1 hj H.out.2).mono ?_
  rintro e w' ⟨rfl, rfl⟩
  go_wp2
  go_ret2
  exact ⟨rfl, rfl⟩
set_option maxHeartbeats 400000 in
theorem rof_key (b j : Nat) (g : Nat → Bool) (f : Nat → Nat) (w : World) (h : RAt w b g f) (hj : j < 64) (hg : g j = true) : Calls Try.prog 13 #[.pointer (some ⟨b, 0, none⟩), .int .i64 j, .bool false] w fun e w' => e = .returned (.tuple #[.int .u64 (f j), .int .i64 0]) ∧ w' = w := by
  have c2 := h.key j hj
  have h1 : (j : Int) < 64 := by omega
  have H : Hid (RAt w b g f ∧ g j = true) := ⟨h, hg⟩
  clear h hg
  go_enter Try.func13, Try.ntmps13
  go_wp2_with fail
  refine (ris_in b j g f _ H.out.1 hj H.out.2).mono ?_
  rintro e w' ⟨rfl, rfl⟩
  go_wp2
  go_ret2
  exact ⟨rfl, rfl⟩
set_option maxHeartbeats 400000 in
theorem rof_cut (b j : Nat) (g : Nat → Bool) (f : Nat → Nat) (w : World) (h : RAt w b g f) (hj : j < 64) (hg : g j = true) : Calls Try.prog 13 #[.pointer (some ⟨b, 0, none⟩), .int .i64 j, .bool true] w fun e w' => e = .returned (.tuple #[.int .u64 (f j), .int .i64 0]) ∧ Only b w w' ∧ RAt w' b (updB g j false) f := by
  have c1 := h.ins j hj
  have c2 := h.key j hj
  have cf := h.frozen
  have h1 : (j : Int) < 64 := by omega
  have H : Hid (RAt w b g f ∧ g j = true) := ⟨h, hg⟩
  clear h hg
  go_enter Try.func13, Try.ntmps13
  go_wp2_with fail
  refine (ris_in b j g f _ H.out.1 hj H.out.2).mono ?_
  rintro e w' ⟨rfl, rfl⟩
  go_wp2
  go_ret2
  exact ⟨rfl, Only.setCell b _ _ _, H.out.1.setIn j false hj⟩

/-! ### same, SameNumbers, LightActs -/
theorem assert81 (n : Int) (w : World) : (Instr.typeAssert (.iface 81 (.int .i64 n)) 39 81 true).run Try.prog w = .ok (.tuple #[.int .i64 n, .bool true]) w := by kernel_rfl
set_option maxHeartbeats 400000 in
theorem same_nil (w : World) : Calls Try.prog 9 #[.nilIface, .int .i64 0] w fun e w' => e = .returned (.bool true) ∧ w' = w := by
  go_enter Try.func9, Try.ntmps9
  go_wp2
  go_ret
  exact ⟨rfl, rfl⟩
set_option maxHeartbeats 400000 in
theorem same_err (n : Int) (h : 0 < n) (w : World) : Calls Try.prog 9 #[.iface 81 (.int .i64 n), .int .i64 n] w fun e w' => e = .returned (.bool true) ∧ w' = w := by
  have ha := assert81 n
  go_enter Try.func9, Try.ntmps9
  go_wp2
  go_ret
  exact ⟨rfl, rfl⟩
set_option maxHeartbeats 400000 in
theorem light_any (a : Option Addr) (n c : Nat) (m : Int) (w : World) : Calls Try.prog 8 #[.slice a n c, .int .i64 m] w fun e w' => e = .returned (.bool (decide ((n : Int) ≤ m))) ∧ w' = w := by
  go_enter Try.func8, Try.ntmps8
  go_wp2
  go_ret
  exact ⟨rfl, rfl⟩

theorem sameNumbers_none (a1 a2 : Option Addr) (c1 c2 : Nat) (w : World) :
    Calls Try.prog 15 #[.slice a1 0 c1, .slice a2 0 c2] w fun e w' => e = .returned (.bool true) ∧ ∃ k, w' = w.drewN k := by
  go_enter Try.func15, Try.ntmps15
  go_wp2
  refine wp_loop_rounds 1 ?_
  rw [rounds_succ]
  go_wp2
  go_ret
  exact ⟨rfl, 0, rfl⟩
theorem sameNumbers_some (b1 b2 o1 o2 n c1 c2 : Nat) (f : Nat → Int) (hn : n < 1000000) (w : World) (h1 : ∀ i, i < n → w.cell? ⟨b1, o1 + i, none⟩ = some (.int .i64 (f i))) (h2 : ∀ i, i < n → w.cell? ⟨b2, o2 + i, none⟩ = some (.int .i64 (f i))) :
    Calls Try.prog 15 #[.slice (some ⟨b1, o1, none⟩) n c1, .slice (some ⟨b2, o2, none⟩) n c2] w fun e w' => e = .returned (.bool true) ∧ ∃ k, w' = w.drewN k := by
  go_enter Try.func15, Try.ntmps15
  go_wp2
  go_loopw [5] (fun i wr => ∃ (k nq : Nat), k ≤ n ∧ i = .int .i64 k ∧ wr = w.drewN nq) (fun i _ => n - (intOf i).toNat)
  case atStart => exact ⟨0, 0, Nat.zero_le _, rfl, rfl⟩
  case round =>
    obtain ⟨k, nq, hk, rfl, rfl⟩ := hrel
    by_cases hlt : k < n
    · have g1 := h1 k hlt
      have g2 := h2 k hlt
      have hlt' : (k : Int) < (n : Int) := by omega
      clear h1 h2
      go_wp2
      go_quiet (fail)
      go_wp2
      go_roundw
      case rel => exact ⟨k + 1, _, by omega, by go_num, rfl⟩
      case measure => simp [intOf]; omega
    · go_wp2
      go_ret
      exact ⟨rfl, _, rfl⟩
end Go.Proofs.Ytgabceeekkcekaa

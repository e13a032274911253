/- The document's own sched in memory; Ready. -/
import Derived.Test.YtgabfkaadflciaaAr
import Derived.Test.YtgabfkaadflciaaSy
namespace Go.Proofs.Ytgabfkaadflciaa
open Go.RowKit
open Fr (Un M)

/-- The cells of a unit. -/
def refC (x : Un) : Nat → Value
  | 0 => .bool x.here
  | 1 => .bool x.awake
  | 2 => .bool x.frozen
  | 3 => .bool x.was
  | 4 => .int .i64 x.inn
  | 5 => .int .i64 (x.weight : Int)
  | 6 => .int .i64 (x.ran : Int)
  | 7 => .int .i64 (x.time : Int)
  | 8 => .int .i64 (x.floor : Int)
  | 9 => .int .i64 (x.quota : Int)
  | 10 => .int .i64 (x.period : Int)
  | _ => .int .i64 (x.used : Int)
structure RAt (w : World) (b : Nat) (m : M) : Prop where
  blk : ∃ C, w.heap[b]? = some (.cells C 90 (0, 0)) ∧ C.size = 361
  cell : ∀ u f, u < 30 → f < 12 → w.cell? ⟨b, u * 12 + f, none⟩ = some (refC (m.u u) f)
  now : w.cell? ⟨b, 360, none⟩ = some (.int .i64 (m.now : Int))
section
variable {w w' : World} {b : Nat} {m : M}
theorem RAt.drewN (h : RAt w b m) (n : Nat) : RAt (w.drewN n) b m := ⟨h.blk, h.cell, h.now⟩
theorem RAt.drew (h : RAt w b m) : RAt w.drew b m := ⟨h.blk, h.cell, h.now⟩
theorem RAt.frozen (h : RAt w b m) (o : Nat) : w.frozen? ⟨b, o, none⟩ = false := by obtain ⟨C, h1, _⟩ := h.blk; exact frozen_blk h1 o
theorem RAt.lt (h : RAt w b m) : b < w.heap.size := by obtain ⟨C, h1, _⟩ := h.blk; exact (Array.getElem?_eq_some_iff.1 h1).1
theorem RAt.same (h : RAt w b m) (e : w'.heap[b]? = w.heap[b]?) : RAt w' b m := by
  have hc : ∀ o, w'.cell? ⟨b, o, none⟩ = w.cell? ⟨b, o, none⟩ := fun o => World.cell?_of_block e
  exact ⟨by rw [e]; exact h.blk, fun u f hu hf => by rw [hc]; exact h.cell u f hu hf, by rw [hc]; exact h.now⟩
theorem RAt.below (h : RAt w b m) (k : Below w.heap.size w w') : RAt w' b m := h.same (k.block b h.lt)
theorem RAt.set (h : RAt w b m) (u f : Nat) (hu : u < 30) (hf : f < 12) (v : Value) (x : Un) (hv : ∀ k, k < 12 → refC x k = if k = f then v else refC (m.u u) k) : RAt (w.setCell ⟨b, u * 12 + f, none⟩ v) b (m.set u x) := by
  obtain ⟨C, h1, h2⟩ := h.blk
  have hn : ∀ j, u * 12 + f ≠ j → (w.setCell ⟨b, u * 12 + f, none⟩ v).cell? ⟨b, j, none⟩ = w.cell? ⟨b, j, none⟩ := fun j e => cell_set_ne h1 _ _ v e
  refine ⟨⟨_, blk_set h1 _ v, by simpa using h2⟩, fun k i hk hi => ?_, by rw [hn _ (by omega)]; exact h.now⟩
  by_cases e : k = u
  · subst e
    rw [Fr.set_same, hv i hi]
    by_cases e2 : i = f
    · subst e2; rw [cell_set_same h1 _ v (by omega), if_pos rfl]
    · rw [hn _ (by omega), if_neg e2]; exact h.cell k i hk hi
  · rw [hn _ (by omega), Fr.set_ne _ _ _ _ e]; exact h.cell k i hk hi
theorem RAt.setNow (h : RAt w b m) (n : Nat) : RAt (w.setCell ⟨b, 360, none⟩ (.int .i64 (n : Int))) b { m with now := n } := by
  obtain ⟨C, h1, h2⟩ := h.blk
  have hn : ∀ j, 360 ≠ j → (w.setCell ⟨b, 360, none⟩ (.int .i64 (n : Int))).cell? ⟨b, j, none⟩ = w.cell? ⟨b, j, none⟩ := fun j e => cell_set_ne h1 _ _ _ e
  exact ⟨⟨_, blk_set h1 _ _, by simpa using h2⟩, fun k i hk hi => by rw [hn _ (by omega)]; exact h.cell k i hk hi, cell_set_same h1 _ _ (by omega)⟩
end
theorem twelve {P : Nat → Prop} (h0 : P 0) (h1 : P 1) (h2 : P 2) (h3 : P 3) (h4 : P 4) (h5 : P 5) (h6 : P 6) (h7 : P 7) (h8 : P 8) (h9 : P 9) (ha : P 10) (hb : P 11) : ∀ k, k < 12 → P k
  | 0, _ => h0 | 1, _ => h1 | 2, _ => h2 | 3, _ => h3 | 4, _ => h4 | 5, _ => h5 | 6, _ => h6 | 7, _ => h7 | 8, _ => h8 | 9, _ => h9 | 10, _ => ha | 11, _ => hb | k + 12, h => absurd h (by omega)
section
variable {w : World} {b : Nat} {m : M}
theorem RAt.setAwake (h : RAt w b m) (u : Nat) (x : Bool) (hu : u < 30) : RAt (w.setCell ⟨b, u * 12 + 1, none⟩ (.bool x)) b (m.set u { m.u u with awake := x }) := h.set u 1 hu (by omega) _ _ (twelve rfl rfl rfl rfl rfl rfl rfl rfl rfl rfl rfl rfl)
theorem RAt.setFrozen (h : RAt w b m) (u : Nat) (x : Bool) (hu : u < 30) : RAt (w.setCell ⟨b, u * 12 + 2, none⟩ (.bool x)) b (m.set u { m.u u with frozen := x }) := h.set u 2 hu (by omega) _ _ (twelve rfl rfl rfl rfl rfl rfl rfl rfl rfl rfl rfl rfl)
theorem RAt.setWas (h : RAt w b m) (u : Nat) (x : Bool) (hu : u < 30) : RAt (w.setCell ⟨b, u * 12 + 3, none⟩ (.bool x)) b (m.set u { m.u u with was := x }) := h.set u 3 hu (by omega) _ _ (twelve rfl rfl rfl rfl rfl rfl rfl rfl rfl rfl rfl rfl)
theorem RAt.setRan (h : RAt w b m) (u x : Nat) (hu : u < 30) : RAt (w.setCell ⟨b, u * 12 + 6, none⟩ (.int .i64 (x : Int))) b (m.set u { m.u u with ran := x }) := h.set u 6 hu (by omega) _ _ (twelve rfl rfl rfl rfl rfl rfl rfl rfl rfl rfl rfl rfl)
theorem RAt.setTime (h : RAt w b m) (u x : Nat) (hu : u < 30) : RAt (w.setCell ⟨b, u * 12 + 7, none⟩ (.int .i64 (x : Int))) b (m.set u { m.u u with time := x }) := h.set u 7 hu (by omega) _ _ (twelve rfl rfl rfl rfl rfl rfl rfl rfl rfl rfl rfl rfl)
theorem RAt.setFloor (h : RAt w b m) (u x : Nat) (hu : u < 30) : RAt (w.setCell ⟨b, u * 12 + 8, none⟩ (.int .i64 (x : Int))) b (m.set u { m.u u with floor := x }) := h.set u 8 hu (by omega) _ _ (twelve rfl rfl rfl rfl rfl rfl rfl rfl rfl rfl rfl rfl)
theorem RAt.setQuota (h : RAt w b m) (u x : Nat) (hu : u < 30) : RAt (w.setCell ⟨b, u * 12 + 9, none⟩ (.int .i64 (x : Int))) b (m.set u { m.u u with quota := x }) := h.set u 9 hu (by omega) _ _ (twelve rfl rfl rfl rfl rfl rfl rfl rfl rfl rfl rfl rfl)
theorem RAt.setPeriod (h : RAt w b m) (u x : Nat) (hu : u < 30) : RAt (w.setCell ⟨b, u * 12 + 10, none⟩ (.int .i64 (x : Int))) b (m.set u { m.u u with period := x }) := h.set u 10 hu (by omega) _ _ (twelve rfl rfl rfl rfl rfl rfl rfl rfl rfl rfl rfl rfl)
theorem RAt.setUsed (h : RAt w b m) (u x : Nat) (hu : u < 30) : RAt (w.setCell ⟨b, u * 12 + 11, none⟩ (.int .i64 (x : Int))) b (m.set u { m.u u with used := x }) := h.set u 11 hu (by omega) _ _ (twelve rfl rfl rfl rfl rfl rfl rfl rfl rfl rfl rfl rfl)
/-- The cells of a unit, all told. -/
structure Cells (w : World) (b u : Nat) (x : Un) : Prop where
  c0 : w.cell? ⟨b, u * 12, none⟩ = some (.bool x.here)
  c1 : w.cell? ⟨b, u * 12 + 1, none⟩ = some (.bool x.awake)
  c2 : w.cell? ⟨b, u * 12 + 2, none⟩ = some (.bool x.frozen)
  c3 : w.cell? ⟨b, u * 12 + 3, none⟩ = some (.bool x.was)
  c4 : w.cell? ⟨b, u * 12 + 4, none⟩ = some (.int .i64 x.inn)
  c5 : w.cell? ⟨b, u * 12 + 5, none⟩ = some (.int .i64 (x.weight : Int))
  c6 : w.cell? ⟨b, u * 12 + 6, none⟩ = some (.int .i64 (x.ran : Int))
  c7 : w.cell? ⟨b, u * 12 + 7, none⟩ = some (.int .i64 (x.time : Int))
  c8 : w.cell? ⟨b, u * 12 + 8, none⟩ = some (.int .i64 (x.floor : Int))
  c9 : w.cell? ⟨b, u * 12 + 9, none⟩ = some (.int .i64 (x.quota : Int))
  ca : w.cell? ⟨b, u * 12 + 10, none⟩ = some (.int .i64 (x.period : Int))
  cb : w.cell? ⟨b, u * 12 + 11, none⟩ = some (.int .i64 (x.used : Int))
theorem RAt.cells (h : RAt w b m) (u : Nat) (hu : u < 30) : Cells w b u (m.u u) :=
  ⟨h.cell u 0 hu (by omega), h.cell u 1 hu (by omega), h.cell u 2 hu (by omega), h.cell u 3 hu (by omega), h.cell u 4 hu (by omega), h.cell u 5 hu (by omega), h.cell u 6 hu (by omega), h.cell u 7 hu (by omega), h.cell u 8 hu (by omega), h.cell u 9 hu (by omega), h.cell u 10 hu (by omega), h.cell u 11 hu (by omega)⟩
end

set_option maxRecDepth 100000 in
set_option maxHeartbeats 1000000 in
theorem rready_task (b u : Nat) (m : M) (w : World) (h : RAt w b m) (h10 : 10 ≤ u) (hu : u < 30) :
    Calls Try.prog 156 #[.pointer (some ⟨b, 0, none⟩), .int .i64 u] w fun e w' => e = .returned (.bool (Fr.ready m u)) ∧ Below w.heap.size w w' := by
  have e : Hid (Fr.ready m u = (m.u u).awake) := Hid.intro (by unfold Fr.ready; rw [if_pos h10])
  obtain ⟨c0, c1, c2, c3, c4, c5, c6, c7, c8, c9, ca, cb⟩ := h.cells u hu
  have hl := h.lt
  have huI : (u : Int) < 30 := by omega
  have k : (9 : Int) < (u : Int) := by omega
  clear h
  go_enter Try.func156, Try.ntmps156
  go_wp2
  go_ret
  exact ⟨ret_bool e.out.symm, (Below.refl _ _).alloc (Nat.le_refl _) _⟩

end Go.Proofs.Ytgabfkaadflciaa

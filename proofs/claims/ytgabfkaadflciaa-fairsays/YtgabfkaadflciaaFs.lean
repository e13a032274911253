/- A sched in memory: its cells; what a store turns. -/
import Derived.Test.YtgabfkaadflciaaQc
import Derived.Test.YtgabfkaadflciaaFm
namespace Go.Proofs.Ytgabfkaadflciaa
open Go.RowKit
open Hp (Q)
open Fr (Un M)

/-- Only block b has turned, of those that were there. -/
structure Frm (b : Nat) (w w' : World) : Prop where
  os : w'.os = w.os
  tape : w'.tape = w.tape
  output : w'.output = w.output
  size : w.heap.size ≤ w'.heap.size
  block : ∀ k, k < w.heap.size → k ≠ b → w'.heap[k]? = w.heap[k]?
theorem Frm.of_below {b : Nat} {w w' : World} (h : Below w.heap.size w w') : Frm b w w' := ⟨h.os, h.tape, h.output, h.size, fun k hk _ => h.block k hk⟩
theorem Frm.refl (b : Nat) (w : World) : Frm b w w := ⟨rfl, rfl, rfl, Nat.le_refl _, fun _ _ _ => rfl⟩
theorem Frm.trans {b : Nat} {u v w : World} (h : Frm b u v) (k : Frm b v w) : Frm b u w :=
  ⟨k.os.trans h.os, k.tape.trans h.tape, k.output.trans h.output, Nat.le_trans h.size k.size, fun j hj hn => (k.block j (Nat.lt_of_lt_of_le hj h.size) hn).trans (h.block j hj hn)⟩
theorem setBlk {W : World} (b c o : Nat) (v : Value) (h : b ≠ c) : (W.setCell ⟨c, o, none⟩ v).heap[b]? = W.heap[b]? := Below.heap_setCell _ _ _ _ h
theorem Frm.setCell {b : Nat} {u w : World} (h : Frm b u w) (o : Nat) (v : Value) : Frm b u (w.setCell ⟨b, o, none⟩ v) :=
  ⟨h.os, h.tape, h.output, by simpa [World.setCell] using h.size, fun k hk hn => (setBlk _ _ _ _ hn).trans (h.block k hk hn)⟩
theorem Frm.drew {b : Nat} {u w : World} (h : Frm b u w) : Frm b u w.drew := ⟨h.os, h.tape, h.output, h.size, h.block⟩
theorem Frm.drewN {b : Nat} {u w : World} (h : Frm b u w) (n : Nat) : Frm b u (w.drewN n) := ⟨h.os, h.tape, h.output, h.size, h.block⟩
theorem Frm.below {b B : Nat} {u w w' : World} (h : Frm b w w') (hb : Below B u w) (hB : B ≤ b) (hs : B ≤ w.heap.size) : Below B u w' :=
  hb.trans ⟨h.os, h.tape, h.output, h.size, fun k hk => h.block k (by omega) (by omega)⟩
theorem Only.frm {b o : Nat} {w w' : World} (h : Only b o w w') : Frm b w w' := ⟨h.os, h.tape, h.output, by rw [h.size]; exact Nat.le_refl _, fun k _ hn => h.block k hn⟩

/-- The cells of a unit, of a group, of a task. -/
def unitC (u : Nat) (x : Un) : Nat → Value
  | 0 => .bool x.here
  | 1 => .int .i64 x.inn
  | 2 => .int .u64 ((if u = 0 then 0 else x.weight : Nat) : Int)
  | _ => .int .u64 (x.time : Int)
def grpC (x : Un) : Nat → Value
  | 0 => .int .u64 (x.floor : Int)
  | 1 => .bool x.frozen
  | 2 => .int .i64 (x.quota : Int)
  | 3 => .int .i64 (x.period : Int)
  | _ => .int .i64 (x.used : Int)
def taskC (x : Un) : Nat → Value
  | 0 => .bool x.awake
  | _ => .int .i64 (x.ran : Int)

/-- The sched m lies in block b, its queues are qs. -/
structure SAt (w : World) (b : Nat) (m : M) (qs : Nat → Q) : Prop where
  blk : ∃ C, w.heap[b]? = some (.cells C 150 (0, 0)) ∧ C.size = 2141
  now : w.cell? ⟨b, 0, none⟩ = some (.int .i64 (m.now : Int))
  unit : ∀ u f, u < 30 → f < 4 → w.cell? ⟨b, 1 + u * 4 + f, none⟩ = some (unitC u (m.u u) f)
  que : ∀ g i, g < 10 → i < 193 → w.cell? ⟨b, 121 + g * 198 + i, none⟩ = (enc (qs g))[i]?
  grp : ∀ g f, g < 10 → f < 5 → w.cell? ⟨b, 121 + g * 198 + (193 + f), none⟩ = some (grpC (m.u g) f)
  task : ∀ n f, n < 20 → f < 2 → w.cell? ⟨b, 2101 + n * 2 + f, none⟩ = some (taskC (m.u (10 + n)) f)

theorem cell_blk {w : World} {b : Nat} {C : Array Value} {T : TypeId} (h : w.heap[b]? = some (.cells C T (0, 0))) (o : Nat) : w.cell? ⟨b, o, none⟩ = C[o]? := by simp [World.cell?, h]
theorem frozen_blk {w : World} {b : Nat} {C : Array Value} {T : TypeId} (h : w.heap[b]? = some (.cells C T (0, 0))) (o : Nat) : w.frozen? ⟨b, o, none⟩ = false := by simp [World.frozen?, h]
theorem cell_set_ne {w : World} {b : Nat} {C : Array Value} {T : TypeId} (h : w.heap[b]? = some (.cells C T (0, 0))) (i j : Nat) (v : Value) (e : i ≠ j) : (w.setCell ⟨b, i, none⟩ v).cell? ⟨b, j, none⟩ = w.cell? ⟨b, j, none⟩ := by
  rw [cell_blk (blk_set h i v), cell_blk h, Array.getElem?_setIfInBounds_ne e]
theorem cell_set_same {w : World} {b : Nat} {C : Array Value} {T : TypeId} (h : w.heap[b]? = some (.cells C T (0, 0))) (i : Nat) (v : Value) (hi : i < C.size) : (w.setCell ⟨b, i, none⟩ v).cell? ⟨b, i, none⟩ = some v := by
  rw [cell_blk (blk_set h i v), Array.getElem?_setIfInBounds_self_of_lt hi]

section
variable {w : World} {b : Nat} {m : M} {qs : Nat → Q}
theorem SAt.drew (h : SAt w b m qs) : SAt w.drew b m qs := ⟨h.blk, h.now, h.unit, h.que, h.grp, h.task⟩
theorem SAt.drewN (h : SAt w b m qs) (n : Nat) : SAt (w.drewN n) b m qs := ⟨h.blk, h.now, h.unit, h.que, h.grp, h.task⟩
theorem SAt.frozen (h : SAt w b m qs) (o : Nat) : w.frozen? ⟨b, o, none⟩ = false := by obtain ⟨C, h1, _⟩ := h.blk; exact frozen_blk h1 o
theorem SAt.lt (h : SAt w b m qs) : b < w.heap.size := by obtain ⟨C, h1, _⟩ := h.blk; exact (Array.getElem?_eq_some_iff.1 h1).1
theorem SAt.same {w' : World} (h : SAt w b m qs) (e : w'.heap[b]? = w.heap[b]?) : SAt w' b m qs := by
  have hc : ∀ o, w'.cell? ⟨b, o, none⟩ = w.cell? ⟨b, o, none⟩ := fun o => World.cell?_of_block e
  exact ⟨by rw [e]; exact h.blk, by rw [hc]; exact h.now, fun u f hu hf => by rw [hc]; exact h.unit u f hu hf, fun g i hg hi => by rw [hc]; exact h.que g i hg hi, fun g f hg hf => by rw [hc]; exact h.grp g f hg hf, fun n f hn hf => by rw [hc]; exact h.task n f hn hf⟩
theorem SAt.at_ (h : SAt w b m qs) (g : Nat) (hg : g < 10) : At w b (121 + g * 198) (qs g) := by
  obtain ⟨C, h1, _⟩ := h.blk
  refine ⟨C, _, h1, fun i hi => ?_⟩
  rw [← cell_blk h1]
  exact h.que g i hg hi
/-- A queue has turned. -/
theorem SAt.queue {w' : World} {q' : Q} {g : Nat} (h : SAt w b m qs) (hg : g < 10) (o : Only b (121 + g * 198) w w') (ha : At w' b (121 + g * 198) q') : SAt w' b m (fun k => if k = g then q' else qs k) := by
  obtain ⟨C, h1, h2⟩ := h.blk
  obtain ⟨C', k1, k2, k3⟩ := o.rest C _ h1
  have hc : ∀ i, i < 121 + g * 198 ∨ 121 + g * 198 + 193 ≤ i → w'.cell? ⟨b, i, none⟩ = w.cell? ⟨b, i, none⟩ := fun i hi => by rw [cell_blk k1, cell_blk h1, k3 i hi]
  refine ⟨⟨C', k1, by omega⟩, by rw [hc 0 (by omega)]; exact h.now, fun u f hu hf => by rw [hc _ (by omega)]; exact h.unit u f hu hf, fun k i hk hi => ?_, fun k f hk hf => by rw [hc _ (by omega)]; exact h.grp k f hk hf, fun n f hn hf => by rw [hc _ (by omega)]; exact h.task n f hn hf⟩
  by_cases e : k = g
  · subst e; simp only [if_true]; exact ha.cell i hi
  · rw [hc _ (by omega)]; simp only [e, if_false]; exact h.que k i hk hi
/-- A cell of a unit has turned. -/
theorem SAt.setUnit (h : SAt w b m qs) (u f : Nat) (hu : u < 30) (hf : f < 4) (v : Value) (x : Un) (hv : ∀ k, k < 4 → unitC u x k = if k = f then v else unitC u (m.u u) k) (hg : ∀ k, grpC x k = grpC (m.u u) k) (ht : ∀ k, taskC x k = taskC (m.u u) k) :
    SAt (w.setCell ⟨b, 1 + u * 4 + f, none⟩ v) b (m.set u x) qs := by
  obtain ⟨C, h1, h2⟩ := h.blk
  have hn : ∀ j, 1 + u * 4 + f ≠ j → (w.setCell ⟨b, 1 + u * 4 + f, none⟩ v).cell? ⟨b, j, none⟩ = w.cell? ⟨b, j, none⟩ := fun j e => cell_set_ne h1 _ _ v e
  refine ⟨⟨_, blk_set h1 _ v, by simpa using h2⟩, by rw [hn 0 (by omega)]; exact h.now, fun k i hk hi => ?_, fun g i hg hi => by rw [hn _ (by omega)]; exact h.que g i hg hi, fun g i hg' hi => ?_, fun n i hn' hi => ?_⟩
  · by_cases e : k = u
    · subst e
      rw [Fr.set_same, hv i hi]
      by_cases e2 : i = f
      · subst e2; rw [cell_set_same h1 _ v (by omega), if_pos rfl]
      · rw [hn _ (by omega), if_neg e2]; exact h.unit k i hk hi
    · rw [hn _ (by omega), Fr.set_ne _ _ _ _ e]; exact h.unit k i hk hi
  · rw [hn _ (by omega), h.grp g i hg' hi]
    by_cases e : g = u
    · subst e; rw [Fr.set_same, hg]
    · rw [Fr.set_ne _ _ _ _ e]
  · rw [hn _ (by omega), h.task n i hn' hi]
    by_cases e : 10 + n = u
    · subst e; rw [Fr.set_same, ht]
    · rw [Fr.set_ne _ _ _ _ e]
/-- A cell of a group has turned. -/
theorem SAt.setGrp (h : SAt w b m qs) (g f : Nat) (hg : g < 10) (hf : f < 5) (v : Value) (x : Un) (hv : ∀ k, k < 5 → grpC x k = if k = f then v else grpC (m.u g) k) (hx : ∀ k, unitC g x k = unitC g (m.u g) k) :
    SAt (w.setCell ⟨b, 121 + g * 198 + (193 + f), none⟩ v) b (m.set g x) qs := by
  obtain ⟨C, h1, h2⟩ := h.blk
  have hn : ∀ j, 121 + g * 198 + (193 + f) ≠ j → (w.setCell ⟨b, 121 + g * 198 + (193 + f), none⟩ v).cell? ⟨b, j, none⟩ = w.cell? ⟨b, j, none⟩ := fun j e => cell_set_ne h1 _ _ v e
  refine ⟨⟨_, blk_set h1 _ v, by simpa using h2⟩, by rw [hn 0 (by omega)]; exact h.now, fun k i hk hi => ?_, fun k i hk hi => by rw [hn _ (by omega)]; exact h.que k i hk hi, fun k i hk hi => ?_, fun n i hn' hi => ?_⟩
  · rw [hn _ (by omega), h.unit k i hk hi]
    by_cases e : k = g
    · subst e; rw [Fr.set_same, hx]
    · rw [Fr.set_ne _ _ _ _ e]
  · by_cases e : k = g
    · subst e
      rw [Fr.set_same, hv i hi]
      by_cases e2 : i = f
      · subst e2; rw [cell_set_same h1 _ v (by omega), if_pos rfl]
      · rw [hn _ (by omega), if_neg e2]; exact h.grp k i hk hi
    · rw [hn _ (by omega), Fr.set_ne _ _ _ _ e]; exact h.grp k i hk hi
  · rw [hn _ (by omega), h.task n i hn' hi, Fr.set_ne _ _ _ _ (by omega)]
/-- A cell of a task has turned. -/
theorem SAt.setTask (h : SAt w b m qs) (n f : Nat) (hn : n < 20) (hf : f < 2) (v : Value) (x : Un) (hv : ∀ k, k < 2 → taskC x k = if k = f then v else taskC (m.u (10 + n)) k) (hx : ∀ k, unitC (10 + n) x k = unitC (10 + n) (m.u (10 + n)) k) :
    SAt (w.setCell ⟨b, 2101 + n * 2 + f, none⟩ v) b (m.set (10 + n) x) qs := by
  obtain ⟨C, h1, h2⟩ := h.blk
  have hne : ∀ j, 2101 + n * 2 + f ≠ j → (w.setCell ⟨b, 2101 + n * 2 + f, none⟩ v).cell? ⟨b, j, none⟩ = w.cell? ⟨b, j, none⟩ := fun j e => cell_set_ne h1 _ _ v e
  refine ⟨⟨_, blk_set h1 _ v, by simpa using h2⟩, by rw [hne 0 (by omega)]; exact h.now, fun k i hk hi => ?_, fun k i hk hi => by rw [hne _ (by omega)]; exact h.que k i hk hi, fun k i hk hi => ?_, fun k i hk hi => ?_⟩
  · rw [hne _ (by omega), h.unit k i hk hi]
    by_cases e : k = 10 + n
    · subst e; rw [Fr.set_same, hx]
    · rw [Fr.set_ne _ _ _ _ e]
  · rw [hne _ (by omega), h.grp k i hk hi, Fr.set_ne _ _ _ _ (by omega)]
  · by_cases e : k = n
    · subst e
      rw [Fr.set_same, hv i hi]
      by_cases e2 : i = f
      · subst e2; rw [cell_set_same h1 _ v (by omega), if_pos rfl]
      · rw [hne _ (by omega), if_neg e2]; exact h.task k i hk hi
    · rw [hne _ (by omega), Fr.set_ne _ _ _ _ (by omega)]; exact h.task k i hk hi
/-- The time goes on. -/
theorem SAt.setNow (h : SAt w b m qs) (n : Nat) : SAt (w.setCell ⟨b, 0, none⟩ (.int .i64 (n : Int))) b { m with now := n } qs := by
  obtain ⟨C, h1, h2⟩ := h.blk
  have hne : ∀ j, 0 ≠ j → (w.setCell ⟨b, 0, none⟩ (.int .i64 (n : Int))).cell? ⟨b, j, none⟩ = w.cell? ⟨b, j, none⟩ := fun j e => cell_set_ne h1 _ _ _ e
  exact ⟨⟨_, blk_set h1 _ _, by simpa using h2⟩, cell_set_same h1 _ _ (by omega), fun k i hk hi => by rw [hne _ (by omega)]; exact h.unit k i hk hi, fun k i hk hi => by rw [hne _ (by omega)]; exact h.que k i hk hi, fun k i hk hi => by rw [hne _ (by omega)]; exact h.grp k i hk hi, fun k i hk hi => by rw [hne _ (by omega)]; exact h.task k i hk hi⟩
end

theorem four {P : Nat → Prop} (h0 : P 0) (h1 : P 1) (h2 : P 2) (h3 : P 3) : ∀ k, k < 4 → P k
  | 0, _ => h0 | 1, _ => h1 | 2, _ => h2 | 3, _ => h3 | k + 4, h => absurd h (by omega)
theorem five {P : Nat → Prop} (h0 : P 0) (h1 : P 1) (h2 : P 2) (h3 : P 3) (h4 : P 4) : ∀ k, k < 5 → P k
  | 0, _ => h0 | 1, _ => h1 | 2, _ => h2 | 3, _ => h3 | 4, _ => h4 | k + 5, h => absurd h (by omega)
theorem two {P : Nat → Prop} (h0 : P 0) (h1 : P 1) : ∀ k, k < 2 → P k
  | 0, _ => h0 | 1, _ => h1 | k + 2, h => absurd h (by omega)

section
variable {w : World} {b : Nat} {m : M} {qs : Nat → Q}
theorem SAt.setTime (h : SAt w b m qs) (u n : Nat) (hu : u < 30) : SAt (w.setCell ⟨b, 1 + u * 4 + 3, none⟩ (.int .u64 (n : Int))) b (m.set u { m.u u with time := n }) qs :=
  h.setUnit u 3 hu (by omega) _ _ (four rfl rfl rfl rfl) (fun _ => rfl) (fun _ => rfl)
theorem SAt.setFloor (h : SAt w b m qs) (g n : Nat) (hg : g < 10) : SAt (w.setCell ⟨b, 121 + g * 198 + 193, none⟩ (.int .u64 (n : Int))) b (m.set g { m.u g with floor := n }) qs :=
  h.setGrp g 0 hg (by omega) _ _ (five rfl rfl rfl rfl rfl) (fun _ => rfl)
theorem SAt.setFrozen (h : SAt w b m qs) (g : Nat) (x : Bool) (hg : g < 10) : SAt (w.setCell ⟨b, 121 + g * 198 + 194, none⟩ (.bool x)) b (m.set g { m.u g with frozen := x }) qs :=
  h.setGrp g 1 hg (by omega) _ _ (five rfl rfl rfl rfl rfl) (fun _ => rfl)
theorem SAt.setQuota (h : SAt w b m qs) (g n : Nat) (hg : g < 10) : SAt (w.setCell ⟨b, 121 + g * 198 + 195, none⟩ (.int .i64 (n : Int))) b (m.set g { m.u g with quota := n }) qs :=
  h.setGrp g 2 hg (by omega) _ _ (five rfl rfl rfl rfl rfl) (fun _ => rfl)
theorem SAt.setPeriod (h : SAt w b m qs) (g n : Nat) (hg : g < 10) : SAt (w.setCell ⟨b, 121 + g * 198 + 196, none⟩ (.int .i64 (n : Int))) b (m.set g { m.u g with period := n }) qs :=
  h.setGrp g 3 hg (by omega) _ _ (five rfl rfl rfl rfl rfl) (fun _ => rfl)
theorem SAt.setUsed (h : SAt w b m qs) (g n : Nat) (hg : g < 10) : SAt (w.setCell ⟨b, 121 + g * 198 + 197, none⟩ (.int .i64 (n : Int))) b (m.set g { m.u g with used := n }) qs :=
  h.setGrp g 4 hg (by omega) _ _ (five rfl rfl rfl rfl rfl) (fun _ => rfl)
theorem SAt.setAwake (h : SAt w b m qs) (n : Nat) (x : Bool) (hn : n < 20) : SAt (w.setCell ⟨b, 2101 + n * 2, none⟩ (.bool x)) b (m.set (10 + n) { m.u (10 + n) with awake := x }) qs :=
  h.setTask n 0 hn (by omega) _ _ (two rfl rfl) (fun _ => rfl)
theorem SAt.setRan (h : SAt w b m qs) (n k : Nat) (hn : n < 20) : SAt (w.setCell ⟨b, 2101 + n * 2 + 1, none⟩ (.int .i64 (k : Int))) b (m.set (10 + n) { m.u (10 + n) with ran := k }) qs :=
  h.setTask n 1 hn (by omega) _ _ (two rfl rfl) (fun _ => rfl)
theorem SAt.setHere (h : SAt w b m qs) (u : Nat) (x : Bool) (hu : u < 30) : SAt (w.setCell ⟨b, 1 + u * 4, none⟩ (.bool x)) b (m.set u { m.u u with here := x }) qs :=
  h.setUnit u 0 hu (by omega) _ _ (four rfl rfl rfl rfl) (fun _ => rfl) (fun _ => rfl)
theorem SAt.setIn (h : SAt w b m qs) (u : Nat) (x : Int) (hu : u < 30) : SAt (w.setCell ⟨b, 1 + u * 4 + 1, none⟩ (.int .i64 x)) b (m.set u { m.u u with inn := x }) qs :=
  h.setUnit u 1 hu (by omega) _ _ (four rfl rfl rfl rfl) (fun _ => rfl) (fun _ => rfl)
theorem SAt.setWeight (h : SAt w b m qs) (u n : Nat) (h0 : 0 < u) (hu : u < 30) : SAt (w.setCell ⟨b, 1 + u * 4 + 2, none⟩ (.int .u64 (n : Int))) b (m.set u { m.u u with weight := n }) qs :=
  h.setUnit u 2 hu (by omega) _ _ (four rfl rfl (by show Value.int .u64 ((if u = 0 then 0 else n : Nat) : Int) = _; rw [if_neg (by omega)]; rfl) rfl) (fun _ => rfl) (fun _ => rfl)
theorem SAt.cHere (h : SAt w b m qs) (u : Nat) (hu : u < 30) : w.cell? ⟨b, 1 + u * 4, none⟩ = some (.bool (m.u u).here) := h.unit u 0 hu (by omega)
theorem SAt.cIn (h : SAt w b m qs) (u : Nat) (hu : u < 30) : w.cell? ⟨b, 1 + u * 4 + 1, none⟩ = some (.int .i64 (m.u u).inn) := h.unit u 1 hu (by omega)
theorem SAt.cWeight (h : SAt w b m qs) (u : Nat) (h0 : 0 < u) (hu : u < 30) : w.cell? ⟨b, 1 + u * 4 + 2, none⟩ = some (.int .u64 ((m.u u).weight : Int)) := by
  have := h.unit u 2 hu (by omega); rw [unitC, if_neg (by omega)] at this; exact this
theorem SAt.cTime (h : SAt w b m qs) (u : Nat) (hu : u < 30) : w.cell? ⟨b, 1 + u * 4 + 3, none⟩ = some (.int .u64 ((m.u u).time : Int)) := h.unit u 3 hu (by omega)
theorem SAt.cFloor (h : SAt w b m qs) (g : Nat) (hg : g < 10) : w.cell? ⟨b, 121 + g * 198 + 193, none⟩ = some (.int .u64 ((m.u g).floor : Int)) := h.grp g 0 hg (by omega)
theorem SAt.cFrozen (h : SAt w b m qs) (g : Nat) (hg : g < 10) : w.cell? ⟨b, 121 + g * 198 + 194, none⟩ = some (.bool (m.u g).frozen) := h.grp g 1 hg (by omega)
theorem SAt.cQuota (h : SAt w b m qs) (g : Nat) (hg : g < 10) : w.cell? ⟨b, 121 + g * 198 + 195, none⟩ = some (.int .i64 ((m.u g).quota : Int)) := h.grp g 2 hg (by omega)
theorem SAt.cPeriod (h : SAt w b m qs) (g : Nat) (hg : g < 10) : w.cell? ⟨b, 121 + g * 198 + 196, none⟩ = some (.int .i64 ((m.u g).period : Int)) := h.grp g 3 hg (by omega)
theorem SAt.cUsed (h : SAt w b m qs) (g : Nat) (hg : g < 10) : w.cell? ⟨b, 121 + g * 198 + 197, none⟩ = some (.int .i64 ((m.u g).used : Int)) := h.grp g 4 hg (by omega)
theorem SAt.cAwake (h : SAt w b m qs) (n : Nat) (hn : n < 20) : w.cell? ⟨b, 2101 + n * 2, none⟩ = some (.bool (m.u (10 + n)).awake) := h.task n 0 hn (by omega)
theorem SAt.cRan (h : SAt w b m qs) (n : Nat) (hn : n < 20) : w.cell? ⟨b, 2101 + n * 2 + 1, none⟩ = some (.int .i64 ((m.u (10 + n)).ran : Int)) := h.task n 1 hn (by omega)
end

/-- Each queue has just the units of its group that were ready, with their times. -/
structure Cpl (m : M) (qs : Nat → Q) : Prop where
  ok : ∀ g, g < 10 → Hp.Okp (qs g) ∧ Hp.Full (qs g)
  has : ∀ g u, g < 10 → u < 64 → (0 < (qs g).place u ↔ u < 30 ∧ Fr.kidB m g u = true)
  key : ∀ g u, g < 10 → u < 30 → Fr.kidB m g u = true → (qs g).keys u = (m.u u).time
/-- The sched m lies in block b. -/
def Fair (w : World) (b : Nat) (m : M) : Prop := ∃ qs, SAt w b m qs ∧ Cpl m qs
theorem Fair.drewN {w : World} {b : Nat} {m : M} (h : Fair w b m) (n : Nat) : Fair (w.drewN n) b m := by obtain ⟨qs, h1, h2⟩ := h; exact ⟨qs, h1.drewN n, h2⟩
theorem Fair.same {w w' : World} {b : Nat} {m : M} (h : Fair w b m) (e : w'.heap[b]? = w.heap[b]?) : Fair w' b m := by obtain ⟨qs, h1, h2⟩ := h; exact ⟨qs, h1.same e, h2⟩
theorem Fair.lt {w : World} {b : Nat} {m : M} (h : Fair w b m) : b < w.heap.size := by obtain ⟨qs, h1, _⟩ := h; exact h1.lt

/-- Coupling hangs on who is where, was ready, and its time, alone. -/
theorem Cpl.turn {m m' : M} {qs : Nat → Q} (h : Cpl m qs) (hk : ∀ g u, g < 10 → u < 30 → Fr.kidB m' g u = Fr.kidB m g u) (ht : ∀ g u, g < 10 → u < 30 → Fr.kidB m g u = true → (m'.u u).time = (m.u u).time) : Cpl m' qs :=
  ⟨h.ok, fun g u hg hu => by
    rw [h.has g u hg hu]
    constructor
    · rintro ⟨h1, h2⟩; exact ⟨h1, by rw [hk g u hg h1]; exact h2⟩
    · rintro ⟨h1, h2⟩; exact ⟨h1, by rw [hk g u hg h1] at h2; exact h2⟩, fun g u hg hu hu' => by
    rw [hk g u hg hu] at hu'
    rw [ht g u hg hu hu']; exact h.key g u hg hu hu'⟩
theorem Cpl.many {m : M} {qs : Nat → Q} (h : Cpl m qs) (g : Nat) (hg : g < 10) : decide (0 < (qs g).many) = Fr.hasKid m g := by
  rw [Bool.eq_iff_iff, decide_eq_true_eq, Fr.hasKid_iff]
  have ok := (h.ok g hg).1
  constructor
  · intro hm
    have a := ok.at_ 0 hm
    exact ⟨(qs g).heap 0, ((h.has g _ hg a.1).1 (by omega))⟩
  · rintro ⟨i, hi, hk⟩
    have := (h.has g i hg (by omega)).2 ⟨hi, hk⟩
    have := (ok.of_ i (by omega)).1
    omega

end Go.Proofs.Ytgabfkaadflciaa

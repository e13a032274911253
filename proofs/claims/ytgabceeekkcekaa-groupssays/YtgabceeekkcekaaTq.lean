/- The walk of the law TopQueue. -/
import Derived.Test.YtgabceeekkcekaaCut
import Derived.Deep.RegionHeld3
namespace Go.Proofs.Ytgabceeekkcekaa
open Go.RowKit
open Hp (Q)

/-- The queue without any. -/
def q0 : Q := ⟨0, fun _ => 0, fun _ => 0, fun _ => 0⟩
theorem zero30 : Try.zeroCells30 = enc q0 := by kernel_rfl
theorem q0_ok : Hp.Okp q0 := ⟨by show (0 : Nat) ≤ 64; omega, fun i hi => absurd hi (by show ¬ i < 0; omega), fun j _ => ⟨Nat.le_refl _, fun h => absurd h (by show ¬ (0 : Nat) < 0; omega)⟩⟩
theorem q0_full : Hp.Full q0 := fun i _ hi => absurd hi (by show ¬ i < 0; omega)
theorem good_new (w : World) : Good (w.alloc (.cells Try.zeroCells30 30)) w.heap.size q0 :=
  ⟨by unfold At; rw [zero30]; exact heap_alloc_new w _, q0_ok, q0_full⟩
theorem Only.below {b B : Nat} {u w w' : World} (h : Below B u w) (o : Only b w w') (hb : B ≤ b) : Below B u w' :=
  h.trans ⟨o.os, o.tape, o.output, by rw [o.size]; exact Nat.le_refl _, fun k hk => o.block k (by omega)⟩

set_option maxRecDepth 100000 in
set_option maxHeartbeats 400000 in
theorem tq_far (a0 a1 : Option Addr) (n0 n1 c0 c1 : Nat) (w : World) (h : 100 < n0 ∨ 100 < n1) (m0 : n0 ≤ 9223372036854775807) (m1 : n1 ≤ 9223372036854775807) :
    Calls Try.prog 5 #[.slice a0 n0 c0, .slice a1 n1 c1] w fun e w' => e = .returned (.bool true) ∧ Below w.heap.size w w' := by
  have HG : Hid (Good (w.alloc (.cells Try.zeroCells30 30)) w.heap.size q0) := good_new w
  have B0 : Hid (Below w.heap.size w (w.alloc (.cells Try.zeroCells30 30))) := (Below.refl _ w).alloc (Nat.le_refl _) _
  go_enter Try.func5, Try.ntmps5
  go_wp2_with fail
  refine (put_new w.heap.size 1 5 q0 _ HG.out (by omega) rfl).mono ?_
  rintro e W1 ⟨rfl, o1, q1, g1, m1', _, _⟩
  have B1 : Hid (Below w.heap.size w W1) := Only.below B0.out o1 (Nat.le_refl _)
  have G1 : Hid (Good W1 w.heap.size q1) := g1
  have M1 : Hid (q1.many = 1) := m1'
  clear o1 g1 m1'
  go_wp2_with fail
  refine (len_any w.heap.size q1 _ G1.out.at_).mono ?_
  rintro e W2 ⟨rfl, rfl⟩
  rw [M1.out]
  by_cases k0 : 100 < n0
  · have k0' : (100 : Int) < (n0 : Int) := by omega
    go_wp2
    go_ret
    exact ⟨rfl, B1.out⟩
  · have k1 : (100 : Int) < (n1 : Int) := by omega
    have k0' : ¬ (100 : Int) < (n0 : Int) := by omega
    go_wp2
    go_ret
    exact ⟨rfl, B1.out⟩

/-- The cells of the arrays 'key' and 'in'. -/
def arrK (f : Nat → Nat) : Array Value := ((List.range 64).map fun i => Value.int .u64 (f i)).toArray
def arrI (g : Nat → Bool) : Array Value := ((List.range 64).map fun i => Value.bool (g i)).toArray
def updB (g : Nat → Bool) (i : Nat) (v : Bool) : Nat → Bool := fun j => if j = i then v else g j
theorem arrK_at (f : Nat → Nat) (i : Nat) (h : i < 64) : (arrK f)[i]? = some (.int .u64 (f i)) := by simp [arrK, h]
theorem arrI_at (g : Nat → Bool) (i : Nat) (h : i < 64) : (arrI g)[i]? = some (.bool (g i)) := by simp [arrI, h]
theorem arrK_set (f : Nat → Nat) (i v : Nat) (h : i < 64) : (arrK f).setIfInBounds i (.int .u64 v) = arrK (Hp.upd f i v) := by
  apply Array.ext_getElem?
  intro j
  rcases Nat.lt_or_ge j 64 with hj | hj
  · rw [arrK_at _ j hj]
    by_cases e : j = i
    · subst e; rw [Array.getElem?_setIfInBounds_self_of_lt (by simp [arrK, hj]), Hp.upd_same]
    · rw [Array.getElem?_setIfInBounds_ne (by omega), arrK_at f j hj, Hp.upd_ne _ _ _ _ e]
  · rw [Array.getElem?_eq_none (by simp [arrK]; omega), Array.getElem?_eq_none (by simp [arrK]; omega)]
theorem arrI_set (g : Nat → Bool) (i : Nat) (v : Bool) (h : i < 64) : (arrI g).setIfInBounds i (.bool v) = arrI (updB g i v) := by
  apply Array.ext_getElem?
  intro j
  rcases Nat.lt_or_ge j 64 with hj | hj
  · rw [arrI_at _ j hj]
    by_cases e : j = i
    · subst e; rw [Array.getElem?_setIfInBounds_self_of_lt (by simp [arrI, hj])]; simp [updB]
    · rw [Array.getElem?_setIfInBounds_ne (by omega), arrI_at g j hj]; simp [updB, e]
  · rw [Array.getElem?_eq_none (by simp [arrI]; omega), Array.getElem?_eq_none (by simp [arrI]; omega)]

theorem heap_cell {W : World} {b : Nat} {c : Array Value} {t : TypeId} (h : W.heap[b]? = some (.cells c t (0, 0))) (o : Nat) : W.cell? ⟨b, o, none⟩ = c[o]? := by simp [World.cell?, h]
theorem heap_frozen {W : World} {b : Nat} {c : Array Value} {t : TypeId} (h : W.heap[b]? = some (.cells c t (0, 0))) (o : Nat) : W.frozen? ⟨b, o, none⟩ = false := by simp [World.frozen?, h]
theorem heap_set {W : World} {b : Nat} {c : Array Value} {t : TypeId} (h : W.heap[b]? = some (.cells c t (0, 0))) (o : Nat) (v : Value) : (W.setCell ⟨b, o, none⟩ v).heap[b]? = some (.cells (c.setIfInBounds o v) t (0, 0)) := by
  simp [World.setCell, Array.getElem?_modify, h]

/-- What the law has in its hands: the queue at b, the arrays behind it. -/
structure St (w W : World) (b : Nat) (q : Q) (f : Nat → Nat) (g : Nat → Bool) : Prop where
  bel : Below w.heap.size w W
  le : w.heap.size ≤ b
  lt : b + 1 + 1 < W.heap.size
  good : Good W b q
  key : W.heap[b + 1]? = some (.cells (arrK f) 28 (0, 0))
  ins : W.heap[b + 1 + 1]? = some (.cells (arrI g) 32 (0, 0))
  has : ∀ j, j < 64 → g j = isin q j
  same : ∀ j, j < 64 → 0 < q.place j → f j = q.keys j

theorem St.drewN {w W : World} {b : Nat} {q : Q} {f : Nat → Nat} {g : Nat → Bool} (h : St w W b q f g) (n : Nat) : St w (W.drewN n) b q f g :=
  ⟨below_drewN h.bel n, h.le, h.lt, ⟨h.good.at_.drewN n, h.good.ok, h.good.full⟩, h.key, h.ins, h.has, h.same⟩

theorem st_start (w W : World) (hb : Below w.heap.size w W) : St w (((W.alloc (.cells Try.zeroCells30 30)).alloc (.cells #[Value.int .u64 0, Value.int .u64 0, Value.int .u64 0, Value.int .u64 0, Value.int .u64 0, Value.int .u64 0, Value.int .u64 0, Value.int .u64 0, Value.int .u64 0, Value.int .u64 0, Value.int .u64 0, Value.int .u64 0, Value.int .u64 0, Value.int .u64 0, Value.int .u64 0, Value.int .u64 0, Value.int .u64 0, Value.int .u64 0, Value.int .u64 0, Value.int .u64 0, Value.int .u64 0, Value.int .u64 0, Value.int .u64 0, Value.int .u64 0, Value.int .u64 0, Value.int .u64 0, Value.int .u64 0, Value.int .u64 0, Value.int .u64 0, Value.int .u64 0, Value.int .u64 0, Value.int .u64 0, Value.int .u64 0, Value.int .u64 0, Value.int .u64 0, Value.int .u64 0, Value.int .u64 0, Value.int .u64 0, Value.int .u64 0, Value.int .u64 0, Value.int .u64 0, Value.int .u64 0, Value.int .u64 0, Value.int .u64 0, Value.int .u64 0, Value.int .u64 0, Value.int .u64 0, Value.int .u64 0, Value.int .u64 0, Value.int .u64 0, Value.int .u64 0, Value.int .u64 0, Value.int .u64 0, Value.int .u64 0, Value.int .u64 0, Value.int .u64 0, Value.int .u64 0, Value.int .u64 0, Value.int .u64 0, Value.int .u64 0, Value.int .u64 0, Value.int .u64 0, Value.int .u64 0, Value.int .u64 0] 28)).alloc (.cells #[Value.bool false, Value.bool false, Value.bool false, Value.bool false, Value.bool false, Value.bool false, Value.bool false, Value.bool false, Value.bool false, Value.bool false, Value.bool false, Value.bool false, Value.bool false, Value.bool false, Value.bool false, Value.bool false, Value.bool false, Value.bool false, Value.bool false, Value.bool false, Value.bool false, Value.bool false, Value.bool false, Value.bool false, Value.bool false, Value.bool false, Value.bool false, Value.bool false, Value.bool false, Value.bool false, Value.bool false, Value.bool false, Value.bool false, Value.bool false, Value.bool false, Value.bool false, Value.bool false, Value.bool false, Value.bool false, Value.bool false, Value.bool false, Value.bool false, Value.bool false, Value.bool false, Value.bool false, Value.bool false, Value.bool false, Value.bool false, Value.bool false, Value.bool false, Value.bool false, Value.bool false, Value.bool false, Value.bool false, Value.bool false, Value.bool false, Value.bool false, Value.bool false, Value.bool false, Value.bool false, Value.bool false, Value.bool false, Value.bool false, Value.bool false] 32)) W.heap.size q0 (fun _ => 0) (fun _ => false) := by
  have eK : #[Value.int .u64 0, Value.int .u64 0, Value.int .u64 0, Value.int .u64 0, Value.int .u64 0, Value.int .u64 0, Value.int .u64 0, Value.int .u64 0, Value.int .u64 0, Value.int .u64 0, Value.int .u64 0, Value.int .u64 0, Value.int .u64 0, Value.int .u64 0, Value.int .u64 0, Value.int .u64 0, Value.int .u64 0, Value.int .u64 0, Value.int .u64 0, Value.int .u64 0, Value.int .u64 0, Value.int .u64 0, Value.int .u64 0, Value.int .u64 0, Value.int .u64 0, Value.int .u64 0, Value.int .u64 0, Value.int .u64 0, Value.int .u64 0, Value.int .u64 0, Value.int .u64 0, Value.int .u64 0, Value.int .u64 0, Value.int .u64 0, Value.int .u64 0, Value.int .u64 0, Value.int .u64 0, Value.int .u64 0, Value.int .u64 0, Value.int .u64 0, Value.int .u64 0, Value.int .u64 0, Value.int .u64 0, Value.int .u64 0, Value.int .u64 0, Value.int .u64 0, Value.int .u64 0, Value.int .u64 0, Value.int .u64 0, Value.int .u64 0, Value.int .u64 0, Value.int .u64 0, Value.int .u64 0, Value.int .u64 0, Value.int .u64 0, Value.int .u64 0, Value.int .u64 0, Value.int .u64 0, Value.int .u64 0, Value.int .u64 0, Value.int .u64 0, Value.int .u64 0, Value.int .u64 0, Value.int .u64 0] = arrK (fun _ => 0) := by kernel_rfl
  have eI : #[Value.bool false, Value.bool false, Value.bool false, Value.bool false, Value.bool false, Value.bool false, Value.bool false, Value.bool false, Value.bool false, Value.bool false, Value.bool false, Value.bool false, Value.bool false, Value.bool false, Value.bool false, Value.bool false, Value.bool false, Value.bool false, Value.bool false, Value.bool false, Value.bool false, Value.bool false, Value.bool false, Value.bool false, Value.bool false, Value.bool false, Value.bool false, Value.bool false, Value.bool false, Value.bool false, Value.bool false, Value.bool false, Value.bool false, Value.bool false, Value.bool false, Value.bool false, Value.bool false, Value.bool false, Value.bool false, Value.bool false, Value.bool false, Value.bool false, Value.bool false, Value.bool false, Value.bool false, Value.bool false, Value.bool false, Value.bool false, Value.bool false, Value.bool false, Value.bool false, Value.bool false, Value.bool false, Value.bool false, Value.bool false, Value.bool false, Value.bool false, Value.bool false, Value.bool false, Value.bool false, Value.bool false, Value.bool false, Value.bool false, Value.bool false] = arrI (fun _ => false) := by kernel_rfl
  rw [eK, eI]
  have hle := hb.size
  refine ⟨((hb.alloc hle _).alloc (by simp; omega) _).alloc (by simp; omega) _, hle, by simp, ⟨?_, q0_ok, q0_full⟩, ?_, ?_, fun j _ => rfl, fun j _ h => absurd h (by show ¬ (0 : Nat) < 0; omega)⟩
  · unfold At
    rw [zero30]
    show (((W.heap.push _).push _).push _)[W.heap.size]? = _
    simp only [Array.getElem?_push, Array.size_push]
    rw [if_neg (by omega), if_neg (by omega), if_pos trivial]
  · show (((W.heap.push _).push _).push _)[W.heap.size + 1]? = _
    simp only [Array.getElem?_push, Array.size_push]
    rw [if_neg (by omega), if_pos trivial]
  · show (((W.heap.push _).push _).push _)[W.heap.size + 1 + 1]? = _
    simp only [Array.getElem?_push, Array.size_push]
    rw [if_pos trivial]

theorem setBlk {W : World} (b c o : Nat) (v : Value) (h : b ≠ c) : (W.setCell ⟨c, o, none⟩ v).heap[b]? = W.heap[b]? := Below.heap_setCell _ _ _ _ h

/-- One more is in. -/
theorem St.put {w W W' : World} {b j k : Nat} {q q' : Q} {f : Nat → Nat} {g : Nat → Bool} (h : St w W b q f g) (o : Only b W W') (hg : Good W' b q') (hk : q'.keys = Hp.upd q.keys j k) (hh : ∀ i, 0 < q'.place i ↔ (0 < q.place i ∨ i = j)) (hj : j < 64) :
    St w ((W'.setCell ⟨b + 1 + 1, j, none⟩ (.bool true)).setCell ⟨b + 1, j, none⟩ (.int .u64 k)) b q' (Hp.upd f j k) (updB g j true) := by
  have hle := h.le
  have hlt := h.lt
  have i1 : W'.heap[b + 1 + 1]? = some (.cells (arrI g) 32 (0, 0)) := (o.block _ (by omega)).trans h.ins
  have k1 : W'.heap[b + 1]? = some (.cells (arrK f) 28 (0, 0)) := (o.block _ (by omega)).trans h.key
  refine ⟨?_, hle, ?_, ⟨?_, hg.ok, hg.full⟩, ?_, ?_, fun i hi => ?_, fun i hi hp => ?_⟩
  · exact ((Only.below h.bel o hle).setCell (by show w.heap.size ≤ b + 1 + 1; omega) _).setCell (by show w.heap.size ≤ b + 1; omega) _
  · have := o.size; simp [World.setCell]; omega
  · unfold At; rw [setBlk _ _ _ _ (by omega), setBlk _ _ _ _ (by omega)]; exact hg.at_
  · rw [heap_set ((setBlk _ _ _ _ (by omega)).trans k1), arrK_set _ _ _ hj]
  · rw [setBlk _ _ _ _ (by omega), heap_set i1, arrI_set _ _ _ hj]
  · have hi' := hh i
    unfold updB isin
    by_cases e : i = j
    · rw [if_pos e, eq_comm, decide_eq_true_eq]; exact hi'.2 (.inr e)
    · rw [if_neg e, h.has i hi]; unfold isin; rw [decide_eq_decide, hi']; simp [e]
  · rw [hk]
    by_cases e : i = j
    · rw [e, Hp.upd_same, Hp.upd_same]
    · rw [Hp.upd_ne _ _ _ _ e, Hp.upd_ne _ _ _ _ e]
      exact h.same i hi (((hh i).1 hp).resolve_right e)

/-- One is out. -/
theorem St.cut {w W W' : World} {b j : Nat} {q q' : Q} {f : Nat → Nat} {g : Nat → Bool} (h : St w W b q f g) (o : Only b W W') (hg : Good W' b q') (hk : q'.keys = Hp.upd q.keys j 0) (hh : ∀ i, 0 < q'.place i ↔ (0 < q.place i ∧ i ≠ j)) (hj : j < 64) :
    St w (W'.setCell ⟨b + 1 + 1, j, none⟩ (.bool false)) b q' f (updB g j false) := by
  have hle := h.le
  have hlt := h.lt
  have i1 : W'.heap[b + 1 + 1]? = some (.cells (arrI g) 32 (0, 0)) := (o.block _ (by omega)).trans h.ins
  have k1 : W'.heap[b + 1]? = some (.cells (arrK f) 28 (0, 0)) := (o.block _ (by omega)).trans h.key
  refine ⟨?_, hle, ?_, ⟨?_, hg.ok, hg.full⟩, ?_, ?_, fun i hi => ?_, fun i hi hp => ?_⟩
  · exact (Only.below h.bel o hle).setCell (by show w.heap.size ≤ b + 1 + 1; omega) _
  · have := o.size; simp [World.setCell]; omega
  · unfold At; rw [setBlk _ _ _ _ (by omega)]; exact hg.at_
  · rw [setBlk _ _ _ _ (by omega)]; exact k1
  · rw [heap_set i1, arrI_set _ _ _ hj]
  · have hi' := hh i
    unfold updB isin
    by_cases e : i = j
    · rw [if_pos e, eq_comm, decide_eq_false_iff_not]; exact fun c => (hi'.1 c).2 e
    · rw [if_neg e, h.has i hi]; unfold isin; rw [decide_eq_decide, hi']; simp [e]
  · have := (hh i).1 hp
    rw [hk, Hp.upd_ne _ _ _ _ this.2]
    exact h.same i hi this.1

set_option maxRecDepth 100000 in
set_option maxHeartbeats 1000000 in
theorem tq_near (b0 o0 b1 o1 : Nat) (n0 n1 c0 c1 : Nat) (zi : Nat → Int) (zk : Nat → Nat) (w : World) (h0 : ∀ i, i < n0 → w.cell? ⟨b0, o0 + i, none⟩ = some (.int .i64 (zi i))) (h1 : ∀ i, i < n1 → w.cell? ⟨b1, o1 + i, none⟩ = some (.int .u64 (zk i))) (m0 : n0 ≤ 100) (m1 : n1 ≤ 100) :
    Calls Try.prog 5 #[.slice (some ⟨b0, o0, none⟩) n0 c0, .slice (some ⟨b1, o1, none⟩) n1 c1] w fun e w' => e = .returned (.bool true) ∧ Below w.heap.size w w' := by
  have HG : Hid (Good (w.alloc (.cells Try.zeroCells30 30)) w.heap.size q0) := good_new w
  have B0 : Hid (Below w.heap.size w (w.alloc (.cells Try.zeroCells30 30))) := (Below.refl _ w).alloc (Nat.le_refl _) _
  have k0 : decide ((100 : Int) < (n0 : Int)) = false := by simp; omega
  have k1 : decide ((100 : Int) < (n1 : Int)) = false := by simp; omega
  have H0 : Hid (∀ i, i < n0 → w.cell? ⟨b0, o0 + i, none⟩ = some (.int .i64 (zi i))) := h0
  have H1 : Hid (∀ i, i < n1 → w.cell? ⟨b1, o1 + i, none⟩ = some (.int .u64 (zk i))) := h1
  clear h0 h1
  go_enter Try.func5, Try.ntmps5
  go_wp2_with fail
  refine (put_new w.heap.size 1 5 q0 _ HG.out (by omega) rfl).mono ?_
  rintro e W1 ⟨rfl, o1, q1, g1, m1', _, _⟩
  have B1 : Hid (Below w.heap.size w W1) := Only.below B0.out o1 (Nat.le_refl _)
  have G1 : Hid (Good W1 w.heap.size q1) := g1
  have M1 : Hid (q1.many = 1) := m1'
  clear o1 g1 m1'
  go_wp2_with fail
  refine (len_any w.heap.size q1 _ G1.out.at_).mono ?_
  rintro e W2 ⟨rfl, rfl⟩
  rw [M1.out]
  go_wp2_with fail
  refine wp_gen (fun W => St w W W2.heap.size q0 (fun _ => 0) (fun _ => false)) (st_start w W2 B1.out) ?_
  intro W hS
  clear HG B0 B1 G1 M1 k0 k1
  generalize W2.heap.size = b at *
  go_loopw [9, 10] (fun n i wr => ∃ (k m : Nat) (q : Q) (f : Nat → Nat) (g : Nat → Bool), i = .int .i64 k ∧ n = .int .i64 m ∧ k ≤ n0 ∧ k ≤ n1 ∧ m ≤ k ∧ Hid (q.many = m ∧ St w wr b q f g)) (fun _ i _ => n0 - (intOf i).toNat)
  case atStart => exact ⟨0, 0, q0, _, _, rfl, rfl, by omega, by omega, by omega, rfl, hS⟩
  case round =>
    clear hS
    obtain ⟨k, m, q, f, g, rfl, rfl, hk0, hk1, hmk, S⟩ := hrel
    by_cases l0 : k < n0
    · have d0 : decide ((k : Int) < (n0 : Int)) = true := by simp; omega
      by_cases l1 : k < n1
      · have d1 : (k : Int) < (n1 : Int) := by omega
        have bl0 := World.block_lt_of_cell? _ _ (H0.out k l0)
        have bl1 := World.block_lt_of_cell? _ _ (H1.out k l1)
        have C0 : wr.cell? ⟨b0, o0 + k, none⟩ = some (.int .i64 (zi k)) := (S.out.2.bel.cell (p := ⟨b0, o0 + k, none⟩) bl0).trans (H0.out k l0)
        have C1 : wr.cell? ⟨b1, o1 + k, none⟩ = some (.int .u64 (zk k)) := (S.out.2.bel.cell (p := ⟨b1, o1 + k, none⟩) bl1).trans (H1.out k l1)
        by_cases hz : zi k < 0 ∨ 64 ≤ zi k
        · have HZ : Hid (zi k < 0 ∨ 64 ≤ zi k) := hz
          clear hz
          go_wp2_with fail
          go_quiet ((go_at_call 10; exact Calls.quiet_of_same (put_bad b (zi k) (zk k) _ HZ.out)))
          go_wp2_with fail
          go_roundw
          case rel => exact ⟨k + 1, m, q, f, g, by go_num, rfl, by omega, by omega, by omega, S.out.1, S.out.2.drewN _⟩
          case measure => simp [intOf]; omega
        · obtain ⟨j, hj⟩ : ∃ j : Nat, zi k = j := ⟨(zi k).toNat, by omega⟩
          rw [hj] at C0 hz
          have hj64 : j < 64 := by omega
          have hjI : (j : Int) < 64 := by omega
          clear hz hj
          by_cases hp : 0 < q.place j
          · have HP : Hid (0 < q.place j) := hp
            clear hp
            go_wp2_with fail
            go_quiet ((go_at_call 10; exact Calls.quiet_of_same (put_has b j (zk k) q _ (S.out.2.good.at_.drewN _) hj64 HP.out)))
            go_wp2_with fail
            go_roundw
            case rel => exact ⟨k + 1, m, q, f, g, by go_num, rfl, by omega, by omega, by omega, S.out.1, S.out.2.drewN _⟩
            case measure => simp [intOf]; omega
          · have HP : Hid (q.place j = 0) := by show q.place j = 0; omega
            clear hp
            have i1 : wr.cell? ⟨b + 1 + 1, j, none⟩ = some (.bool false) := by
              rw [heap_cell S.out.2.ins, arrI_at _ _ hj64, S.out.2.has j hj64]; unfold isin; rw [decide_eq_false (by have := HP.out; omega)]
            go_wp2_with fail
            go_region_held3 (fun w' => w'.cell? ⟨b0, o0 + k, none⟩ = some (.int .i64 j) ∧ w'.cell? ⟨b1, o1 + k, none⟩ = some (.int .u64 (zk k))) (go_keep) ((go_at_call 10; refine (put_new b j (zk k) q _ ⟨S.out.2.good.at_.drew, S.out.2.good.ok, S.out.2.good.full⟩ hj64 HP.out).mono ?_; rintro e w2 ⟨rfl, oo, q', g', mm, kk, hh⟩; have D0 : w2.cell? ⟨b0, o0 + k, none⟩ = some (.int .i64 j) := (World.cell?_of_block (oo.block b0 (by have := S.out.2.le; omega))).trans C0; have D1 : w2.cell? ⟨b1, o1 + k, none⟩ = some (.int .u64 (zk k)) := (World.cell?_of_block (oo.block b1 (by have := S.out.2.le; omega))).trans C1; have OO : Hid (Only b wr w2) := (Only.drew b wr).trans oo; have GG : Hid (Good w2 b q' ∧ q'.many = q.many + 1 ∧ q'.keys = Hp.upd q.keys j (zk k) ∧ ∀ i, 0 < q'.place i ↔ (0 < q.place i ∨ i = j)) := ⟨g', mm, kk, hh⟩; clear oo g' mm kk hh))
            have E1 : w2.cell? ⟨b + 1 + 1, j, none⟩ = some (.bool false) := (World.cell?_of_block (OO.out.block (b + 1 + 1) (by omega))).trans i1
            have E2 : w2.frozen? ⟨b + 1 + 1, j, none⟩ = false := heap_frozen ((OO.out.block (b + 1 + 1) (by omega)).trans S.out.2.ins) j
            have E3 : w2.cell? ⟨b + 1, j, none⟩ = some (.int .u64 (f j)) := by rw [heap_cell ((OO.out.block (b + 1) (by omega)).trans S.out.2.key), arrK_at _ _ hj64]
            have E4 : w2.frozen? ⟨b + 1, j, none⟩ = false := heap_frozen ((OO.out.block (b + 1) (by omega)).trans S.out.2.key) j
            have ne0 : b0 ≠ b + 1 + 1 := by have := S.out.2.le; omega
            have ne1 : b1 ≠ b + 1 + 1 := by have := S.out.2.le; omega
            clear C0 C1 i1
            go_wp2_with fail
            go_region
            go_wp2_with fail
            go_roundw
            case rel =>
              have P := S.out.2.put OO.out GG.out.1 GG.out.2.2.1 GG.out.2.2.2 hj64
              exact ⟨k + 1, m + 1, q', _, _, by go_num, by go_num, by omega, by omega, by omega, by rw [GG.out.2.1, S.out.1], P.drewN 1⟩
            case measure => simp [intOf]; omega
      · have d1 : ¬ (k : Int) < (n1 : Int) := by omega
        go_wp2_with fail
        go_loopw [9, 11, 12] (fun n ws ls wq => ∃ (m2 was : Nat) (last : Int) (q : Q) (f : Nat → Nat) (g : Nat → Bool), n = .int .i64 m2 ∧ ws = .int .u64 was ∧ ls = .int .i64 last ∧ m2 ≤ 64 ∧ Hid (q.many = m2 ∧ St w wq b q f g ∧ ∀ i : Nat, i < 64 → 0 < q.place i → ¬ (q.keys i < was ∨ (q.keys i = was ∧ (i : Int) < last)))) (fun n _ _ _ => (intOf n).toNat)
        case atStart => exact ⟨m, 0, -1, q, f, g, rfl, rfl, rfl, by have := S.out.2.good.ok.le; have := S.out.1; omega, S.out.1, S.out.2, fun i _ _ h => by omega⟩
        case round =>
          clear S
          rename_i wq
          obtain ⟨m2, was, last, q, f, g, rfl, rfl, rfl, hm2, S⟩ := hrel
          by_cases hz : m2 = 0
          · subst hz
            go_wp2_with fail
            refine (first_none b q _ S.out.2.1.good.at_ S.out.1).mono ?_
            rintro e w3 ⟨rfl, rfl⟩
            go_wp2_with fail
            refine (len_any b q _ S.out.2.1.good.at_).mono ?_
            rintro e w3 ⟨rfl, rfl⟩
            rw [S.out.1]
            go_wp2_with fail
            go_ret
            exact ⟨rfl, S.out.2.1.bel⟩
          · have hp2 : (0 : Int) < (m2 : Int) := by omega
            go_wp2_with fail
            refine (len_any b q _ S.out.2.1.good.at_).mono ?_
            rintro e w3 ⟨rfl, rfl⟩
            rw [S.out.1]
            go_wp2_with fail
            refine (first_some b q _ S.out.2.1.good (by rw [S.out.1]; omega)).mono ?_
            rintro e w4 ⟨j, rfl, ⟨nq, rfl⟩, hj, hp, hlast⟩
            have S2 : Hid (q.many = m2 ∧ St w (w3.drewN nq) b q f g ∧ ∀ i : Nat, i < 64 → 0 < q.place i → ¬ (q.keys i < was ∨ (q.keys i = was ∧ (i : Int) < last))) := ⟨S.out.1, S.out.2.1.drewN nq, S.out.2.2⟩
            clear S
            generalize w3.drewN nq = w4 at *
            have hno := S2.out.2.2 j hj hp
            have HP : Hid (0 < q.place j) := hp
            have HL : Hid (∀ i, i < 64 → 0 < q.place i → ¬ Hp.ah q.keys i j) := hlast
            obtain ⟨kj, hkj⟩ : ∃ kj, q.keys j = kj := ⟨_, rfl⟩
            rw [hkj] at hno
            have F1 : w4.cell? ⟨b + 1 + 1, j, none⟩ = some (.bool true) := by
              rw [heap_cell S2.out.2.1.ins, arrI_at _ _ hj, S2.out.2.1.has j hj]; unfold isin; rw [decide_eq_true hp]
            have F3 : w4.cell? ⟨b + 1, j, none⟩ = some (.int .u64 kj) := by rw [heap_cell S2.out.2.1.key, arrK_at _ _ hj, S2.out.2.1.same j hj hp, hkj]
            have F2 : w4.frozen? ⟨b + 1 + 1, j, none⟩ = false := heap_frozen S2.out.2.1.ins j
            have t1 : was ≤ kj := by omega
            have t2 : ((j : Int) < 64) := by omega
            rw [hkj]
            have HK : Hid (q.keys j = kj) := hkj
            have HN : Hid (¬ (kj < was ∨ (kj = was ∧ (j : Int) < last))) := hno
            clear hkj hp hlast hno
            by_cases kw : kj = was
            · have t3 : ((kj : Int) == (was : Int)) = true := by simp; omega
              have t4 : last ≤ (j : Int) := by have := HN.out; omega
              have HW : Hid (kj = was) := kw
              clear kw
              go_wp2_with fail
              refine (cut_has b j q _ S2.out.2.1.good hj HP.out).mono ?_
              rintro e w5 ⟨rfl, o5, q5, g5, mm5, kk5, hh5⟩
              have FIN : Hid (q5.many + 1 = m2 ∧ St w (w5.setCell ⟨b + 1 + 1, j, none⟩ (.bool false)) b q5 f (updB g j false) ∧ ∀ i : Nat, i < 64 → 0 < q5.place i → ¬ (q5.keys i < kj ∨ (q5.keys i = kj ∧ (i : Int) < j))) := by
                refine ⟨by rw [mm5]; exact S2.out.1, S2.out.2.1.cut o5 g5 kk5 hh5 hj, fun i hi hpi => ?_⟩
                have hb := (hh5 i).1 hpi
                have := HL.out i hi hb.1
                unfold Hp.ah at this
                rw [HK.out] at this
                rw [kk5, Hp.upd_ne _ _ _ _ hb.2]
                omega
              have E1 : w5.cell? ⟨b + 1 + 1, j, none⟩ = some (.bool true) := (World.cell?_of_block (o5.block (b + 1 + 1) (by omega))).trans F1
              have E2 : w5.frozen? ⟨b + 1 + 1, j, none⟩ = false := heap_frozen ((o5.block (b + 1 + 1) (by omega)).trans S2.out.2.1.ins) j
              clear o5 g5 mm5 kk5 hh5 F1 F2 F3
              rw [HK.out]
              go_wp2_with fail
              go_roundw
              case rel => exact ⟨m2 - 1, kj, j, q5, f, _, by rw [show ((m2 : Int) - 1) = ((m2 - 1 : Nat) : Int) by omega], rfl, rfl, by omega, by have := FIN.out.1; omega, FIN.out.2.1, FIN.out.2.2⟩
              case measure => simp [intOf]; omega
            · have t3 : ((kj : Int) == (was : Int)) = false := by simp; omega
              go_wp2_with fail
              refine (cut_has b j q _ S2.out.2.1.good hj HP.out).mono ?_
              rintro e w5 ⟨rfl, o5, q5, g5, mm5, kk5, hh5⟩
              have FIN : Hid (q5.many + 1 = m2 ∧ St w (w5.setCell ⟨b + 1 + 1, j, none⟩ (.bool false)) b q5 f (updB g j false) ∧ ∀ i : Nat, i < 64 → 0 < q5.place i → ¬ (q5.keys i < kj ∨ (q5.keys i = kj ∧ (i : Int) < j))) := by
                refine ⟨by rw [mm5]; exact S2.out.1, S2.out.2.1.cut o5 g5 kk5 hh5 hj, fun i hi hpi => ?_⟩
                have hb := (hh5 i).1 hpi
                have := HL.out i hi hb.1
                unfold Hp.ah at this
                rw [HK.out] at this
                rw [kk5, Hp.upd_ne _ _ _ _ hb.2]
                omega
              have E1 : w5.cell? ⟨b + 1 + 1, j, none⟩ = some (.bool true) := (World.cell?_of_block (o5.block (b + 1 + 1) (by omega))).trans F1
              have E2 : w5.frozen? ⟨b + 1 + 1, j, none⟩ = false := heap_frozen ((o5.block (b + 1 + 1) (by omega)).trans S2.out.2.1.ins) j
              clear o5 g5 mm5 kk5 hh5 F1 F2 F3
              rw [HK.out]
              go_wp2_with fail
              go_roundw
              case rel => exact ⟨m2 - 1, kj, j, q5, f, _, by rw [show ((m2 : Int) - 1) = ((m2 - 1 : Nat) : Int) by omega], rfl, rfl, by omega, by have := FIN.out.1; omega, FIN.out.2.1, FIN.out.2.2⟩
              case measure => simp [intOf]; omega
    · have d0 : decide ((k : Int) < (n0 : Int)) = false := by simp; omega
      go_wp2_with fail
      go_loopw [9, 11, 12] (fun n ws ls wq => ∃ (m2 was : Nat) (last : Int) (q : Q) (f : Nat → Nat) (g : Nat → Bool), n = .int .i64 m2 ∧ ws = .int .u64 was ∧ ls = .int .i64 last ∧ m2 ≤ 64 ∧ Hid (q.many = m2 ∧ St w wq b q f g ∧ ∀ i : Nat, i < 64 → 0 < q.place i → ¬ (q.keys i < was ∨ (q.keys i = was ∧ (i : Int) < last)))) (fun n _ _ _ => (intOf n).toNat)
      case atStart => exact ⟨m, 0, -1, q, f, g, rfl, rfl, rfl, by have := S.out.2.good.ok.le; have := S.out.1; omega, S.out.1, S.out.2, fun i _ _ h => by omega⟩
      case round =>
        clear S
        rename_i wq
        obtain ⟨m2, was, last, q, f, g, rfl, rfl, rfl, hm2, S⟩ := hrel
        by_cases hz : m2 = 0
        · subst hz
          go_wp2_with fail
          refine (first_none b q _ S.out.2.1.good.at_ S.out.1).mono ?_
          rintro e w3 ⟨rfl, rfl⟩
          go_wp2_with fail
          refine (len_any b q _ S.out.2.1.good.at_).mono ?_
          rintro e w3 ⟨rfl, rfl⟩
          rw [S.out.1]
          go_wp2_with fail
          go_ret
          exact ⟨rfl, S.out.2.1.bel⟩
        · have hp2 : (0 : Int) < (m2 : Int) := by omega
          go_wp2_with fail
          refine (len_any b q _ S.out.2.1.good.at_).mono ?_
          rintro e w3 ⟨rfl, rfl⟩
          rw [S.out.1]
          go_wp2_with fail
          refine (first_some b q _ S.out.2.1.good (by rw [S.out.1]; omega)).mono ?_
          rintro e w4 ⟨j, rfl, ⟨nq, rfl⟩, hj, hp, hlast⟩
          have S2 : Hid (q.many = m2 ∧ St w (w3.drewN nq) b q f g ∧ ∀ i : Nat, i < 64 → 0 < q.place i → ¬ (q.keys i < was ∨ (q.keys i = was ∧ (i : Int) < last))) := ⟨S.out.1, S.out.2.1.drewN nq, S.out.2.2⟩
          clear S
          generalize w3.drewN nq = w4 at *
          have hno := S2.out.2.2 j hj hp
          have HP : Hid (0 < q.place j) := hp
          have HL : Hid (∀ i, i < 64 → 0 < q.place i → ¬ Hp.ah q.keys i j) := hlast
          obtain ⟨kj, hkj⟩ : ∃ kj, q.keys j = kj := ⟨_, rfl⟩
          rw [hkj] at hno
          have F1 : w4.cell? ⟨b + 1 + 1, j, none⟩ = some (.bool true) := by
            rw [heap_cell S2.out.2.1.ins, arrI_at _ _ hj, S2.out.2.1.has j hj]; unfold isin; rw [decide_eq_true hp]
          have F3 : w4.cell? ⟨b + 1, j, none⟩ = some (.int .u64 kj) := by rw [heap_cell S2.out.2.1.key, arrK_at _ _ hj, S2.out.2.1.same j hj hp, hkj]
          have F2 : w4.frozen? ⟨b + 1 + 1, j, none⟩ = false := heap_frozen S2.out.2.1.ins j
          have t1 : was ≤ kj := by omega
          have t2 : ((j : Int) < 64) := by omega
          rw [hkj]
          have HK : Hid (q.keys j = kj) := hkj
          have HN : Hid (¬ (kj < was ∨ (kj = was ∧ (j : Int) < last))) := hno
          clear hkj hp hlast hno
          by_cases kw : kj = was
          · have t3 : ((kj : Int) == (was : Int)) = true := by simp; omega
            have t4 : last ≤ (j : Int) := by have := HN.out; omega
            have HW : Hid (kj = was) := kw
            clear kw
            go_wp2_with fail
            refine (cut_has b j q _ S2.out.2.1.good hj HP.out).mono ?_
            rintro e w5 ⟨rfl, o5, q5, g5, mm5, kk5, hh5⟩
            have FIN : Hid (q5.many + 1 = m2 ∧ St w (w5.setCell ⟨b + 1 + 1, j, none⟩ (.bool false)) b q5 f (updB g j false) ∧ ∀ i : Nat, i < 64 → 0 < q5.place i → ¬ (q5.keys i < kj ∨ (q5.keys i = kj ∧ (i : Int) < j))) := by
              refine ⟨by rw [mm5]; exact S2.out.1, S2.out.2.1.cut o5 g5 kk5 hh5 hj, fun i hi hpi => ?_⟩
              have hb := (hh5 i).1 hpi
              have := HL.out i hi hb.1
              unfold Hp.ah at this
              rw [HK.out] at this
              rw [kk5, Hp.upd_ne _ _ _ _ hb.2]
              omega
            have E1 : w5.cell? ⟨b + 1 + 1, j, none⟩ = some (.bool true) := (World.cell?_of_block (o5.block (b + 1 + 1) (by omega))).trans F1
            have E2 : w5.frozen? ⟨b + 1 + 1, j, none⟩ = false := heap_frozen ((o5.block (b + 1 + 1) (by omega)).trans S2.out.2.1.ins) j
            clear o5 g5 mm5 kk5 hh5 F1 F2 F3
            rw [HK.out]
            go_wp2_with fail
            go_roundw
            case rel => exact ⟨m2 - 1, kj, j, q5, f, _, by rw [show ((m2 : Int) - 1) = ((m2 - 1 : Nat) : Int) by omega], rfl, rfl, by omega, by have := FIN.out.1; omega, FIN.out.2.1, FIN.out.2.2⟩
            case measure => simp [intOf]; omega
          · have t3 : ((kj : Int) == (was : Int)) = false := by simp; omega
            go_wp2_with fail
            refine (cut_has b j q _ S2.out.2.1.good hj HP.out).mono ?_
            rintro e w5 ⟨rfl, o5, q5, g5, mm5, kk5, hh5⟩
            have FIN : Hid (q5.many + 1 = m2 ∧ St w (w5.setCell ⟨b + 1 + 1, j, none⟩ (.bool false)) b q5 f (updB g j false) ∧ ∀ i : Nat, i < 64 → 0 < q5.place i → ¬ (q5.keys i < kj ∨ (q5.keys i = kj ∧ (i : Int) < j))) := by
              refine ⟨by rw [mm5]; exact S2.out.1, S2.out.2.1.cut o5 g5 kk5 hh5 hj, fun i hi hpi => ?_⟩
              have hb := (hh5 i).1 hpi
              have := HL.out i hi hb.1
              unfold Hp.ah at this
              rw [HK.out] at this
              rw [kk5, Hp.upd_ne _ _ _ _ hb.2]
              omega
            have E1 : w5.cell? ⟨b + 1 + 1, j, none⟩ = some (.bool true) := (World.cell?_of_block (o5.block (b + 1 + 1) (by omega))).trans F1
            have E2 : w5.frozen? ⟨b + 1 + 1, j, none⟩ = false := heap_frozen ((o5.block (b + 1 + 1) (by omega)).trans S2.out.2.1.ins) j
            clear o5 g5 mm5 kk5 hh5 F1 F2 F3
            rw [HK.out]
            go_wp2_with fail
            go_roundw
            case rel => exact ⟨m2 - 1, kj, j, q5, f, _, by rw [show ((m2 : Int) - 1) = ((m2 - 1 : Nat) : Int) by omega], rfl, rfl, by omega, by have := FIN.out.1; omega, FIN.out.2.1, FIN.out.2.2⟩
            case measure => simp [intOf]; omega

end Go.Proofs.Ytgabceeekkcekaa

/- TopWake, plain: who wakes up is not far ahead. -/
import Derived.Test.YtkbfmjdfhacikaaSy
namespace Go.Proofs.Ytkbfmjdfhacikaa
namespace Fr

/-- All tasks are in the root; task 0 is awake all the time. -/
structure Wk (m : M) (n : Nat) (wt : Nat → Nat) (aw : Nat → Bool) (ran mine : Nat → Nat) : Prop where
  inv : Inv m
  sync : Sync m
  n1 : 1 ≤ n
  n2 : n ≤ 16
  here : ∀ v, 0 < v → v < 30 → ((m.u v).here = true ↔ 10 ≤ v ∧ v < 10 + n)
  inn : ∀ i, i < n → (m.u (10 + i)).inn = 0
  wtE : ∀ i, i < n → (m.u (10 + i)).weight = wt i
  quo : ∀ u, u < 10 → (m.u u).quota = 0
  awk : ∀ i, i < n → (m.u (10 + i)).awake = (decide (i = 0) || aw i)
  w7 : wt 0 = 7
  t0 : (m.u 10).time ≤ (m.u 0).floor + 149796
  own : ∀ x, 0 < x → x < n → aw x = true → (m.u 10).time + mine x * (1048576 / wt x) ≤ (m.u (10 + x)).time + ran x * 149796 + 149796 ∧ (mine x = 0 ∨ (m.u (10 + x)).time ≤ (m.u 10).time + 1048576 / wt x)
  bd : ∀ x, x < n → ran x ≤ m.now ∧ mine x ≤ m.now

section
variable {m m' : M} {n : Nat} {wt : Nat → Nat} {aw : Nat → Bool} {ran mine : Nat → Nat}

theorem Wk.th (h : Wk m n wt aw ran mine) {i : Nat} (hi : i < n) : (m.u (10 + i)).here = true := (h.here (10 + i) (by omega) (by have := h.n2; omega)).2 ⟨by omega, by omega⟩
theorem Wk.gr (h : Wk m n wt aw ran mine) {i : Nat} (hi : i < n) : grp m (10 + i) = 0 := by unfold grp; rw [h.inn i hi]; rfl
theorem Wk.ws (h : Wk m n wt aw ran mine) {i : Nat} (hi : i < n) : (m.u (10 + i)).was = (decide (i = 0) || aw i) := by
  rw [h.sync (10 + i) (by omega) (by have := h.n2; omega) (h.th hi)]
  unfold ready; rw [if_pos (by omega)]; exact h.awk i hi
/-- What is to be shown of who is awake. -/
theorem Wk.ok (h : Wk m n wt aw ran mine) {x : Nat} (h0 : 0 < x) (hx : x < n) (ha : aw x = true) : mine x * (1048576 / wt x) ≤ 1048576 / wt x + 149796 + ran x * 149796 := by
  have o := h.own x h0 hx ha
  rcases o.2 with e | e
  · rw [e, Nat.zero_mul]; exact Nat.zero_le _
  · generalize 1048576 / wt x = c at *
    generalize mine x * c = p at *
    omega
theorem Wk.task (h : Wk m n wt aw ran mine) {z : Int} (hz : taskE m z = 0) : ∃ x : Nat, z = x ∧ x < n := by
  obtain ⟨x, rfl, hx, hh⟩ := taskE_zero hz
  exact ⟨x, rfl, by have := (h.here (10 + x) (by omega) (by omega)).1 hh; omega⟩

theorem look_flat {u : Nat} (h0 : u ≠ 0) (hg : grp m u = 0) (k : Look m u m') : m' = line m u := by
  rcases k.inv with ⟨e, _⟩ | ⟨_, k⟩
  · exact absurd e h0
  · rw [hg] at k
    rcases k.inv with ⟨_, e⟩ | ⟨h, _⟩
    · exact e
    · exact absurd rfl h
def upN (f : Nat → Nat) (i v : Nat) : Nat → Nat := fun j => if j = i then v else f j
theorem upN_same (f : Nat → Nat) (i v : Nat) : upN f i v i = v := by simp [upN]
theorem upN_ne (f : Nat → Nat) (i v j : Nat) (h : j ≠ i) : upN f i v j = f j := by simp [upN, h]
def upB (f : Nat → Bool) (i : Nat) (v : Bool) : Nat → Bool := fun j => if j = i then v else f j
theorem upB_same (f : Nat → Bool) (i : Nat) (v : Bool) : upB f i v i = v := by simp [upB]
theorem upB_ne (f : Nat → Bool) (i : Nat) (v : Bool) (j : Nat) (h : j ≠ i) : upB f i v j = f j := by simp [upB, h]
def resN (f : Nat → Nat) (i : Nat) (c : Bool) : Nat → Nat := if c then upN f i 0 else f

/-- A task but the task 0 wakes up, or falls asleep. -/
theorem Wk.wake (h : Wk m n wt aw ran mine) {x : Nat} (h0 : 0 < x) (hx : x < n) {on : Bool} (k : WakeTo m x on m') : Wk m' n wt (upB aw x on) (resN ran x (on && !aw x)) (resN mine x (on && !aw x)) := by
  have hI := h.inv.wake k
  have hS := h.sync.wake h.inv k
  have hn2 := h.n2
  have hk : Look (m.set (10 + x) { m.u (10 + x) with awake := on }) (10 + x) m' := by
    rcases k with ⟨_, k⟩ | ⟨k, _⟩
    · exact k
    · exact absurd (taskE_nat (by omega) (h.th hx)) k
  obtain ⟨m1, hm1⟩ : ∃ m1, m.set (10 + x) { m.u (10 + x) with awake := on } = m1 := ⟨_, rfl⟩
  have hu1 : m1.u (10 + x) = { m.u (10 + x) with awake := on } := by rw [← hm1, set_same]
  have hn1 : ∀ v, v ≠ 10 + x → m1.u v = m.u v := fun v hv => by rw [← hm1, set_ne _ _ _ _ hv]
  rw [hm1] at hk
  have hg1 : grp m1 (10 + x) = 0 := by unfold grp; rw [hu1]; exact h.gr hx
  have e := look_flat (by omega) hg1 hk
  have hne : ∀ v, v ≠ 10 + x → m'.u v = m.u v := fun v hv => by rw [e]; unfold line; rw [set_ne _ _ _ _ hv, hn1 v hv]
  have hr : ready m1 (10 + x) = on := by unfold ready; rw [if_pos (by omega), hu1]
  have hsf : m'.u (10 + x) = { m.u (10 + x) with awake := on, was := on, time := if on && !aw x then max (m.u (10 + x)).time (m.u 0).floor else (m.u (10 + x)).time } := by
    rw [e]; unfold line; rw [set_same]; unfold lineU
    rw [hr, hg1, hu1, hn1 0 (by omega)]
    have : (m.u (10 + x)).was = aw x := by rw [h.ws hx, decide_eq_false (by omega), Bool.false_or]
    rw [this]
  have hfl := h.inv.fl 10 (by omega) (by omega) (h.th (i := 0) (by omega)) (by have := h.ws (i := 0) (by have := h.n1; omega); simpa using this)
  rw [show grp m 10 = 0 from h.gr (i := 0) (by have := h.n1; omega)] at hfl
  refine ⟨hI, hS, h.n1, h.n2, fun v v0 hv => ?_, fun i hi => ?_, fun i hi => ?_, fun u hu => ?_, fun i hi => ?_, h.w7, ?_, fun y y0 hy ha => ?_, fun y hy => ?_⟩
  · rw [← h.here v v0 hv]
    by_cases e : v = 10 + x
    · rw [e, hsf]
    · rw [hne v e]
  · by_cases e : i = x
    · rw [e, hsf]; exact h.inn x hx
    · rw [hne _ (by omega)]; exact h.inn i hi
  · by_cases e : i = x
    · rw [e, hsf]; exact h.wtE x hx
    · rw [hne _ (by omega)]; exact h.wtE i hi
  · rw [hne _ (by omega)]; exact h.quo u hu
  · by_cases e : i = x
    · rw [e, hsf, upB_same, decide_eq_false (by omega), Bool.false_or]
    · rw [hne _ (by omega), upB_ne _ _ _ _ e]; exact h.awk i hi
  · rw [hne _ (by omega), hne _ (by omega)]; exact h.t0
  · rw [hne 10 (by omega)]
    by_cases e : y = x
    · subst e
      rw [upB_same] at ha
      rw [hsf]
      subst ha
      cases hc : aw y
      · simp only [Bool.not_false, Bool.and_self, resN, if_true, upN_same, Nat.zero_mul, Nat.add_zero]
        have := h.t0
        refine ⟨?_, .inl trivial⟩
        show _ ≤ max _ _ + _
        omega
      · simp only [Bool.not_true, Bool.and_false, resN]
        exact h.own y y0 hy hc
    · rw [upB_ne _ _ _ _ e] at ha
      rw [hne _ (by omega)]
      have r1 : ∀ c f, resN f x c y = f y := fun c f => by unfold resN; split <;> simp [upN, e]
      rw [r1, r1]
      exact h.own y y0 hy ha
  · have hnow : m'.now = m.now := by rw [e]; show m1.now = m.now; rw [← hm1]; rfl
    rw [hnow]
    have := h.bd y hy
    unfold resN
    split
    · unfold upN; split <;> omega
    · exact this

def ranTo (n : Nat) (f : Nat → Nat) (y : Nat) : Nat → Nat := fun x => if y = 0 ∧ x ≠ 0 ∧ x < n then f x + 1 else f x
def mineTo (f : Nat → Nat) (y : Nat) : Nat → Nat := fun x => if x = y ∧ x ≠ 0 then f x + 1 else f x

/-- The first x of them have turned. -/
def mixN (f g : Nat → Nat) (x : Nat) : Nat → Nat := fun j => if j < x then g j else f j
theorem mixN_one (f g : Nat → Nat) (h : g 0 = f 0) : mixN f g 1 = f := by
  funext j; unfold mixN; split
  · obtain rfl : j = 0 := by omega
    exact h
  · rfl
theorem mixN_step (f g : Nat → Nat) (x : Nat) : mixN f g (x + 1) = upN (mixN f g x) x (g x) := by
  funext j; unfold mixN upN
  by_cases e : j = x
  · subst e; rw [if_pos (by omega), if_pos rfl]
  · rw [if_neg e]
    show _ = if j < x then g j else f j
    by_cases e2 : j < x
    · rw [if_pos e2, if_pos (by omega)]
    · rw [if_neg e2, if_neg (by omega)]
theorem mixN_keep (f g : Nat → Nat) (x : Nat) (h : g x = f x) : mixN f g (x + 1) = mixN f g x := by
  rw [mixN_step, h]
  funext j; unfold upN
  by_cases e : j = x
  · rw [if_pos e, e]; unfold mixN; rw [if_neg (by omega)]
  · rw [if_neg e]
theorem mixN_at (f g : Nat → Nat) (x : Nat) : mixN f g x x = f x := by unfold mixN; rw [if_neg (by omega)]
theorem mixN_all (f g : Nat → Nat) (n : Nat) (h : ∀ j, n ≤ j → g j = f j) : mixN f g n = g := by
  funext j; unfold mixN; split
  · rfl
  · exact (h j (by omega)).symm
theorem ranTo_all (n : Nat) (f : Nat → Nat) (y : Nat) : mixN f (ranTo n f y) n = ranTo n f y := mixN_all _ _ _ fun j hj => by unfold ranTo; rw [if_neg (by omega)]
theorem mineTo_all (n : Nat) (f : Nat → Nat) (y : Nat) (hy : y < n) : mixN f (mineTo f y) n = mineTo f y := mixN_all _ _ _ fun j hj => by unfold mineTo; rw [if_neg (by omega)]
/-- Who is taken where all are in the root. -/
theorem Wk.pick (h : Wk m n wt aw ran mine) {r : Int} (k : Tick m r m') : ∃ y, y < n ∧ r = y ∧ (y = 0 ∨ aw y = true) ∧ m' = payR (up1 m) (10 + y) ∧ (∀ i, i < n → (i = 0 ∨ aw i = true) → (m.u (10 + y)).time ≤ (m.u (10 + i)).time) := by
  have hn1 := h.n1
  obtain ⟨m1, k1, k2⟩ := k
  obtain rfl := renew_none k1 h.quo
  have hk0 : hasKid (up1 m1) 0 = true := hasKid_iff.2 ⟨10, by omega, kidB_iff.2 ⟨by omega, h.th (i := 0) (by omega), h.inn 0 (by omega), by show (m1.u (10 + 0)).was = true; rw [h.ws (i := 0) (by omega)]; rfl⟩⟩
  rcases k2 with ⟨p, _, _⟩ | ⟨t, p, rfl, q⟩
  · obtain ⟨t, e⟩ := pick_some h.sync.up1 p (by omega) hk0
    cases e
  · rcases p.inv with ⟨_, _, e⟩ | ⟨h', _⟩ | ⟨_, v, b, p⟩
    · cases e
    · omega
    · have kb := kidB_iff.1 b.kid
      have hv := (h.here v kb.1 b.lt).1 kb.2.1
      rcases p.inv with ⟨h', _⟩ | ⟨_, e⟩ | ⟨h', _⟩
      · omega
      · obtain rfl : t = v := Option.some.inj e
        obtain ⟨y, rfl⟩ : ∃ y, t = 10 + y := ⟨t - 10, by omega⟩
        have hy : y < n := by omega
        have hw : (m1.u (10 + y)).was = true := kb.2.2.2
        rw [h.ws hy] at hw
        refine ⟨y, hy, by omega, by simpa using hw, ?_, fun i hi ha => ?_⟩
        · have q1 := pays_up (by omega) q
          rw [show grp (up1 m1) (10 + y) = 0 from h.gr hy] at q1
          exact pays_root q1
        · have := b.least (10 + i) (by have := h.n2; omega) (kidB_iff.2 ⟨by omega, h.th hi, h.inn i hi, by show (m1.u (10 + i)).was = true; rw [h.ws hi]; simpa using ha⟩)
          rcases this with e | ⟨e, _⟩
          · exact Nat.le_of_lt e
          · exact Nat.le_of_eq e
      · omega

theorem Wk.tick (h : Wk m n wt aw ran mine) {r : Int} (k : Tick m r m') : ∃ y, y < n ∧ r = y ∧ (y = 0 ∨ aw y = true) ∧ Wk m' n wt aw (ranTo n ran y) (mineTo mine y) := by
  obtain ⟨y, hy, hr, hay, he, hl⟩ := h.pick k
  refine ⟨y, hy, hr, hay, ?_⟩
  have hI := h.inv.tick k
  have hS := h.sync.tick h.inv k
  have hn1 := h.n1
  have hn2 := h.n2
  have hg : grp (up1 m) (10 + y) = 0 := h.gr hy
  have hsf := payR_self (m := up1 m) (u := 10 + y) (by rw [hg]; omega)
  have hot : ∀ v, v ≠ 10 + y → (payR (up1 m) (10 + y)).u v = { m.u v with floor := if v = 0 then max (m.u v).floor (m.u (10 + y)).time else (m.u v).floor } := fun v hv => by
    rw [payR_other hv, hg]; rfl
  have hsf' : (payR (up1 m) (10 + y)).u (10 + y) = { m.u (10 + y) with time := (m.u (10 + y)).time + 1048576 / (m.u (10 + y)).weight, used := if 0 < (m.u (10 + y)).quota then (m.u (10 + y)).used + 1 else (m.u (10 + y)).used, ran := (m.u (10 + y)).ran + 1, was := ((payR (up1 m) (10 + y)).u (10 + y)).was } := hsf
  rw [← he] at hot hsf'
  have tsf : (m'.u (10 + y)).time = (m.u (10 + y)).time + 1048576 / wt y := by rw [hsf', ← h.wtE y hy]
  have tot : ∀ v, v ≠ 10 + y → (m'.u v).time = (m.u v).time := fun v hv => by rw [hot v hv]
  have hfl := h.inv.fl 10 (by omega) (by omega) (h.th (i := 0) (by omega)) (by have := h.ws (i := 0) (by omega); simpa using this)
  rw [show grp m 10 = 0 from h.gr (i := 0) (by omega)] at hfl
  have f0 : (m'.u 0).floor = max (m.u 0).floor (m.u (10 + y)).time := by rw [hot 0 (by omega)]; rfl
  refine ⟨hI.1, hS, hn1, hn2, fun v v0 hv => ?_, fun i hi => ?_, fun i hi => ?_, fun u hu => ?_, fun i hi => ?_, h.w7, ?_, fun x x0 hx ha => ?_, fun x hx => ?_⟩
  · rw [← h.here v v0 hv]
    by_cases e : v = 10 + y
    · rw [e, hsf']
    · rw [hot v e]
  · by_cases e : i = y
    · rw [e, hsf']; exact h.inn y hy
    · rw [hot _ (by omega)]; exact h.inn i hi
  · by_cases e : i = y
    · rw [e, hsf']; exact h.wtE y hy
    · rw [hot _ (by omega)]; exact h.wtE i hi
  · rw [hot _ (by omega)]; exact h.quo u hu
  · by_cases e : i = y
    · rw [e, hsf']; exact h.awk y hy
    · rw [hot _ (by omega)]; exact h.awk i hi
  · rw [f0]
    have := h.t0
    by_cases e : y = 0
    · subst e
      rw [tsf, h.w7]
      show _ + 1048576 / 7 ≤ max _ (m.u 10).time + _
      have : 1048576 / 7 = 149796 := by decide
      show (m.u 10).time + _ ≤ _
      omega
    · rw [tot 10 (by omega)]; omega
  · have o := h.own x x0 hx ha
    by_cases e : y = 0
    · subst e
      have t10 : (m'.u 10).time = (m.u 10).time + 149796 := by have := tsf; rw [h.w7] at this; exact this
      rw [t10, tot (10 + x) (by omega)]
      have e1 : ranTo n ran 0 x = ran x + 1 := by unfold ranTo; rw [if_pos ⟨rfl, by omega, hx⟩]
      have e2 : mineTo mine 0 x = mine x := by unfold mineTo; rw [if_neg (by omega)]
      rw [e1, e2]
      generalize 1048576 / wt x = c at *
      generalize mine x * c = p at *
      omega
    · rw [tot 10 (by omega)]
      have e1 : ranTo n ran y x = ran x := by unfold ranTo; rw [if_neg (by omega)]
      rw [e1]
      by_cases e' : x = y
      · subst e'
        have e2 : mineTo mine x x = mine x + 1 := by unfold mineTo; rw [if_pos ⟨rfl, by omega⟩]
        rw [e2, tsf, Nat.succ_mul]
        have l0 := hl 0 (by omega) (.inl rfl)
        have l0' : (m.u (10 + x)).time ≤ (m.u 10).time := l0
        generalize 1048576 / wt x = c at *
        generalize mine x * c = p at *
        omega
      · have e2 : mineTo mine y x = mine x := by unfold mineTo; rw [if_neg (by omega)]
        rw [e2, tot (10 + x) (by omega)]
        exact o
  · rw [hI.2]
    have := h.bd x hx
    unfold ranTo mineTo
    constructor <;> split <;> omega

/-- One more task, asleep. -/
theorem Wk.add (h : Wk m n wt (fun _ => false) (fun _ => 0) (fun _ => 0)) (hn : n < 16) {w : Int} (he : addTaskE m n 0 w = 0) : Wk (addTaskM m n 0 w) (n + 1) (upN wt n w.toNat) (fun _ => false) (fun _ => 0) (fun _ => 0) ∧ 1 ≤ w ∧ w ≤ 1000 ∧ (addTaskM m n 0 w).now = m.now := by
  have hI := h.inv.addTask n 0 w
  have hn1 := h.n1
  unfold addTaskM addM at *
  rw [if_pos he] at *
  unfold addTaskE at he
  rw [if_neg (by omega)] at he
  obtain ⟨g, x, hg, rfl, g1, g2, x1, x2, hno⟩ := addE_zero he
  obtain rfl : g = 0 := by omega
  rw [Int.toNat_natCast] at *
  rw [Int.toNat_natCast] at *
  have hS : Sync (m.set (10 + n) (Un.new ((0 : Nat) : Int) x)) := Sync.add h.inv h.sync (by omega) hno
  have hne : ∀ v, v ≠ 10 + n → (m.set (10 + n) (Un.new 0 x)).u v = m.u v := fun v hv => set_ne _ _ _ _ hv
  have hsf : (m.set (10 + n) (Un.new 0 x)).u (10 + n) = Un.new 0 x := set_same _ _ _
  refine ⟨⟨hI, hS, by omega, by omega, fun v v0 hv => ?_, fun i hi => ?_, fun i hi => ?_, fun u hu => ?_, fun i hi => ?_, ?_, ?_, fun y y0 hy ha => ?_, fun y hy => ?_⟩, by omega, by omega, rfl⟩
  · by_cases e : v = 10 + n
    · rw [e, hsf]; exact ⟨fun _ => ⟨by omega, by omega⟩, fun _ => rfl⟩
    · rw [hne v e, h.here v v0 hv]; omega
  · by_cases e : i = n
    · rw [e, hsf]; rfl
    · rw [hne _ (by omega)]; exact h.inn i (by omega)
  · by_cases e : i = n
    · rw [e, hsf, upN_same]; rfl
    · rw [hne _ (by omega), upN_ne _ _ _ _ e]; exact h.wtE i (by omega)
  · rw [hne _ (by omega)]; exact h.quo u hu
  · by_cases e : i = n
    · rw [e, hsf, decide_eq_false (by omega)]; rfl
    · rw [hne _ (by omega)]; exact h.awk i (by omega)
  · rw [upN_ne _ _ _ _ (by omega)]; exact h.w7
  · rw [hne _ (by omega), hne _ (by omega)]; exact h.t0
  · cases ha
  · exact ⟨Nat.zero_le _, Nat.zero_le _⟩
theorem wk_add0 : addTaskE m0 0 0 7 = 0 := by decide
/-- The task 0 is there, and wakes up. -/
theorem wk_start {m' : M} (k : WakeTo (addTaskM m0 0 0 7) 0 true m') : taskE (addTaskM m0 0 0 7) 0 = 0 ∧ Wk m' 1 (fun i => if i = 0 then 7 else 0) (fun _ => false) (fun _ => 0) (fun _ => 0) ∧ m'.now = 0 := by
  have hI0 := inv0.addTask 0 0 7
  have e0 : addTaskM m0 0 0 7 = m0.set 10 (Un.new 0 7) := by unfold addTaskM addM; rw [if_pos wk_add0]; rfl
  have hS0 : Sync (m0.set 10 (Un.new ((0 : Nat) : Int) 7)) := Sync.add inv0 sync0 (by omega) rfl
  rw [e0] at k hI0 ⊢
  have hT : taskE (m0.set 10 (Un.new 0 7)) 0 = 0 := by decide
  have hI := hI0.wake k
  have hS := Sync.wake hI0 hS0 k
  have hk : Look ((m0.set 10 (Un.new 0 7)).set 10 { (m0.set 10 (Un.new 0 7)).u 10 with awake := true }) 10 m' := by
    rcases k with ⟨_, k⟩ | ⟨k, _⟩
    · exact k
    · exact absurd hT k
  rw [set_set, set_same] at hk
  have e := look_flat (by omega) (by unfold grp; rw [set_same]; rfl) hk
  have hne : ∀ v, v ≠ 10 → m'.u v = m0.u v := fun v hv => by rw [e]; unfold line; rw [set_ne _ _ _ _ hv, set_ne _ _ _ _ hv]
  have hsf : m'.u 10 = { Un.new 0 7 with awake := true, was := true } := by
    rw [e]; unfold line; rw [set_same]; unfold lineU
    have hg : grp (m0.set 10 { Un.new 0 7 with awake := true }) 10 = 0 := by unfold grp; rw [set_same]; rfl
    rw [hg, set_same, set_ne _ _ _ _ (by omega)]
    have hr : ready (m0.set 10 { Un.new 0 7 with awake := true }) 10 = true := by unfold ready; rw [if_pos (by omega), set_same]
    rw [hr]; rfl
  refine ⟨hT, ⟨hI, hS, by omega, by omega, fun v v0 hv => ?_, fun i hi => ?_, fun i hi => ?_, fun u hu => ?_, fun i hi => ?_, rfl, ?_, fun y y0 hy ha => ?_, fun y hy => ?_⟩, by rw [e]; rfl⟩
  · by_cases e : v = 10
    · rw [e, hsf]; exact ⟨fun _ => ⟨by omega, by omega⟩, fun _ => rfl⟩
    · rw [hne v e, m0_ne v (by omega)]
      exact ⟨fun c => (by cases c), fun c => (by omega)⟩
  · obtain rfl : i = 0 := by omega
    rw [hsf]; rfl
  · obtain rfl : i = 0 := by omega
    rw [hsf]; rfl
  · rw [hne _ (by omega)]
    by_cases e : u = 0
    · rw [e]; rfl
    · rw [m0_ne u e]; rfl
  · obtain rfl : i = 0 := by omega
    rw [hsf]; rfl
  · rw [hsf, hne 0 (by omega)]; exact Nat.zero_le _
  · cases ha
  · exact ⟨Nat.zero_le _, Nat.zero_le _⟩
end
end Fr
end Go.Proofs.Ytkbfmjdfhacikaa

/- TopFair, plain: who is awake has its share. -/
import Derived.Test.YtkbfmjdfhacikaaSy
namespace Go.Proofs.Ytkbfmjdfhacikaa
namespace Fr

def up' (f : Nat → Nat) (i v : Nat) : Nat → Nat := fun j => if j = i then v else f j
theorem up'_same (f : Nat → Nat) (i v : Nat) : up' f i v i = v := by simp [up']
theorem up'_ne (f : Nat → Nat) (i v j : Nat) (h : j ≠ i) : up' f i v j = f j := by simp [up', h]

/-- Groups 1 to j less 1 in the root, n tasks in them, the first k awake. -/
structure Tf (m : M) (j n k : Nat) (wt gf gw : Nat → Nat) : Prop where
  inv : Inv m
  sync : Sync m
  j4 : 1 ≤ j ∧ j ≤ 4
  n12 : n ≤ 12
  here : ∀ v, 0 < v → v < 30 → ((m.u v).here = true ↔ v < j ∨ (10 ≤ v ∧ v < 10 + n))
  inG : ∀ g, 0 < g → g < j → (m.u g).inn = 0 ∧ (m.u g).weight = gw g
  inT : ∀ i, i < n → (m.u (10 + i)).inn = (gf i : Int) ∧ (m.u (10 + i)).weight = wt i ∧ gf i < j
  quo : ∀ u, u < 10 → (m.u u).quota = 0 ∧ (m.u u).frozen = false
  awk : ∀ i, i < n → (m.u (10 + i)).awake = decide (i < k)
  tm : ∀ u, 0 < u → u < 30 → (m.u u).here = true → (m.u u).time = (m.u u).ran * (1048576 / (m.u u).weight)
/-- Nothing ran yet. -/
def Zr (m : M) : Prop := m.now = 0 ∧ ∀ u, u < 30 → (m.u u).time = 0 ∧ (m.u u).floor = 0 ∧ (m.u u).ran = 0

theorem tf0 : Tf m0 1 0 0 (fun _ => 0) (fun _ => 0) (fun _ => 0) ∧ Zr m0 := by
  refine ⟨⟨inv0, sync0, ⟨by omega, by omega⟩, by omega, fun v v0 _ => ?_, fun g g0 hg => by omega, fun i hi => by omega, fun u hu => ?_, fun i hi => by omega, fun u u0 _ hh => ?_⟩, rfl, fun u hu => ?_⟩
  · rw [m0_ne v (by omega)]
    exact ⟨fun c => (by cases c), fun c => (by omega)⟩
  · by_cases e : u = 0
    · rw [e]; exact ⟨rfl, rfl⟩
    · rw [m0_ne u e]; exact ⟨rfl, rfl⟩
  · rw [m0_ne u (by omega)] at hh; cases hh
  · by_cases e : u = 0
    · rw [e]; exact ⟨rfl, rfl, rfl⟩
    · rw [m0_ne u e]; exact ⟨rfl, rfl, rfl⟩
section
variable {m m' : M} {j n k : Nat} {wt gf gw : Nat → Nat}
theorem Tf.hG (h : Tf m j n k wt gf gw) {g : Nat} (g0 : 0 < g) (hg : g < j) : (m.u g).here = true := (h.here g g0 (by have := h.j4; omega)).2 (.inl hg)
theorem Tf.hT (h : Tf m j n k wt gf gw) {i : Nat} (hi : i < n) : (m.u (10 + i)).here = true := (h.here (10 + i) (by omega) (by have := h.n12; omega)).2 (.inr ⟨by omega, by omega⟩)
theorem Tf.addGroup (h : Tf m j n k wt gf gw) (z : Zr m) (hj : j < 4) {w : Nat} (hw : 1 ≤ w ∧ w ≤ 1000) : addGroupE m j 0 w = 0 ∧ Tf (addGroupM m j 0 w) (j + 1) n k wt gf (up' gw j w) ∧ Zr (addGroupM m j 0 w) := by
  have j1 := h.j4.1
  have hno : (m.u j).here = false := by
    cases hc : (m.u j).here
    · rfl
    · have := (h.here j (by omega) (by omega)).1 hc; omega
  have he : addGroupE m j 0 w = 0 := by
    unfold addGroupE addE
    rw [if_neg (by omega), if_neg (by omega), Int.toNat_natCast, hno]
    exact groupE_nat (n := 0) (by omega) h.inv.root
  have hI := h.inv.addGroup j 0 w
  refine ⟨he, ?_⟩
  unfold addGroupM addM at *
  rw [if_pos he, Int.toNat_natCast, Int.toNat_natCast] at *
  have hS : Sync (m.set j (Un.new ((0 : Nat) : Int) w)) := Sync.add h.inv h.sync (by omega) hno
  have hne : ∀ v, v ≠ j → (m.set j (Un.new 0 w)).u v = m.u v := fun v hv => set_ne _ _ _ _ hv
  have hsf : (m.set j (Un.new 0 w)).u j = Un.new 0 w := set_same _ _ _
  refine ⟨⟨hI, hS, ⟨by omega, by omega⟩, h.n12, fun v v0 hv => ?_, fun g g0 hg => ?_, fun i hi => ?_, fun u hu => ?_, fun i hi => ?_, fun u u0 hu hh => ?_⟩, z.1, fun u hu => ?_⟩
  · by_cases e : v = j
    · rw [e, hsf]; exact ⟨fun _ => .inl (by omega), fun _ => rfl⟩
    · rw [hne v e, h.here v v0 hv]; omega
  · by_cases e : g = j
    · rw [e, hsf, up'_same]; exact ⟨rfl, rfl⟩
    · rw [hne g e, up'_ne _ _ _ _ e]; exact h.inG g g0 (by omega)
  · rw [hne _ (by omega)]
    have := h.inT i hi
    exact ⟨this.1, this.2.1, by omega⟩
  · by_cases e : u = j
    · rw [e, hsf]; exact ⟨rfl, rfl⟩
    · rw [hne u e]; exact h.quo u hu
  · rw [hne _ (by omega)]; exact h.awk i hi
  · by_cases e : u = j
    · rw [e, hsf]; show 0 = 0 * _; rw [Nat.zero_mul]
    · rw [hne u e] at hh ⊢; exact h.tm u u0 hu hh
  · by_cases e : u = j
    · rw [e, hsf]; exact ⟨rfl, rfl, rfl⟩
    · rw [hne u e]; exact z.2 u hu
theorem Tf.addTask (h : Tf m j n 0 wt gf gw) (z : Zr m) (hn : n < 12) {g : Nat} {w : Int} (he : addTaskE m n g w = 0) : Tf (addTaskM m n g w) j (n + 1) 0 (up' wt n w.toNat) (up' gf n g) gw ∧ Zr (addTaskM m n g w) ∧ 1 ≤ w ∧ w ≤ 1000 := by
  have j4 := h.j4
  have hI := h.inv.addTask n g w
  unfold addTaskM addM at *
  rw [if_pos he] at *
  unfold addTaskE at he
  rw [if_neg (by omega)] at he
  obtain ⟨g', x, hg, rfl, g1, g2, x1, x2, hno⟩ := addE_zero he
  obtain rfl : g = g' := by omega
  rw [Int.toNat_natCast] at *
  rw [Int.toNat_natCast] at *
  have hgj : g < j := by
    by_cases e : g = 0
    · omega
    · have := (h.here g (by omega) (by omega)).1 g2; omega
  have hS : Sync (m.set (10 + n) (Un.new (g : Int) x)) := Sync.add h.inv h.sync (by omega) hno
  have hne : ∀ v, v ≠ 10 + n → (m.set (10 + n) (Un.new g x)).u v = m.u v := fun v hv => set_ne _ _ _ _ hv
  have hsf : (m.set (10 + n) (Un.new g x)).u (10 + n) = Un.new g x := set_same _ _ _
  refine ⟨⟨hI, hS, h.j4, by omega, fun v v0 hv => ?_, fun g g0 hg => ?_, fun i hi => ?_, fun u hu => ?_, fun i hi => ?_, fun u u0 hu hh => ?_⟩, ⟨z.1, fun u hu => ?_⟩, by omega, by omega⟩
  · by_cases e : v = 10 + n
    · rw [e, hsf]; exact ⟨fun _ => .inr ⟨by omega, by omega⟩, fun _ => rfl⟩
    · rw [hne v e, h.here v v0 hv]; omega
  · rw [hne g (by omega)]; exact h.inG g g0 hg
  · by_cases e : i = n
    · rw [e, hsf, up'_same, up'_same]; exact ⟨rfl, rfl, hgj⟩
    · rw [hne _ (by omega), up'_ne _ _ _ _ e, up'_ne _ _ _ _ e]; exact h.inT i (by omega)
  · rw [hne u (by omega)]; exact h.quo u hu
  · by_cases e : i = n
    · rw [e, hsf]; rfl
    · rw [hne _ (by omega)]; exact h.awk i (by omega)
  · by_cases e : u = 10 + n
    · rw [e, hsf]; show 0 = 0 * _; rw [Nat.zero_mul]
    · rw [hne u e] at hh ⊢; exact h.tm u u0 hu hh
  · by_cases e : u = 10 + n
    · rw [e, hsf]; exact ⟨rfl, rfl, rfl⟩
    · rw [hne u e]; exact z.2 u hu
theorem zr_line (z : Zr m) (hI : Inv m) {u : Nat} (u0 : 0 < u) (hu : u < 30) (hh : (m.u u).here = true) : Zr (line m u) := by
  refine ⟨z.1, fun v hv => ?_⟩
  unfold line
  by_cases e : v = u
  · rw [e, set_same]
    have zu := z.2 u hu
    have zg := (z.2 (grp m u) (by have := (hI.grp u0 hu hh).1; omega)).2.1
    refine ⟨?_, zu.2.1, zu.2.2⟩
    show (if ready m u && !(m.u u).was then max (m.u u).time (m.u (grp m u)).floor else (m.u u).time) = 0
    rw [zu.1, zg]; split <;> rfl
  · rw [set_ne _ _ _ _ e]; exact z.2 v hv
theorem zr_look {u : Nat} (k : Look m u m') : Zr m → Inv m → u < 30 → (m.u u).here = true → Zr m' := by
  induction k using Look.ind with
  | root m => exact fun z _ _ _ => z
  | up h0 _ ih =>
    intro z hI hu hh
    have g := hI.grp (by omega) hu hh
    exact ih (zr_line z hI (by omega) hu hh) (hI.line (by omega) hu hh) (by omega) (by rw [line_here]; exact g.2.2.1)
theorem Tf.wake (h : Tf m j n k wt gf gw) (z : Zr m) (hk : k < n) (w : WakeTo m k true m') : Tf m' j n (k + 1) wt gf gw ∧ Zr m' := by
  have hn := h.n12
  have hh := h.hT hk
  have hI := h.inv.wake w
  have hS := h.sync.wake h.inv w
  have hl : Look (m.set (10 + k) { m.u (10 + k) with awake := true }) (10 + k) m' := by
    rcases w with ⟨_, w⟩ | ⟨w, _⟩
    · exact w
    · exact absurd (taskE_nat (by omega) hh) w
  obtain ⟨m1, hm1⟩ : ∃ m1, m.set (10 + k) { m.u (10 + k) with awake := true } = m1 := ⟨_, rfl⟩
  have hu1 : m1.u (10 + k) = { m.u (10 + k) with awake := true } := by rw [← hm1, set_same]
  have hn1 : ∀ v, v ≠ 10 + k → m1.u v = m.u v := fun v hv => by rw [← hm1, set_ne _ _ _ _ hv]
  rw [hm1] at hl
  have t := Turn.of h.inv (show 10 + k < 30 by omega) hh
  have hI1 : Inv m1 := by rw [← hm1]; exact h.inv.turn (by omega) hh ⟨t.here, t.inn, t.weight, t.floor, t.quo, t.per, t.fl, t.tm⟩
  have z1 : Zr m1 := ⟨by rw [← hm1]; exact z.1, fun v hv => by
    by_cases e : v = 10 + k
    · rw [e, hu1]; exact z.2 (10 + k) (by omega)
    · rw [hn1 v e]; exact z.2 v hv⟩
  have zz := zr_look hl z1 hI1 (by omega) (by rw [hu1]; exact hh)
  have kp := look_keep hl
  have lk := look_here hl
  refine ⟨⟨hI, hS, h.j4, h.n12, fun v v0 hv => ?_, fun g g0 hg => ?_, fun i hi => ?_, fun u hu => ?_, fun i hi => ?_, fun u u0 hu _ => ?_⟩, zz⟩
  · rw [(lk.2 v).1, ← h.here v v0 hv]
    by_cases e : v = 10 + k
    · rw [e, hu1]
    · rw [hn1 v e]
  · rw [kp g, hn1 g (by have := h.j4; omega)]; exact h.inG g g0 hg
  · rw [kp (10 + i)]
    by_cases e : i = k
    · rw [e, hu1]; exact h.inT k hk
    · rw [hn1 _ (by omega)]; exact h.inT i hi
  · rw [kp u, hn1 u (by omega)]; exact h.quo u hu
  · rw [kp (10 + i)]
    show (m1.u (10 + i)).awake = _
    by_cases e : i = k
    · rw [e, hu1, decide_eq_true (by omega)]
    · rw [hn1 _ (by omega), h.awk i hi]
      rw [decide_eq_decide]; omega
  · have := zz.2 u hu
    rw [this.1, this.2.2, Nat.zero_mul]

/-- A unit that has a task that is awake: a task, or the group of one. -/
def Busy (n : Nat) (gf : Nat → Nat) (u : Nat) : Prop := (10 ≤ u ∧ u < 10 + n) ∨ (0 < u ∧ u < 10 ∧ ∃ i, i < n ∧ gf i = u)
/-- .. has its share: but for one step. -/
def Even (m : M) (n : Nat) (gf : Nat → Nat) : Prop := ∀ a b, Busy n gf a → Busy n gf b → grp m a = grp m b → (m.u a).time ≤ (m.u b).time + 1048576 / (m.u a).weight
theorem Tf.grT (h : Tf m j n k wt gf gw) {i : Nat} (hi : i < n) : grp m (10 + i) = gf i := by unfold grp; rw [(h.inT i hi).1]; rfl
theorem Tf.grG (h : Tf m j n k wt gf gw) {g : Nat} (g0 : 0 < g) (hg : g < j) : grp m g = 0 := by unfold grp; rw [(h.inG g g0 hg).1]; rfl
theorem Tf.wsT (h : Tf m j n n wt gf gw) {i : Nat} (hi : i < n) : (m.u (10 + i)).was = true := by
  rw [h.sync (10 + i) (by omega) (by have := h.n12; omega) (h.hT hi)]
  unfold ready; rw [if_pos (by omega), h.awk i hi, decide_eq_true hi]
theorem Tf.wsG (h : Tf m j n n wt gf gw) {g i : Nat} (g0 : 0 < g) (hi : i < n) (e : gf i = g) : (m.u g).was = true := by
  have hg : g < j := by rw [← e]; exact (h.inT i hi).2.2
  have j4 := h.j4
  rw [h.sync g g0 (by omega) (h.hG g0 hg)]
  unfold ready mayB
  rw [if_neg (by omega), (h.quo g (by omega)).1, (h.quo g (by omega)).2, hasKid_iff.2 ⟨10 + i, by have := h.n12; omega, kidB_iff.2 ⟨by omega, h.hT hi, by rw [(h.inT i hi).1, e], h.wsT hi⟩⟩]
  rfl
theorem Tf.busy (h : Tf m j n n wt gf gw) {u : Nat} (hb : Busy n gf u) : 0 < u ∧ u < 30 ∧ (m.u u).here = true ∧ (m.u u).was = true := by
  have hn := h.n12
  rcases hb with ⟨h1, h2⟩ | ⟨h1, h2, i, hi, e⟩
  · obtain ⟨i, rfl⟩ : ∃ i, u = 10 + i := ⟨u - 10, by omega⟩
    exact ⟨by omega, by omega, h.hT (by omega), h.wsT (by omega)⟩
  · exact ⟨h1, by omega, h.hG h1 (by rw [← e]; exact (h.inT i hi).2.2), h.wsG h1 hi e⟩
theorem even_zr (z : Zr m) (h : Tf m j n n wt gf gw) : Even m n gf := fun a b ha hb _ => by
  rw [(z.2 a (h.busy ha).2.1).1]; exact Nat.zero_le _

/-- One payment of one that was taken. -/
theorem Even.pay (h : Even m n gf) {u : Nat} (hg : grp m u ≠ u) (hb : ∀ b, Busy n gf b → 0 < b ∧ b < 30 ∧ (m.u b).here = true ∧ (m.u b).was = true) (hl : ∀ v, 0 < v → v < 30 → (m.u v).here = true → grp m v = grp m u → (m.u v).was = true → (m.u u).time ≤ (m.u v).time) : Even (payR m u) n gf := by
  have t : ∀ v, ((payR m u).u v).time = if v = u then (m.u u).time + 1048576 / (m.u u).weight else (m.u v).time := fun v => by
    by_cases e : v = u
    · rw [if_pos e, e, payR_self hg]
    · rw [if_neg e, payR_other e]
  have w : ∀ v, ((payR m u).u v).weight = (m.u v).weight := fun v => by
    by_cases e : v = u
    · rw [e, payR_self hg]
    · rw [payR_other e]
  intro a b ha hb' e
  rw [payR_grp, payR_grp] at e
  have old := h a b ha hb' e
  rw [t a, t b, w a]
  by_cases ea : a = u
  · subst ea
    rw [if_pos rfl]
    by_cases eb : b = a
    · rw [if_pos eb]; exact Nat.le_add_right _ _
    · rw [if_neg eb]
      have f := hb b hb'
      have := hl b f.1 f.2.1 f.2.2.1 e.symm f.2.2.2
      exact Nat.add_le_add_right this _
  · rw [if_neg ea]
    by_cases eb : b = u
    · rw [if_pos eb, ← eb]
      exact Nat.le_trans old (by rw [Nat.add_right_comm]; exact Nat.le_add_right _ _)
    · rw [if_neg eb]; exact old

def Tmr (m : M) : Prop := ∀ u, 0 < u → u < 30 → (m.u u).here = true → (m.u u).time = (m.u u).ran * (1048576 / (m.u u).weight)
theorem Tmr.pay (h : Tmr m) {u : Nat} (hg : grp m u ≠ u) : Tmr (payR m u) := fun v v0 hv hh => by
  rw [payR_here] at hh
  have o := h v v0 hv hh
  by_cases e : v = u
  · subst e
    rw [payR_self hg]
    show (m.u v).time + 1048576 / (m.u v).weight = ((m.u v).ran + 1) * (1048576 / (m.u v).weight)
    rw [Nat.succ_mul, o]
  · rw [payR_other e]; exact o
theorem Tf.seen (h : Tf m j n n wt gf gw) (hn : 0 < n) : hasKid m 0 = true := by
  have n12 := h.n12
  by_cases e : gf 0 = 0
  · exact hasKid_iff.2 ⟨10 + 0, by omega, kidB_iff.2 ⟨by omega, h.hT hn, by rw [(h.inT 0 hn).1, e], h.wsT hn⟩⟩
  · have hg := (h.inT 0 hn).2.2
    have j4 := h.j4
    exact hasKid_iff.2 ⟨gf 0, by omega, kidB_iff.2 ⟨by omega, h.hG (by omega) hg, (h.inG _ (by omega) hg).1, h.wsG (by omega) hn rfl⟩⟩
theorem Tf.up1 (h : Tf m j n k wt gf gw) : Tf (up1 m) j n k wt gf gw := ⟨h.inv.up1, h.sync, h.j4, h.n12, h.here, h.inG, h.inT, h.quo, h.awk, h.tm⟩

theorem Tf.tick (h : Tf m j n n wt gf gw) (E : Even m n gf) {r : Int} (k : Tick m r m') : Tf m' j n n wt gf gw ∧ Even m' n gf ∧ m'.now = m.now + 1 ∧ ((n = 0 ∧ r = -1 ∧ ∀ v, (m'.u v).ran = (m.u v).ran) ∨ ∃ y, y < n ∧ r = (y : Int) ∧ (∀ i, i < n → (m'.u (10 + i)).ran = (m.u (10 + i)).ran + if i = y then 1 else 0) ∧ ∀ g, 0 < g → g < 10 → (m'.u g).ran = (m.u g).ran + if gf y = g then 1 else 0) := by
  have hIm := h.inv.tick k
  have hSm := h.sync.tick h.inv k
  have n12 := h.n12
  have j4 := h.j4
  obtain ⟨m1, k1, k2⟩ := k
  obtain e1 := renew_none k1 (fun u hu => (h.quo u hu).1)
  subst e1
  have h2 := h.up1
  rcases k2 with ⟨pk, rfl, rfl⟩ | ⟨t, pk, rfl, q2⟩
  · refine ⟨h2, E, hIm.2, .inl ⟨?_, rfl, fun _ => rfl⟩⟩
    refine Nat.eq_zero_of_not_pos fun hn => ?_
    obtain ⟨t, e⟩ := pick_some h2.sync pk (by omega) (h2.seen hn)
    cases e
  · obtain ⟨rk, R, hG, h10⟩ := going_of h.inv pk
    have ht := hG.facts (by omega)
    have hv := (h2.here t (by omega) hG.lt).1 ht.1
    obtain ⟨y, rfl⟩ : ∃ y, t = 10 + y := ⟨t - 10, by omega⟩
    have hy : y < n := by omega
    have hgy : grp (Fr.up1 m1) (10 + y) = gf y := h2.grT hy
    have hgj := (h.inT y hy).2.2
    have hgne : grp (Fr.up1 m1) (10 + y) ≠ 10 + y := by rw [hgy]; omega
    have kp := pays_keep q2 hG
    have E1 : Even (Fr.payR (Fr.up1 m1) (10 + y)) n gf := Even.pay (m := Fr.up1 m1) E hgne (fun b hb => h2.busy hb) ht.2.2.1
    have T1 : Tmr (Fr.payR (Fr.up1 m1) (10 + y)) := Tmr.pay h2.tm hgne
    have r1 : ∀ v, ((Fr.payR (Fr.up1 m1) (10 + y)).u v).ran = (m1.u v).ran + if v = 10 + y then 1 else 0 := fun v => by
      by_cases e : v = 10 + y
      · rw [if_pos e, e, payR_self hgne]; rfl
      · rw [if_neg e, payR_other e]; rfl
    have q3 := pays_up (by omega) q2
    rw [hgy] at q3
    have fin : Even m' n gf ∧ Tmr m' ∧ (∀ v, v < 30 → 0 < v → (m'.u v).ran = (m1.u v).ran + if v = 10 + y ∨ v = gf y then 1 else 0) := by
      by_cases e0 : gf y = 0
      · rw [e0] at q3
        rw [pays_root q3]
        refine ⟨E1, T1, fun v _ v0 => ?_⟩
        rw [r1 v]
        by_cases e : v = 10 + y
        · rw [if_pos e, if_pos (.inl e)]
        · rw [if_neg e, if_neg (by omega)]
      · have hG2 := hG.next (by omega)
        rw [hgy] at hG2
        have f2 := hG2.facts (by omega)
        have q4 := pays_up e0 q3
        have hg0 : grp (Fr.payR (Fr.up1 m1) (10 + y)) (gf y) = 0 := by rw [payR_grp]; exact h2.grG (by omega) hgj
        rw [hg0] at q4
        rw [pays_root q4]
        have hne2 : grp (Fr.payR (Fr.up1 m1) (10 + y)) (gf y) ≠ gf y := by rw [hg0]; omega
        have hb2 : ∀ b, Busy n gf b → 0 < b ∧ b < 30 ∧ ((Fr.payR (Fr.up1 m1) (10 + y)).u b).here = true ∧ ((Fr.payR (Fr.up1 m1) (10 + y)).u b).was = true := fun b hb => by
          have bb := h2.busy hb
          refine ⟨bb.1, bb.2.1, by rw [payR_here]; exact bb.2.2.1, ?_⟩
          by_cases e : b = 10 + y
          · rw [e, payR_was hgne]
            unfold ready
            rw [if_pos (by omega), payR_self hgne]
            show ((Fr.up1 m1).u (10 + y)).awake = true
            rw [h2.awk y hy, decide_eq_true hy]
          · rw [(payR_tw e).2.1]; exact bb.2.2.2
        refine ⟨E1.pay hne2 hb2 f2.2.2.1, T1.pay hne2, fun v _ v0 => ?_⟩
        by_cases e : v = gf y
        · rw [e, payR_self hne2]
          show ((Fr.payR (Fr.up1 m1) (10 + y)).u (gf y)).ran + 1 = _
          rw [r1 (gf y), if_neg (by omega), if_pos (Or.inr rfl)]
        · rw [payR_other e]
          show ((Fr.payR (Fr.up1 m1) (10 + y)).u v).ran = _
          rw [r1 v]
          by_cases e' : v = 10 + y
          · rw [if_pos e', if_pos (.inl e')]
          · rw [if_neg e', if_neg (by omega)]
    refine ⟨⟨hIm.1, hSm, h.j4, h.n12, fun v v0 hv => by rw [(kp v).1]; exact h2.here v v0 hv, fun g g0 hg => by rw [(kp g).2.1, (kp g).2.2.1]; exact h2.inG g g0 hg, fun i hi => by rw [(kp _).2.1, (kp _).2.2.1]; exact h2.inT i hi, fun u hu => by rw [(kp u).2.2.2.2.2.1, (kp u).2.2.2.2.1]; exact h2.quo u hu, fun i hi => by rw [(kp _).2.2.2.1]; exact h2.awk i hi, fin.2.1⟩, fin.1, hIm.2, .inr ⟨y, hy, by omega, fun i hi => ?_, fun g g0 hg => ?_⟩⟩
    · rw [fin.2.2 (10 + i) (by omega) (by omega)]
      by_cases e : i = y
      · rw [if_pos e, if_pos (.inl (by omega))]
      · rw [if_neg e, if_neg (by omega)]
    · rw [fin.2.2 g (by omega) g0]
      by_cases e : gf y = g
      · rw [if_pos e, if_pos (.inr e.symm)]
      · rw [if_neg e, if_neg (by omega)]

/-- What is to be shown: of two tasks of one group. -/
theorem Tf.ok (h : Tf m j n n wt gf gw) (E : Even m n gf) {a b : Nat} (ha : a < n) (hb : b < n) (e : gf a = gf b) : (m.u (10 + a)).ran * (1048576 / wt a) ≤ (m.u (10 + b)).ran * (1048576 / wt b) + 1048576 / wt a := by
  have n12 := h.n12
  have := E (10 + a) (10 + b) (.inl ⟨by omega, by omega⟩) (.inl ⟨by omega, by omega⟩) (by rw [h.grT ha, h.grT hb, e])
  rw [h.tm (10 + a) (by omega) (by omega) (h.hT ha), h.tm (10 + b) (by omega) (by omega) (h.hT hb), (h.inT a ha).2.1, (h.inT b hb).2.1] at this
  exact this
/-- .. of two groups that have tasks. -/
theorem Tf.okG (h : Tf m j n n wt gf gw) (E : Even m n gf) {a b : Nat} (ha : a < n) (hb : b < n) (ga : gf a ≠ 0) (gb : gf b ≠ 0) : (m.u (gf a)).ran * (1048576 / gw (gf a)) ≤ (m.u (gf b)).ran * (1048576 / gw (gf b)) + 1048576 / gw (gf a) := by
  have j4 := h.j4
  have la := (h.inT a ha).2.2
  have lb := (h.inT b hb).2.2
  have := E (gf a) (gf b) (.inr ⟨by omega, by omega, a, ha, rfl⟩) (.inr ⟨by omega, by omega, b, hb, rfl⟩) (by rw [h.grG (by omega) la, h.grG (by omega) lb])
  rw [h.tm (gf a) (by omega) (by omega) (h.hG (by omega) la), h.tm (gf b) (by omega) (by omega) (h.hG (by omega) lb), (h.inG _ (by omega) la).2, (h.inG _ (by omega) lb).2] at this
  exact this
end
end Fr
end Go.Proofs.Ytkbfmjdfhacikaa

import Derived.Test.YtghogbngmcolmaaGreatSay
import Derived.Test.YtghogbngmcolmaaGreatSbi
import Derived.Test.YtghogbngmcolmaaGreatSaa
import Derived.Test.YtghogbngmcolmaaGreatSbe
namespace Go.Proofs.YtghogbngmcolmaaGreat.Fa
namespace Fr
def up' (f : Nat → Nat) (i v : Nat) : Nat → Nat := fun j => if j = i then v else f j
theorem up'_same (f : Nat → Nat) (i v : Nat) : up' f i v i = v := by simp [up']
theorem up'_ne (f : Nat → Nat) (i v j : Nat) (h : j ≠ i) : up' f i v j = f j := by simp [up', h]
structure Tf (m : M) (j n k : Nat) (wt gf gw : Nat → Nat) : Prop where
  inv : Inv m
  sync : Sync m
  j4 : 1 ≤ j ∧ j ≤ 4
  n12 : n ≤ 12
  here : ∀ v, 0 < v → v < 30 → ((m.u v).here = true ↔ v < j ∨ (10 ≤ v ∧ v < 10 + n))
  inG : ∀ g, 0 < g → g < j → (m.u g).inn = 0 ∧ (m.u g).weight = gw g
  inT : ∀ i, i < n → (m.u (10 + i)).inn = (gf i : Int) ∧ (m.u (10 + i)).weight = wt i ∧ gf i < j
  quo : ∀ u, u < 10 → (m.u u).quota = 0 ∧ (m.u u).frozen = false
  awk : ∀ i, i < n → (m.u (10 + i)).awake = decide (i < k)
  tm : ∀ u, 0 < u → u < 30 → (m.u u).here = true → (m.u u).time = (m.u u).ran * (1048576 / (m.u u).weight)
def Zr (m : M) : Prop := m.now = 0 ∧ ∀ u, u < 30 → (m.u u).time = 0 ∧ (m.u u).floor = 0 ∧ (m.u u).ran = 0
theorem tf0 : Tf m0 1 0 0 (fun _ => 0) (fun _ => 0) (fun _ => 0) ∧ Zr m0 := by
  refine ⟨⟨inv0, sync0, ⟨by omega, by omega⟩, by omega, fun v v0 _ => ?_, fun g g0 hg => by omega, fun i hi => by omega, fun u hu => ?_, fun i hi => by omega, fun u u0 _ hh => ?_⟩, rfl, fun u hu => ?_⟩
  · rw [m0_ne v (by omega)]
    exact ⟨fun c => (by cases c), fun c => (by omega)⟩
  · by_cases e : u = 0
    · rw [e]; exact ⟨rfl, rfl⟩
    · rw [m0_ne u e]; exact ⟨rfl, rfl⟩
  · rw [m0_ne u (by omega)] at hh; cases hh
  · by_cases e : u = 0
    · rw [e]; exact ⟨rfl, rfl, rfl⟩
    · rw [m0_ne u e]; exact ⟨rfl, rfl, rfl⟩
section
variable {m m' : M} {j n k : Nat} {wt gf gw : Nat → Nat}
theorem Tf.hG (h : Tf m j n k wt gf gw) {g : Nat} (g0 : 0 < g) (hg : g < j) : (m.u g).here = true := (h.here g g0 (by have := h.j4; omega)).2 (.inl hg)
theorem Tf.hT (h : Tf m j n k wt gf gw) {i : Nat} (hi : i < n) : (m.u (10 + i)).here = true := (h.here (10 + i) (by omega) (by have := h.n12; omega)).2 (.inr ⟨by omega, by omega⟩)
theorem Tf.addTask (h : Tf m j n 0 wt gf gw) (z : Zr m) (hn : n < 12) {g : Nat} {w : Int} (he : addTaskE m n g w = 0) : Tf (addTaskM m n g w) j (n + 1) 0 (up' wt n w.toNat) (up' gf n g) gw ∧ Zr (addTaskM m n g w) ∧ 1 ≤ w ∧ w ≤ 1000 := by
  have j4 := h.j4
  have hI := h.inv.addTask n g w
  unfold addTaskM addM at *
  rw [if_pos he] at *
  unfold addTaskE at he
  rw [if_neg (by omega)] at he
  obtain ⟨g', x, hg, rfl, g1, g2, x1, x2, hno⟩ := addE_zero he
  obtain rfl : g = g' := by omega
  rw [Int.toNat_natCast] at *
  rw [Int.toNat_natCast] at *
  have hgj : g < j := by
    by_cases e : g = 0
    · omega
    · have := (h.here g (by omega) (by omega)).1 g2; omega
  have hS : Sync (m.set (10 + n) (Un.new (g : Int) x)) := Sync.add h.inv h.sync (by omega) hno
  have hne : ∀ v, v ≠ 10 + n → (m.set (10 + n) (Un.new g x)).u v = m.u v := fun v hv => set_ne _ _ _ _ hv
  have hsf : (m.set (10 + n) (Un.new g x)).u (10 + n) = Un.new g x := set_same _ _ _
  refine ⟨⟨hI, hS, h.j4, by omega, fun v v0 hv => ?_, fun g g0 hg => ?_, fun i hi => ?_, fun u hu => ?_, fun i hi => ?_, fun u u0 hu hh => ?_⟩, ⟨z.1, fun u hu => ?_⟩, by omega, by omega⟩
  · by_cases e : v = 10 + n
    · rw [e, hsf]; exact ⟨fun _ => .inr ⟨by omega, by omega⟩, fun _ => rfl⟩
    · rw [hne v e, h.here v v0 hv]; omega
  · rw [hne g (by omega)]; exact h.inG g g0 hg
  · by_cases e : i = n
    · rw [e, hsf, up'_same, up'_same]; exact ⟨rfl, rfl, hgj⟩
    · rw [hne _ (by omega), up'_ne _ _ _ _ e, up'_ne _ _ _ _ e]; exact h.inT i (by omega)
  · rw [hne u (by omega)]; exact h.quo u hu
  · by_cases e : i = n
    · rw [e, hsf]; rfl
    · rw [hne _ (by omega)]; exact h.awk i (by omega)
  · by_cases e : u = 10 + n
    · rw [e, hsf]; show 0 = 0 * _; rw [Nat.zero_mul]
    · rw [hne u e] at hh ⊢; exact h.tm u u0 hu hh
  · by_cases e : u = 10 + n
    · rw [e, hsf]; exact ⟨rfl, rfl, rfl⟩
    · rw [hne u e]; exact z.2 u hu
theorem zr_line (z : Zr m) (hI : Inv m) {u : Nat} (u0 : 0 < u) (hu : u < 30) (hh : (m.u u).here = true) : Zr (line m u) := by
  refine ⟨z.1, fun v hv => ?_⟩
  unfold line
  by_cases e : v = u
  · rw [e, set_same]
    have zu := z.2 u hu
    have zg := (z.2 (grp m u) (by have := (hI.grp u0 hu hh).1; omega)).2.1
    refine ⟨?_, zu.2.1, zu.2.2⟩
    show (if ready m u && !(m.u u).was then max (m.u u).time (m.u (grp m u)).floor else (m.u u).time) = 0
    rw [zu.1, zg]; split <;> rfl
  · rw [set_ne _ _ _ _ e]; exact z.2 v hv
theorem zr_look {u : Nat} (k : Look m u m') : Zr m → Inv m → u < 30 → (m.u u).here = true → Zr m' := by
  induction k using Look.ind with
  | root m => exact fun z _ _ _ => z
  | up h0 _ ih =>
    intro z hI hu hh
    have g := hI.grp (by omega) hu hh
    exact ih (zr_line z hI (by omega) hu hh) (hI.line (by omega) hu hh) (by omega) (by rw [line_here]; exact g.2.2.1)
theorem Tf.wake (h : Tf m j n k wt gf gw) (z : Zr m) (hk : k < n) (w : WakeTo m k true m') : Tf m' j n (k + 1) wt gf gw ∧ Zr m' := by
  have hn := h.n12
  have hh := h.hT hk
  have hI := h.inv.wake w
  have hS := h.sync.wake h.inv w
  have hl : Look (m.set (10 + k) { m.u (10 + k) with awake := true }) (10 + k) m' := by
    rcases w with ⟨_, w⟩ | ⟨w, _⟩
    · exact w
    · exact absurd (taskE_nat (by omega) hh) w
  obtain ⟨m1, hm1⟩ : ∃ m1, m.set (10 + k) { m.u (10 + k) with awake := true } = m1 := ⟨_, rfl⟩
  have hu1 : m1.u (10 + k) = { m.u (10 + k) with awake := true } := by rw [← hm1, set_same]
  have hn1 : ∀ v, v ≠ 10 + k → m1.u v = m.u v := fun v hv => by rw [← hm1, set_ne _ _ _ _ hv]
  rw [hm1] at hl
  have t := Turn.of h.inv (show 10 + k < 30 by omega) hh
  have hI1 : Inv m1 := by rw [← hm1]; exact h.inv.turn (by omega) hh ⟨t.here, t.inn, t.weight, t.floor, t.quo, t.per, t.fl, t.tm⟩
  have z1 : Zr m1 := ⟨by rw [← hm1]; exact z.1, fun v hv => by
    by_cases e : v = 10 + k
    · rw [e, hu1]; exact z.2 (10 + k) (by omega)
    · rw [hn1 v e]; exact z.2 v hv⟩
  have zz := zr_look hl z1 hI1 (by omega) (by rw [hu1]; exact hh)
  have kp := look_keep hl
  have lk := look_here hl
  refine ⟨⟨hI, hS, h.j4, h.n12, fun v v0 hv => ?_, fun g g0 hg => ?_, fun i hi => ?_, fun u hu => ?_, fun i hi => ?_, fun u u0 hu _ => ?_⟩, zz⟩
  · rw [(lk.2 v).1, ← h.here v v0 hv]
    by_cases e : v = 10 + k
    · rw [e, hu1]
    · rw [hn1 v e]
  · rw [kp g, hn1 g (by have := h.j4; omega)]; exact h.inG g g0 hg
  · rw [kp (10 + i)]
    by_cases e : i = k
    · rw [e, hu1]; exact h.inT k hk
    · rw [hn1 _ (by omega)]; exact h.inT i hi
  · rw [kp u, hn1 u (by omega)]; exact h.quo u hu
  · rw [kp (10 + i)]
    show (m1.u (10 + i)).awake = _
    by_cases e : i = k
    · rw [e, hu1, decide_eq_true (by omega)]
    · rw [hn1 _ (by omega), h.awk i hi]
      rw [decide_eq_decide]; omega
  · have := zz.2 u hu
    rw [this.1, this.2.2, Nat.zero_mul]
def Busy (n : Nat) (gf : Nat → Nat) (u : Nat) : Prop := (10 ≤ u ∧ u < 10 + n) ∨ (0 < u ∧ u < 10 ∧ ∃ i, i < n ∧ gf i = u)
def Even (m : M) (n : Nat) (gf : Nat → Nat) : Prop := ∀ a b, Busy n gf a → Busy n gf b → grp m a = grp m b → (m.u a).time ≤ (m.u b).time + 1048576 / (m.u a).weight
theorem Tf.grT (h : Tf m j n k wt gf gw) {i : Nat} (hi : i < n) : grp m (10 + i) = gf i := by unfold grp; rw [(h.inT i hi).1]; rfl
theorem Tf.grG (h : Tf m j n k wt gf gw) {g : Nat} (g0 : 0 < g) (hg : g < j) : grp m g = 0 := by unfold grp; rw [(h.inG g g0 hg).1]; rfl
theorem Tf.wsT (h : Tf m j n n wt gf gw) {i : Nat} (hi : i < n) : (m.u (10 + i)).was = true := by
  rw [h.sync (10 + i) (by omega) (by have := h.n12; omega) (h.hT hi)]
  unfold ready; rw [if_pos (by omega), h.awk i hi, decide_eq_true hi]
theorem Tf.wsG (h : Tf m j n n wt gf gw) {g i : Nat} (g0 : 0 < g) (hi : i < n) (e : gf i = g) : (m.u g).was = true := by
  have hg : g < j := by rw [← e]; exact (h.inT i hi).2.2
  have j4 := h.j4
  rw [h.sync g g0 (by omega) (h.hG g0 hg)]
  unfold ready mayB
  rw [if_neg (by omega), (h.quo g (by omega)).1, (h.quo g (by omega)).2, hasKid_iff.2 ⟨10 + i, by have := h.n12; omega, kidB_iff.2 ⟨by omega, h.hT hi, by rw [(h.inT i hi).1, e], h.wsT hi⟩⟩]
  rfl
theorem Tf.busy (h : Tf m j n n wt gf gw) {u : Nat} (hb : Busy n gf u) : 0 < u ∧ u < 30 ∧ (m.u u).here = true ∧ (m.u u).was = true := by
  have hn := h.n12
  rcases hb with ⟨h1, h2⟩ | ⟨h1, h2, i, hi, e⟩
  · obtain ⟨i, rfl⟩ : ∃ i, u = 10 + i := ⟨u - 10, by omega⟩
    exact ⟨by omega, by omega, h.hT (by omega), h.wsT (by omega)⟩
  · exact ⟨h1, by omega, h.hG h1 (by rw [← e]; exact (h.inT i hi).2.2), h.wsG h1 hi e⟩
theorem even_zr (z : Zr m) (h : Tf m j n n wt gf gw) : Even m n gf := fun a b ha hb _ => by
  rw [(z.2 a (h.busy ha).2.1).1]; exact Nat.zero_le _
theorem Even.pay (h : Even m n gf) {u : Nat} (hg : grp m u ≠ u) (hb : ∀ b, Busy n gf b → 0 < b ∧ b < 30 ∧ (m.u b).here = true ∧ (m.u b).was = true) (hl : ∀ v, 0 < v → v < 30 → (m.u v).here = true → grp m v = grp m u → (m.u v).was = true → (m.u u).time ≤ (m.u v).time) : Even (payR m u) n gf := by
  have t : ∀ v, ((payR m u).u v).time = if v = u then (m.u u).time + 1048576 / (m.u u).weight else (m.u v).time := fun v => by
    by_cases e : v = u
    · rw [if_pos e, e, payR_self hg]
    · rw [if_neg e, payR_other e]
  have w : ∀ v, ((payR m u).u v).weight = (m.u v).weight := fun v => by
    by_cases e : v = u
    · rw [e, payR_self hg]
    · rw [payR_other e]
  intro a b ha hb' e
  rw [payR_grp, payR_grp] at e
  have old := h a b ha hb' e
  rw [t a, t b, w a]
  by_cases ea : a = u
  · subst ea
    rw [if_pos rfl]
    by_cases eb : b = a
    · rw [if_pos eb]; exact Nat.le_add_right _ _
    · rw [if_neg eb]
      have f := hb b hb'
      have := hl b f.1 f.2.1 f.2.2.1 e.symm f.2.2.2
      exact Nat.add_le_add_right this _
  · rw [if_neg ea]
    by_cases eb : b = u
    · rw [if_pos eb, ← eb]
      exact Nat.le_trans old (by rw [Nat.add_right_comm]; exact Nat.le_add_right _ _)
    · rw [if_neg eb]; exact old
def Tmr (m : M) : Prop := ∀ u, 0 < u → u < 30 → (m.u u).here = true → (m.u u).time = (m.u u).ran * (1048576 / (m.u u).weight)
theorem Tmr.pay (h : Tmr m) {u : Nat} (hg : grp m u ≠ u) : Tmr (payR m u) := fun v v0 hv hh => by
  rw [payR_here] at hh
  have o := h v v0 hv hh
  by_cases e : v = u
  · subst e
    rw [payR_self hg]
    show (m.u v).time + 1048576 / (m.u v).weight = ((m.u v).ran + 1) * (1048576 / (m.u v).weight)
    rw [Nat.succ_mul, o]
  · rw [payR_other e]; exact o
theorem Tf.seen (h : Tf m j n n wt gf gw) (hn : 0 < n) : hasKid m 0 = true := by
  have n12 := h.n12
  by_cases e : gf 0 = 0
  · exact hasKid_iff.2 ⟨10 + 0, by omega, kidB_iff.2 ⟨by omega, h.hT hn, by rw [(h.inT 0 hn).1, e], h.wsT hn⟩⟩
  · have hg := (h.inT 0 hn).2.2
    have j4 := h.j4
    exact hasKid_iff.2 ⟨gf 0, by omega, kidB_iff.2 ⟨by omega, h.hG (by omega) hg, (h.inG _ (by omega) hg).1, h.wsG (by omega) hn rfl⟩⟩
theorem Tf.up1 (h : Tf m j n k wt gf gw) : Tf (up1 m) j n k wt gf gw := ⟨h.inv.up1, h.sync, h.j4, h.n12, h.here, h.inG, h.inT, h.quo, h.awk, h.tm⟩
theorem Tf.tick (h : Tf m j n n wt gf gw) (E : Even m n gf) {r : Int} (k : Tick m r m') : Tf m' j n n wt gf gw ∧ Even m' n gf ∧ m'.now = m.now + 1 ∧ ((n = 0 ∧ r = -1 ∧ ∀ v, (m'.u v).ran = (m.u v).ran) ∨ ∃ y, y < n ∧ r = (y : Int) ∧ (∀ i, i < n → (m'.u (10 + i)).ran = (m.u (10 + i)).ran + if i = y then 1 else 0) ∧ ∀ g, 0 < g → g < 10 → (m'.u g).ran = (m.u g).ran + if gf y = g then 1 else 0) := by
  have hIm := h.inv.tick k
  have hSm := h.sync.tick h.inv k
  have n12 := h.n12
  have j4 := h.j4
  obtain ⟨m1, k1, k2⟩ := k
  obtain e1 := renew_none k1 (fun u hu => (h.quo u hu).1)
  subst e1
  have h2 := h.up1
  rcases k2 with ⟨pk, rfl, rfl⟩ | ⟨t, pk, rfl, q2⟩
  · refine ⟨h2, E, hIm.2, .inl ⟨?_, rfl, fun _ => rfl⟩⟩
    refine Nat.eq_zero_of_not_pos fun hn => ?_
    obtain ⟨t, e⟩ := pick_some h2.sync pk (by omega) (h2.seen hn)
    cases e
  · obtain ⟨rk, R, hG, h10⟩ := going_of h.inv pk
    have ht := hG.facts (by omega)
    have hv := (h2.here t (by omega) hG.lt).1 ht.1
    obtain ⟨y, rfl⟩ : ∃ y, t = 10 + y := ⟨t - 10, by omega⟩
    have hy : y < n := by omega
    have hgy : grp (Fr.up1 m1) (10 + y) = gf y := h2.grT hy
    have hgj := (h.inT y hy).2.2
    have hgne : grp (Fr.up1 m1) (10 + y) ≠ 10 + y := by rw [hgy]; omega
    have kp := pays_keep q2 hG
    have E1 : Even (Fr.payR (Fr.up1 m1) (10 + y)) n gf := Even.pay (m := Fr.up1 m1) E hgne (fun b hb => h2.busy hb) ht.2.2.1
    have T1 : Tmr (Fr.payR (Fr.up1 m1) (10 + y)) := Tmr.pay h2.tm hgne
    have r1 : ∀ v, ((Fr.payR (Fr.up1 m1) (10 + y)).u v).ran = (m1.u v).ran + if v = 10 + y then 1 else 0 := fun v => by
      by_cases e : v = 10 + y
      · rw [if_pos e, e, payR_self hgne]; rfl
      · rw [if_neg e, payR_other e]; rfl
    have q3 := pays_up (by omega) q2
    rw [hgy] at q3
    have fin : Even m' n gf ∧ Tmr m' ∧ (∀ v, v < 30 → 0 < v → (m'.u v).ran = (m1.u v).ran + if v = 10 + y ∨ v = gf y then 1 else 0) := by
      by_cases e0 : gf y = 0
      · rw [e0] at q3
        rw [pays_root q3]
        refine ⟨E1, T1, fun v _ v0 => ?_⟩
        rw [r1 v]
        by_cases e : v = 10 + y
        · rw [if_pos e, if_pos (.inl e)]
        · rw [if_neg e, if_neg (by omega)]
      · have hG2 := hG.next (by omega)
        rw [hgy] at hG2
        have f2 := hG2.facts (by omega)
        have q4 := pays_up e0 q3
        have hg0 : grp (Fr.payR (Fr.up1 m1) (10 + y)) (gf y) = 0 := by rw [payR_grp]; exact h2.grG (by omega) hgj
        rw [hg0] at q4
        rw [pays_root q4]
        have hne2 : grp (Fr.payR (Fr.up1 m1) (10 + y)) (gf y) ≠ gf y := by rw [hg0]; omega
        have hb2 : ∀ b, Busy n gf b → 0 < b ∧ b < 30 ∧ ((Fr.payR (Fr.up1 m1) (10 + y)).u b).here = true ∧ ((Fr.payR (Fr.up1 m1) (10 + y)).u b).was = true := fun b hb => by
          have bb := h2.busy hb
          refine ⟨bb.1, bb.2.1, by rw [payR_here]; exact bb.2.2.1, ?_⟩
          by_cases e : b = 10 + y
          · rw [e, payR_was hgne]
            unfold ready
            rw [if_pos (by omega), payR_self hgne]
            show ((Fr.up1 m1).u (10 + y)).awake = true
            rw [h2.awk y hy, decide_eq_true hy]
          · rw [(payR_tw e).2.1]; exact bb.2.2.2
        refine ⟨E1.pay hne2 hb2 f2.2.2.1, T1.pay hne2, fun v _ v0 => ?_⟩
        by_cases e : v = gf y
        · rw [e, payR_self hne2]
          show ((Fr.payR (Fr.up1 m1) (10 + y)).u (gf y)).ran + 1 = _
          rw [r1 (gf y), if_neg (by omega), if_pos (Or.inr rfl)]
        · rw [payR_other e]
          show ((Fr.payR (Fr.up1 m1) (10 + y)).u v).ran = _
          rw [r1 v]
          by_cases e' : v = 10 + y
          · rw [if_pos e', if_pos (.inl e')]
          · rw [if_neg e', if_neg (by omega)]
    refine ⟨⟨hIm.1, hSm, h.j4, h.n12, fun v v0 hv => by rw [(kp v).1]; exact h2.here v v0 hv, fun g g0 hg => by rw [(kp g).2.1, (kp g).2.2.1]; exact h2.inG g g0 hg, fun i hi => by rw [(kp _).2.1, (kp _).2.2.1]; exact h2.inT i hi, fun u hu => by rw [(kp u).2.2.2.2.2.1, (kp u).2.2.2.2.1]; exact h2.quo u hu, fun i hi => by rw [(kp _).2.2.2.1]; exact h2.awk i hi, fin.2.1⟩, fin.1, hIm.2, .inr ⟨y, hy, by omega, fun i hi => ?_, fun g g0 hg => ?_⟩⟩
    · rw [fin.2.2 (10 + i) (by omega) (by omega)]
      by_cases e : i = y
      · rw [if_pos e, if_pos (.inl (by omega))]
      · rw [if_neg e, if_neg (by omega)]
    · rw [fin.2.2 g (by omega) g0]
      by_cases e : gf y = g
      · rw [if_pos e, if_pos (.inr e.symm)]
      · rw [if_neg e, if_neg (by omega)]
end
end Fr
end Go.Proofs.YtghogbngmcolmaaGreat.Fa
namespace Go.Proofs.YtghogbngmcolmaaGreat
open Go.RowKit
open Tr (Fo Nd)
open Mo (Wh Mt)
open Mv (Me Bk)
open Kn (Pr Kp St us KB KJ VI EI KH)
namespace Kn
open Fa.Fr in
theorem first_tick {m1 m2 : M} {r : Int} (k : WakeTo (addTaskM m0 ((0 : Nat) : Int) 0 100) ((0 : Nat) : Int) true m1) (t : Tick m1 r m2) : r = 0 := by
  have e0 : addTaskE m0 ((0 : Nat) : Int) ((0 : Nat) : Int) 100 = 0 := by decide
  have a := tf0.1.addTask tf0.2 (n := 0) (g := 0) (w := 100) (by omega) e0
  have b := a.1.wake (k := 0) a.2.1 (by omega) k
  have c := b.1.tick (even_zr b.2 b.1) t
  rcases c.2.2.2 with ⟨h, _, _⟩ | ⟨y, hy, e, _⟩
  · omega
  · omega
theorem KH.tick {N : Nat} {d : Nat → Nat} {k : Kp} (h : KH N d k) {m : Fa.Fr.M} {r : Int} (t : Fa.Fr.Tick k.sc r m) : KH (N + 1) d { k with sc := m } := by
  have kj : KJ (fun _ => False) (N + 1) { k with sc := m } := (h.ki.vi.kj.mono (fun _ _ e => e) (Nat.le_succ N)).setSc (h.ki.vi.kj.si.tick t).1 (h.ki.vi.kj.sy.tick h.ki.vi.kj.si t) (by
    have a := h.ki.vi.kj.nw
    have b : m.now = k.sc.now + 1 := (h.ki.vi.kj.si.tick t).2
    omega)
  exact ⟨⟨⟨kj, h.ki.vi.iv, h.ki.vi.hs⟩, h.ki.fi, h.ki.pr, h.ki.h0⟩, fun j hj j0 s => by
    obtain ⟨q, a⟩ := h.pp j hj j0 s
    exact ⟨q, a.q20, a.qm, a.pq, a.lq, a.oq⟩, h.l0, h.p0, h.ge⟩
end Kn
section
variable (base : Nat) (s : St) (w : World)
set_option maxRecDepth 100000 in
set_option maxHeartbeats 400000 in
theorem ktick_any (h : KKt w base s) (hI : Fa.Fr.Inv s.k.sc) (hn : s.k.sc.now < 1000000) :
    Calls Tryz.prog 22 #[.pointer (some ⟨s.A 0, 0, none⟩)] w fun e w' => ∃ (r : Int) (m : Fa.Fr.M), e = .returned (.int .i64 r) ∧ Fa.Fr.Tick s.k.sc r m ∧ KKt w' base { s with k := { s.k with sc := m } } ∧ KF s w { s with k := { s.k with sc := m } } w' := by
  have c8 := h.cSc
  have TK := Hid.intro (Fa.tick_any (s.A 3) s.k.sc w h.sc hI hn)
  have H := Hid.intro h
  obtain ⟨a3, h3⟩ : ∃ a3, s.A 3 = a3 := ⟨_, rfl⟩
  have H3 := Hid.intro h3
  rw [h3] at c8 TK
  generalize s.A 0 = kb at *
  clear h hI hn h3
  go_enter Tryz.func22, Tryz.ntmps22
  go_wp2_with fail
  refine TK.out.mono ?_
  rintro e w1 ⟨r, m, rfl, t, u, f⟩
  have S1 : Hid (Fa.Fr.Tick s.k.sc r m ∧ KKt w1 base { s with k := { s.k with sc := m } } ∧ KF s w { s with k := { s.k with sc := m } } w1) := Hid.intro (by
    rw [← H3.out] at u f
    exact ⟨t, H.out.setSc u f.std⟩)
  clear t u f c8
  go_wp2_with fail
  go_ret
  exact ⟨r, m, rfl, S1.out⟩
end
def Kn.Beg (k : Kp) : Prop := ∃ m m', k = { Kn.kN m with sc := m' }
theorem Kn.Beg.p {k : Kp} (h : Kn.Beg k) : k.p 0 = Kn.frP 6 ∧ (∀ j, j ≠ 0 → k.p j = Pr.no) ∧ k.sp = Sp.entT Sp.t0 ((0 : Nat) : Int) ((0 : Nat) : Int) := by
  obtain ⟨m, m', rfl⟩ := h
  exact ⟨Kn.put_same Kn.k01 0 (Kn.frP 6), fun j q => Kn.put_ne Kn.k01 0 j (Kn.frP 6) q, rfl⟩
theorem Kn.Beg.live {k : Kp} (h : Kn.Beg k) : Kn.liveL k 20 = [0] := by
  have e : Kn.lv k = fun n => decide (n = 0) := funext fun n => by
    unfold Kn.lv
    by_cases c : n = 0
    · rw [c, h.p.1]; rfl
    · rw [h.p.2.1 n c]; simp [c]; exact fun q => by cases q
  unfold Kn.liveL
  rw [e]
  rfl
set_option maxRecDepth 100000 in
set_option maxHeartbeats 1000000 in
theorem kbegun_any (w : World) :
    Calls Tryz.prog 6 #[] w fun e w' => ∃ s : St, e = .returned (.tuple #[.pointer (some ⟨s.A 0, 0, none⟩), .bool true]) ∧ Kn.Beg s.k ∧ KH 2 (fun _ => 1) s.k ∧ KKt w' w.heap.size s ∧ Below w.heap.size w w' := by
  go_enter Tryz.func6, Tryz.ntmps6
  go_wp2_with fail
  refine (knew_any _).mono ?_
  rintro e w1 ⟨s, m, rfl, ek, wk, k1, b1⟩
  have S1 := Hid.intro (And.intro ek (And.intro wk (And.intro k1 b1)))
  have KH1 : Hid (KH 1 (fun _ => 1) s.k) := Hid.intro (by rw [ek]; exact Kn.kh0 wk)
  clear ek wk k1 b1
  have TK := Hid.intro (ktick_any w.heap.size s w1 S1.out.2.2.1 KH1.out.ki.vi.kj.si (by have := KH1.out.ki.vi.kj.nw; omega))
  obtain ⟨kb, hkb⟩ : ∃ kb, s.A 0 = kb := ⟨_, rfl⟩
  have HK := Hid.intro hkb
  rw [hkb] at TK ⊢
  clear hkb
  go_wp2_with fail
  refine TK.out.mono ?_
  rintro e w2 ⟨r, m', rfl, t, k2, f2⟩
  have r0 : r = 0 := Kn.first_tick S1.out.2.1 (by
    have e := S1.out.1
    rw [e] at t
    exact t)
  subst r0
  have S2 : Hid (Kn.Beg { s.k with sc := m' } ∧ KH 2 (fun _ => 1) { s.k with sc := m' } ∧ KKt w2 w.heap.size { s with k := { s.k with sc := m' } } ∧ Below w.heap.size w w2) := Hid.intro ⟨⟨m, m', by rw [S1.out.1]⟩, KH1.out.tick t, k2, f2.behind S1.out.2.2.1 S1.out.2.2.2 (Nat.le_refl _) S1.out.2.2.2.size⟩
  clear t k2 f2 TK
  have PR := Hid.intro (kprocs_any w.heap.size { s with k := { s.k with sc := m' } } w2 S2.out.2.2.1)
  rw [show ({ s with k := { s.k with sc := m' } } : St).A 0 = kb from HK.out, show Kn.liveL ({ s with k := { s.k with sc := m' } } : St).k 20 = [0] from S2.out.1.live] at PR
  go_wp2_with fail
  refine PR.out.mono ?_
  rintro e w3 ⟨v3, rfl, hL⟩
  obtain ⟨a, cap, hv⟩ := own_form hL.own
  have hv' : v3 = .slice a 1 cap := hv
  subst hv'
  have S3 : Hid (KKt w3 w.heap.size { s with k := { s.k with sc := m' } } ∧ Below w.heap.size w w3) := Hid.intro ⟨S2.out.2.2.1.below hL.bel, S2.out.2.2.2.trans (hL.bel.mono S2.out.2.2.2.size)⟩
  clear hL hv PR
  go_wp2_with fail
  go_ret2
  exact ⟨{ s with k := { s.k with sc := m' } }, by rw [show ({ s with k := { s.k with sc := m' } } : St).A 0 = kb from HK.out]; rfl, S2.out.1, S2.out.2.1, S3.out⟩
set_option maxRecDepth 100000 in
set_option maxHeartbeats 400000 in
theorem knumber_any (E : Int) (w : World) : Calls Tryz.prog 16 #[errV E] w fun e w' => e = .returned (.int .i64 E) ∧ w' = w := by
  by_cases c : E = 0
  · subst c
    rw [errV_zero]
    go_enter Tryz.func16, Tryz.ntmps16
    go_wp2_with fail
    go_ret
    exact ⟨rfl, rfl⟩
  · rw [errV_ne c]
    have ha := assertE E
    go_enter Tryz.func16, Tryz.ntmps16
    go_wp2
    go_ret
    exact ⟨rfl, rfl⟩
end Go.Proofs.YtghogbngmcolmaaGreat
namespace Go.Proofs.YtghogbngmcolmaaGreat
open Go.RowKit
open Tr (Fo Nd)
open Mo (Wh Mt)
open Mv (Me Bk)
open Kn (Pr Kp St us KB KJ VI EI KH)
namespace Kn
theorem ways_any {t : Nat → Gr.Gp} {Wy Wy0 : Nat → List (Fin 10)} {c : Nat} (h : Gr.Tree t Wy0 c) (w : Gr.Ways t Wy) : Gr.Tree t Wy c :=
  ⟨w, fun k hk => by
    have l := congrArg List.length ((w k hk).unique (h.ways k hk))
    unfold Gr.vals at l
    simp only [List.length_map] at l
    rw [l]; exact h.deep k hk, h.root, h.par, h.own⟩
theorem actE_lv {k : Kp} {n : Nat} (a : actE k (n : Int) = 0) : lv k n = true := by
  obtain ⟨n', e, _, l⟩ := actE_ok a
  obtain rfl : n = n' := by omega
  exact l
section
variable {N : Nat} {d : Nat → Nat} {k k' : Kp}
theorem KH.more (h : KH N d k) {M : Nat} (hM : N ≤ M) : KH M d k := h.gr hM (by obtain ⟨Wy, g⟩ := h.ki.vi.kj.gr; exact ⟨Wy, g.mono hM⟩)
theorem KH.fork (h : KH N d k) {z : Int} {own : Bool} {p : Nat} {E : Int} (f : ForTo k z own p E k') : ∃ d', KH (N + 2) d' k' := by
  rcases f with ⟨_, _, _, rfl⟩ | ⟨a, n, c, F, Wy, rfl, hn, fr, ways, f⟩
  · exact ⟨d, h.more (by omega)⟩
  · have l : Kn.lv k n = true := actE_lv a
    obtain ⟨Wy0, g0⟩ := h.ki.vi.kj.gr
    have g1 : Gr.Tree k.gr Wy N := ways_any g0 ways
    have kc : KH (N + 1) d (chgK k Wy n) := h.gr (Nat.le_succ N) ⟨Wy, chg_tree g1 _ _ _ (by omega) (by have := YtghogbngmcolmaaGreat.resK_le (k.p n).mem 16; omega)⟩
    rcases f with ⟨_, _, _, rfl⟩ | ⟨_, _, _, _, rfl⟩ | ⟨_, _, _, _, _, rfl⟩ | ⟨f0, ch, hm, _, m', wk, rfl, _⟩
    · exact ⟨d, h.more (by omega)⟩
    · exact ⟨d, h.more (by omega)⟩
    · obtain ⟨Wy2, g2⟩ := kc.ki.vi.kj.gr
      exact ⟨d, (kc.gr (Nat.le_refl _) ⟨Wy2, unc_tree g2 _ _ _⟩).more (by omega)⟩
    · have c20 : c < 20 ∧ (k.p c).st = 0 := by
        rcases fr with q | q
        · exact ⟨q.2.1, q.2.2.1⟩
        · omega
      obtain ⟨y, oy⟩ := h.of hn (by rw [lv1.1 l]; omega)
      have y6 := (h.ki.vi.iv.mem_self hn oy).2
      have iz : Sp.inN (chgK k Wy n).sp (n : Int) = y := Sp.inN_of hn oy
      cases own
      · have e := homK_no (chgK k Wy n) n
        have en : homN (chgK k Wy n) n false = y := iz
        rw [e.1] at wk ⊢
        rw [en]
        exact ⟨d, kc.born (k2 := chgK k Wy n) kc.ki.vi.kj kc.ki.vi.iv rfl rfl rfl hn l c20.1 c20.2 y6.1 y6.2 oy (.inl ⟨rfl, fun _ _ e => e⟩) wk⟩
      · have ea : Sp.addE (chgK k Wy n).sp (y : Int) = 0 := by unfold homE at hm; rw [if_pos rfl, iz] at hm; exact hm
        obtain ⟨z', ez, z6, zh, wl, f6, fh, fl⟩ := Sp.addE_zero ea
        obtain ⟨e1, e2, _⟩ := homK_own iz ea rfl
        have es := Sp.add_eq ea
        rw [e1] at wk ⊢
        rw [e2]
        have kj2 := kc.ki.vi.kj.opn ea rfl
        obtain ⟨d2, iv2⟩ := kj2.sp
        refine ⟨d2, kc.born (k2 := opnK (chgK k Wy n) y (Sp.freeS (chgK k Wy n).sp)) kj2 iv2 rfl ?_ ?_ hn l c20.1 c20.2 f6 ?_ oy (.inr ⟨?_, ?_, fh, ?_⟩) wk⟩
        · show (Sp.addT (chgK k Wy n).sp (y : Int)).of = _; rw [es]
        · show (Sp.addT (chgK k Wy n).sp (y : Int)).who = _; rw [es]
        · show (Sp.addT (chgK k Wy n).sp (y : Int)).here _ = true; rw [es]; exact if_pos rfl
        · intro e; rw [e] at fh; rw [show (chgK k Wy n).sp.here y = true from y6.2] at fh; cases fh
        · show (Sp.addT (chgK k Wy n).sp (y : Int)).par _ = _; rw [es]; exact if_pos rfl
        · intro s s6 sh
          have sh2 : (Sp.addT (chgK k Wy n).sp (y : Int)).here s = true := sh
          rw [es] at sh2
          have sh3 : (if s = Sp.freeS (chgK k Wy n).sp then true else (chgK k Wy n).sp.here s) = true := sh2
          by_cases c : s = Sp.freeS (chgK k Wy n).sp
          · exact .inl c
          · rw [if_neg c] at sh3; exact .inr sh3
theorem KH.exit (h : KH N d k) {z c : Int} (e : ExiTo k z c k') : KH N d k' := by
  rcases e with ⟨_, rfl⟩ | ⟨_, n, y, q, rfl, hn, n0, l, oy, _, _, hp, et⟩
  · exact h
  · exact h.end hn n0 l oy hp et
theorem KH.chil (h : KH N d k) {n m : Nat} (hn : n < 20) (l : Kn.lv k n = true) (hm : m ∈ chL k n) : m < 20 ∧ m ≠ 0 ∧ (k.p m).par = (n : Int) ∧ (k.p m).st ≠ 0 ∧ ∃ y, k.sp.of n = y + 1 ∧ Sp.mem k.sp y m := by
  obtain ⟨y, oy⟩ := h.of hn (by rw [lv1.1 l]; omega)
  have y6 := (h.ki.vi.iv.mem_self hn oy).2
  have p := chL_par m hm
  have a := hm
  unfold chL chK at a
  rw [Sp.inN_of hn oy] at a
  have b := Sp.membL_mem h.ki.vi.iv y6.1 y6.2 (List.mem_filter.1 a).1
  exact ⟨b.1, fun e => by rw [e, h.p0] at p; omega, p, (h.ki.vi.kj.of m b.1).1 (h.ki.vi.iv.mem_of y6.1 b.1 b.2).1, y, oy, b.2⟩
theorem KH.wait (h : KH N d k) {z : Int} {p : Nat} {c E : Int} (w : WaiTo k z p c E k') : KH N d k' := by
  rcases w with ⟨_, _, _, _, rfl⟩ | ⟨a, n, rfl, hn, w⟩
  · exact h
  · rcases w with ⟨_, _, _, _, rfl⟩ | ⟨_, _, _, _, _, rfl⟩ | ⟨_, i, m, hi, lm, _, _, _, v⟩
    · exact h
    · exact h
    · have l : Kn.lv k n = true := actE_lv a
      obtain ⟨m20, m0, _, ms, _, _⟩ := h.chil hn l (List.mem_of_getElem? hi)
      obtain ⟨x, ox⟩ := h.of m20 ms
      have m2 : (k.p m).st = 2 := by
        have := h.ki.vi.kj.st m m20
        have : (k.p m).st ≠ 1 := fun e => by rw [lv1.2 e] at lm; cases lm
        omega
      exact (h.van m20 m0 m2 ox v).1
end
end Kn
end Go.Proofs.YtghogbngmcolmaaGreat
namespace Go.Proofs.YtghogbngmcolmaaGreat
open Go.RowKit
open Tr (Fo Nd)
open Mo (Wh Mt)
open Mv (Me Bk)
open Kn (Pr Kp St us KB KJ VI EI KH)
def Kn.numE (k : Kp) (z f : Int) : Int := if Kn.actE k z = 0 then (if f < 0 ∨ 6 ≤ f then 1 else if (k.p z.toNat).fd f.toNat = -1 then 2 else 0) else Kn.actE k z
theorem Kn.numE_ok {k : Kp} {z f : Int} (h : Kn.numE k z f = 0) : ∃ n g : Nat, z = n ∧ f = g ∧ n < 20 ∧ g < 6 ∧ Kn.lv k n = true ∧ (k.p n).fd g ≠ -1 := by
  unfold Kn.numE at h
  by_cases a : Kn.actE k z = 0
  · rw [if_pos a] at h
    obtain ⟨n, rfl, hn, l⟩ := Kn.actE_ok a
    by_cases c : f < 0 ∨ 6 ≤ f
    · rw [if_pos c] at h; omega
    · rw [if_neg c, Int.toNat_natCast] at h
      obtain ⟨g, rfl⟩ := Int.eq_ofNat_of_zero_le (show 0 ≤ f by omega)
      rw [Int.toNat_natCast] at h
      by_cases e : (k.p n).fd g = -1
      · rw [if_pos e] at h; omega
      · exact ⟨n, g, rfl, rfl, hn, by omega, l, e⟩
  · rw [if_neg a] at h; exact absurd h a
def nptE (b : Nat) (z f E : Int) : Value := if E = 0 then .pointer (some ⟨b, z.toNat * 12 + 6 + f.toNat, none⟩) else .pointer none
theorem nptE_ok (b n g : Nat) : nptE b (n : Int) (g : Int) 0 = .pointer (some ⟨b, n * 12 + 6 + g, none⟩) := by unfold nptE; rw [if_pos rfl, Int.toNat_natCast, Int.toNat_natCast]
theorem nptE_no {b : Nat} {z f E : Int} (h : E ≠ 0) : nptE b z f E = .pointer none := if_neg h
section
variable (base : Nat) (s : St) (w : World)
set_option maxRecDepth 100000 in
set_option maxHeartbeats 1000000 in
theorem knumb_any (z f : Int) (h : KKt w base s) :
    Calls Tryz.prog 42 #[.pointer (some ⟨s.A 0, 0, none⟩), .int .i64 z, .int .i64 f] w fun e w' => e = .returned (.tuple #[nptE (s.A 0) z f (Kn.numE s.k z f), errV (Kn.numE s.k z f)]) ∧ w' = w := by
  have AC := Hid.intro (kacting_any base s w z h)
  by_cases a : Kn.actE s.k z = 0
  · obtain ⟨n, rfl, hn, hl⟩ := Kn.actE_ok a
    rw [a, errV_zero, aptE_ok] at AC
    by_cases c : f < 0 ∨ 6 ≤ f
    · have E : Hid (Kn.numE s.k (n : Int) f = 1) := Hid.intro (by unfold Kn.numE; rw [if_pos a, if_pos c])
      rw [E.out, nptE_no (by decide), errV_ne (by decide)]
      generalize s.A 0 = kb at *
      clear h a hl
      by_cases c1 : f < 0
      · clear c
        go_enter Tryz.func42, Tryz.ntmps42
        go_wp2_with fail
        refine AC.out.mono ?_
        rintro e w1 ⟨rfl, hw⟩
        subst w1
        go_wp2_with fail
        go_ret2
        exact ⟨rfl, rfl⟩
      · have c2 : 6 ≤ f := by omega
        clear c
        go_enter Tryz.func42, Tryz.ntmps42
        go_wp2_with fail
        refine AC.out.mono ?_
        rintro e w1 ⟨rfl, hw⟩
        subst w1
        go_wp2_with fail
        go_ret2
        exact ⟨rfl, rfl⟩
    · obtain ⟨g, rfl⟩ := Int.eq_ofNat_of_zero_le (show 0 ≤ f by omega)
      have hg : g < 6 := by omega
      have hgI : (g : Int) < 6 := by omega
      have cf := h.cFd n g hn hg
      by_cases e1 : (s.k.p n).fd g = -1
      · have E : Hid (Kn.numE s.k (n : Int) (g : Int) = 2) := Hid.intro (by unfold Kn.numE; rw [if_pos a, if_neg c, Int.toNat_natCast, Int.toNat_natCast, if_pos e1])
        rw [E.out, nptE_no (by decide), errV_ne (by decide)]
        rw [e1] at cf
        generalize s.A 0 = kb at *
        clear h a hl c e1
        go_enter Tryz.func42, Tryz.ntmps42
        go_wp2_with fail
        refine AC.out.mono ?_
        rintro e w1 ⟨rfl, hw⟩
        subst w1
        go_wp2_with fail
        go_ret2
        exact ⟨rfl, rfl⟩
      · have E : Hid (Kn.numE s.k (n : Int) (g : Int) = 0) := Hid.intro (by unfold Kn.numE; rw [if_pos a, if_neg c, Int.toNat_natCast, Int.toNat_natCast, if_neg e1])
        rw [E.out, nptE_ok, errV_zero]
        generalize (s.k.p n).fd g = v at *
        have vB : (v == -1) = false := by simpa using e1
        generalize s.A 0 = kb at *
        clear h a hl c
        go_enter Tryz.func42, Tryz.ntmps42
        go_wp2_with fail
        refine AC.out.mono ?_
        rintro e w1 ⟨rfl, hw⟩
        subst w1
        go_wp2_with fail
        go_ret2
        exact ⟨rfl, rfl⟩
  · have E : Hid (Kn.numE s.k z f = Kn.actE s.k z) := Hid.intro (if_neg a)
    rw [errV_ne a] at AC
    rw [E.out, nptE_no a, errV_ne a]
    clear h a
    generalize aptE (s.A 0) z (Kn.actE s.k z) = ap at *
    generalize Kn.actE s.k z = ae at *
    generalize s.A 0 = kb at *
    go_enter Tryz.func42, Tryz.ntmps42
    go_wp2_with fail
    refine AC.out.mono ?_
    rintro e w1 ⟨rfl, hw⟩
    subst w1
    go_wp2_with fail
    go_ret2
    exact ⟨rfl, rfl⟩
def Kn.ncloE (k : Kp) (z f : Int) : Int := if Kn.numE k z f = 0 then Fx.filE k.fi ((k.p z.toNat).fd f.toNat) else Kn.numE k z f
def Kn.ncloK (k : Kp) (z f : Int) : Kp := if Kn.numE k z f = 0 then Kn.cloK (Kn.fdK k z.toNat f.toNat (-1)) ((k.p z.toNat).fd f.toNat) else k
set_option maxRecDepth 100000 in
set_option maxHeartbeats 1000000 in
theorem knclose_any (N : Nat) (z f : Int) (h : KKt w base s) (hj : KJ (fun _ => False) N s.k) (hN : N ≤ 900) :
    Calls Tryz.prog 19 #[.pointer (some ⟨s.A 0, 0, none⟩), .int .i64 z, .int .i64 f] w fun e w' => e = .returned (errV (Kn.ncloE s.k z f)) ∧ KKt w' base { s with k := Kn.ncloK s.k z f } ∧ KF s w { s with k := Kn.ncloK s.k z f } w' := by
  have NB := Hid.intro (knumb_any base s w z f h)
  have H := Hid.intro (And.intro h (And.intro hj hN))
  by_cases a : Kn.numE s.k z f = 0
  · obtain ⟨n, g, rfl, rfl, hn, hg, hl, hf⟩ := Kn.numE_ok a
    have E : Hid (Kn.ncloE s.k (n : Int) (g : Int) = Fx.filE s.k.fi ((s.k.p n).fd g) ∧ Kn.ncloK s.k (n : Int) (g : Int) = Kn.cloK (Kn.fdK s.k n g (-1)) ((s.k.p n).fd g)) := Hid.intro ⟨by unfold Kn.ncloE; rw [if_pos a, Int.toNat_natCast, Int.toNat_natCast], by unfold Kn.ncloK; rw [if_pos a, Int.toNat_natCast, Int.toNat_natCast]⟩
    have cf := h.cFd n g hn hg
    have fz := h.frozen
    have S1 := Hid.intro (h.setFd hn hg (-1))
    rw [a, errV_zero, nptE_ok] at NB
    rw [E.out.1, E.out.2]
    have XC := Hid.intro (xclose_any (s.A 8) (s.A 6) (s.A 7) ((s.k.p n).fd g) s.k.fi s.k.fo s.k.pi _ (S1.out.1.fx) hj.sm (fun m hm => by have := hj.rf m hm; have e1 : (2 : Nat) ^ 60 = 1152921504606846976 := (by decide); omega))
    have c8 := S1.out.1.cFi
    rw [show ({ s with k := Kn.fdK s.k n g (-1) } : St).A 0 = s.A 0 from rfl, show ({ s with k := Kn.fdK s.k n g (-1) } : St).A 8 = s.A 8 from rfl] at c8
    obtain ⟨v, hv⟩ : ∃ v, (s.k.p n).fd g = v := ⟨_, rfl⟩
    rw [hv] at cf XC ⊢
    obtain ⟨kb, hkb⟩ : ∃ kb, s.A 0 = kb := ⟨_, rfl⟩
    obtain ⟨a8, ha8⟩ : ∃ a8, s.A 8 = a8 := ⟨_, rfl⟩
    have HK := Hid.intro (And.intro hkb ha8)
    rw [hkb] at NB cf fz S1 XC c8 ⊢
    rw [ha8] at XC c8
    clear h hj hN a hl hf hkb ha8 hv
    go_enter Tryz.func19, Tryz.ntmps19
    go_wp2_with fail
    refine NB.out.mono ?_
    rintro e w1 ⟨rfl, hw⟩
    subst w1
    go_wp2_with fail
    refine XC.out.mono ?_
    rintro e w2 ⟨rfl, u2, f2⟩
    have S2 : Hid (KKt w2 base { s with k := Kn.cloK (Kn.fdK s.k n g (-1)) v } ∧ KF s w { s with k := Kn.cloK (Kn.fdK s.k n g (-1)) v } w2) := Hid.intro (by
      rw [← HK.out.2] at u2 f2
      have q := S1.out.1.setFX u2 f2
      exact ⟨q.1, S1.out.2.trans q.2⟩)
    clear u2 f2 c8 cf fz
    go_wp2_with fail
    go_ret
    exact ⟨rfl, S2.out⟩
  · have E : Hid (Kn.ncloE s.k z f = Kn.numE s.k z f ∧ Kn.ncloK s.k z f = s.k) := Hid.intro ⟨if_neg a, if_neg a⟩
    rw [errV_ne a] at NB
    rw [E.out.1, E.out.2, errV_ne a]
    clear h hj hN a
    generalize nptE (s.A 0) z f (Kn.numE s.k z f) = ap at *
    generalize Kn.numE s.k z f = ae at *
    generalize s.A 0 = kb at *
    go_enter Tryz.func19, Tryz.ntmps19
    go_wp2_with fail
    refine NB.out.mono ?_
    rintro e w1 ⟨rfl, hw⟩
    subst w1
    go_wp2_with fail
    go_ret
    exact ⟨rfl, H.out.1, KF.refl _ _⟩
end
end Go.Proofs.YtghogbngmcolmaaGreat
namespace Go.Proofs.YtghogbngmcolmaaGreat
open Go.RowKit
open Fx (Fi)
open Tr (Fo Nd)
open Pp (Pi)
open Mo (Wh Mt)
open Mv (Me Bk)
open Kn (Pr Kp St us KB KJ VI EI KH)
def Kn.fxK (k : Kp) (T : Nat → Fi) (F : Fo) (S : Nat → Pi) : Kp := { k with fi := T, fo := F, pi := S }
def Kn.nfd (k : Kp) (z f : Int) : Int := (k.p z.toNat).fd f.toNat
theorem Kn.nfd_nat (k : Kp) (n g : Nat) : Kn.nfd k (n : Int) (g : Int) = (k.p n).fd g := by unfold Kn.nfd; rw [Int.toNat_natCast, Int.toNat_natCast]
end Go.Proofs.YtghogbngmcolmaaGreat
namespace Go.Proofs.YtghogbngmcolmaaGreat
open Go.RowKit
open Fx (Fi)
open Tr (Fo Nd)
open Pp (Pi)
open Mo (Wh Mt)
open Mv (Me Bk)
open Kn (Pr Kp St us KB KJ VI EI KH)
theorem eq12_yes (w : World) : Sem.run Tryz.prog (binOp BinOp.eql 27 (.iface 60 (.int .i64 12)) (.iface 60 (.int .i64 12))) w = .ok (.bool true) w := by kernel_rfl
theorem eq12_nil (w : World) : Sem.run Tryz.prog (binOp BinOp.eql 27 .nilIface (.iface 60 (.int .i64 12))) w = .ok (.bool false) w := by kernel_rfl
theorem eq12_any (w : World) (E : Int) : Sem.run Tryz.prog (binOp BinOp.eql 27 (.iface 60 (.int .i64 E)) (.iface 60 (.int .i64 12))) w = .ok (.bool (E == 12)) w := by kernel_rfl
section
variable (base N : Nat) (d : Nat → Nat) (s : St) (w : World)
set_option maxRecDepth 100000 in
set_option maxHeartbeats 1000000 in
theorem ksend_any (hN : N ≤ 900) (n : Nat) (c : Int) (h : KKt w base s) (hn : n < 20) (hl : Kn.lv s.k n = true) (hi : Kn.KI N d s.k) :
    Calls Tryz.prog 44 #[.pointer (some ⟨s.A 0, 0, none⟩), .int .i64 n, .int .i64 c] w fun e w' => ∃ (y q : Nat) (k' : Kp), e = .returned (.tuple #[]) ∧ Kn.LobTo (Kn.senK s.k n c) n y q k' ∧ (s.k.sp.of n = y + 1 ∧ (n ≠ 0 → q < 20 ∧ q ≠ n ∧ (s.k.p n).par = (q : Int))) ∧ KKt w' base { s with k := k' } ∧ KF s w { s with k := k' } w' := by
  have hnI : (n : Int) < 20 := by omega
  have hh := hi.has hn hl
  have c5 := h.cBox n hn hh
  have SE := Hid.intro (send_any (s.A (29 + n)) c (s.k.p n).box w (h.bx n hn hh))
  have H := Hid.intro (And.intro h (And.intro hh (And.intro hi (And.intro hl hN))))
  obtain ⟨kb, hkb⟩ : ∃ kb, s.A 0 = kb := ⟨_, rfl⟩
  have HK := Hid.intro hkb
  obtain ⟨bb, hbb⟩ : ∃ bb, s.A (29 + n) = bb := ⟨_, rfl⟩
  have HB := Hid.intro hbb
  rw [hkb] at c5 ⊢
  rw [hbb] at c5 SE
  clear h hh hl hi hN hkb hbb
  go_enter Tryz.func44, Tryz.ntmps44
  go_wp2_with fail
  refine SE.out.mono ?_
  rintro e w1 ⟨rfl, u1, f1⟩
  generalize errV (Sg.isE c) = ev
  have S1 : Hid (KKt w1 base { s with k := Kn.senK s.k n c } ∧ KF s w { s with k := Kn.senK s.k n c } w1) := Hid.intro (by
    rw [← HB.out] at u1 f1
    exact H.out.1.setBx hn H.out.2.1 u1 f1)
  clear u1 f1 c5
  obtain ⟨y, q, li⟩ := H.out.2.2.1.li hn H.out.2.2.2.1 (Sg.senF (s.k.p n).box c)
  have LK := Hid.intro (klookB_any base N d { s with k := Kn.senK s.k n c } w1 H.out.2.2.2.2 n y q (fun _ => H.out.2.2.1.h0) S1.out.1 li)
  rw [show ({ s with k := Kn.senK s.k n c } : St).A 0 = kb from HK.out] at LK
  have HY : Hid (s.k.sp.of n = y + 1 ∧ (n ≠ 0 → q < 20 ∧ q ≠ n ∧ (s.k.p n).par = (q : Int))) := Hid.intro ⟨li.ho, fun n0 => by
    have a := li.pr n0
    have e : ((Kn.boxK s.k n (Sg.senF (s.k.p n).box c)).p n).par = (s.k.p n).par := by unfold Kn.boxK; rw [Kn.put_same]
    rw [e] at a; exact a⟩
  clear li
  go_wp2_with fail
  refine LK.out.mono ?_
  rintro e w2 ⟨k', rfl, et, ka, kf⟩
  have S2 : Hid (Kn.LobTo (Kn.senK s.k n c) n y q k' ∧ (s.k.sp.of n = y + 1 ∧ (n ≠ 0 → q < 20 ∧ q ≠ n ∧ (s.k.p n).par = (q : Int))) ∧ KKt w2 base { s with k := k' } ∧ KF s w { s with k := k' } w2) := Hid.intro ⟨et, HY.out, ka, S1.out.2.trans kf⟩
  clear et ka kf
  go_wp2_with fail
  go_end0
  exact ⟨y, q, k', rfl, S2.out⟩
def Kn.wriX (k : Kp) (v : Int) (t : ByteArray) : Kp := Kn.fxK k (Fx.wriT k.fi k.fo v t) (Fx.wriF k.fi k.fo v t) (Fx.wriP k.fi k.pi v t)
def Kn.WriTo (k : Kp) (z f : Int) (t : ByteArray) (K : Nat) (E : Int) (k' : Kp) : Prop :=
  (Kn.numE k z f ≠ 0 ∧ K = 0 ∧ E = Kn.numE k z f ∧ k' = k)
  ∨ (Kn.numE k z f = 0 ∧ ∃ n g : Nat, z = n ∧ f = g ∧ n < 20 ∧ g < 6 ∧ Kn.lv k n = true ∧ K = Fx.wriK k.fi k.fo k.pi ((k.p n).fd g) t ∧ E = Fx.wriE k.fi k.fo k.pi ((k.p n).fd g) t
    ∧ ((E ≠ 12 ∧ k' = Kn.wriX k ((k.p n).fd g) t) ∨ (E = 12 ∧ ∃ y q, Kn.LobTo (Kn.senK (Kn.wriX k ((k.p n).fd g) t) n 2) n y q k' ∧ k.sp.of n = y + 1 ∧ (n ≠ 0 → q < 20 ∧ q ≠ n ∧ (k.p n).par = (q : Int)))))
set_option maxRecDepth 100000 in
set_option maxHeartbeats 2000000 in
theorem knwrite_any (hN : N ≤ 900) (z f : Int) (t : ByteArray) (h : KKt w base s) (ht : t.size < 2 ^ 59) (hp : Fx.Pz s.k.fi) (hi : Kn.numE s.k z f = 0 → Kn.KI N d (Kn.wriX s.k (Kn.nfd s.k z f) t)) :
    Calls Tryz.prog 12 #[.pointer (some ⟨s.A 0, 0, none⟩), .int .i64 z, .int .i64 f, .string t] w fun e w' => ∃ (K : Nat) (E : Int) (k' : Kp), e = .returned (.tuple #[.int .i64 (K : Int), errV E]) ∧ Kn.WriTo s.k z f t K E k' ∧ KKt w' base { s with k := k' } ∧ KF s w { s with k := k' } w' := by
  have NB := Hid.intro (knumb_any base s w z f h)
  by_cases a : Kn.numE s.k z f = 0
  · obtain ⟨n, g, rfl, rfl, hn, hg, hl, hf⟩ := Kn.numE_ok a
    have hiA := hi a
    rw [Kn.nfd_nat] at hiA
    have H := Hid.intro (And.intro h (And.intro hiA (And.intro hN (And.intro a hl))))
    rw [a, errV_zero, nptE_ok] at NB
    have XR := Hid.intro (xwrite_any (s.A 8) (s.A 6) (s.A 7) ((s.k.p n).fd g) t s.k.fi s.k.fo s.k.pi w.drew h.drew.fx ht hp)
    have K0 : Hid (w.cell? ⟨s.A 0, 252, none⟩ = some (.pointer (some ⟨s.A 8, 0, none⟩)) ∧ w.cell? ⟨s.A 0, n * 12 + 6 + g, none⟩ = some (.int .i64 ((s.k.p n).fd g))) := Hid.intro ⟨h.cFi, h.cFd n g hn hg⟩
    obtain ⟨v, hv⟩ : ∃ v, (s.k.p n).fd g = v := ⟨_, rfl⟩
    obtain ⟨kb, hkb⟩ : ∃ kb, s.A 0 = kb := ⟨_, rfl⟩
    obtain ⟨a8, ha8⟩ : ∃ a8, s.A 8 = a8 := ⟨_, rfl⟩
    have HK := Hid.intro (And.intro hkb (And.intro ha8 hv))
    rw [hv] at XR K0
    rw [hkb] at NB K0 ⊢
    rw [ha8] at XR K0
    obtain ⟨E, hE⟩ : ∃ E, Fx.wriE s.k.fi s.k.fo s.k.pi v t = E := ⟨_, rfl⟩
    obtain ⟨K, hKK⟩ : ∃ K, Fx.wriK s.k.fi s.k.fo s.k.pi v t = K := ⟨_, rfl⟩
    have HE := Hid.intro (And.intro hE hKK)
    rw [hE, hKK] at XR
    clear h ht hp hi hiA hN a hl hf hkb ha8 hv hE hKK
    go_enter Tryz.func12, Tryz.ntmps12
    go_wp2_with fail
    refine NB.out.mono ?_
    rintro e w1 ⟨rfl, hw⟩
    subst w1
    go_upto_region 4 with fail
    obtain ⟨y1, y2⟩ := K0.out
    go_region_held3 (fun w' => w'.cell? ⟨kb, 252, none⟩ = some (.pointer (some ⟨a8, 0, none⟩)) ∧ w'.cell? ⟨kb, n * 12 + 6 + g, none⟩ = some (.int .i64 v)) (first | exact K0.out | exact K4.out) (
      (go_at_call 43; refine XR.out.mono ?_; rintro e w4 ⟨rfl, t4, f4⟩; have S4 : Hid (KKt w4 base { s with k := Kn.wriX s.k v t } ∧ KF s w { s with k := Kn.wriX s.k v t } w4) := Hid.intro (by
          rw [← HK.out.2.1] at t4 f4
          have q := H.out.1.drew.setFX t4 f4
          exact ⟨q.1, (KF.drew _ _).trans q.2⟩); have K4 : Hid (w4.cell? ⟨kb, 252, none⟩ = some (.pointer (some ⟨a8, 0, none⟩)) ∧ w4.cell? ⟨kb, n * 12 + 6 + g, none⟩ = some (.int .i64 v)) := Hid.intro (by
          obtain ⟨e1, e2, e3⟩ := HK.out
          have q1 := S4.out.1.cFi
          have q2 := S4.out.1.cFd n g hn hg
          rw [← e1, ← e2, ← e3]
          exact ⟨q1, q2⟩); clear t4 f4))
    by_cases e12 : E = 12
    · have E12 := Hid.intro e12
      have SD := Hid.intro (ksend_any base N d { s with k := Kn.wriX s.k v t } w4 H.out.2.2.1 n 2 S4.out.1 hn H.out.2.2.2.2 (by rw [← HK.out.2.2]; exact H.out.2.1))
      rw [show ({ s with k := Kn.wriX s.k v t } : St).A 0 = kb from HK.out.1] at SD
      rw [e12, errV_ne (by decide)]
      clear e12
      go_wp2_with fail
      rw [eq12_yes]
      go_wp2_with fail
      refine SD.out.mono ?_
      rintro e w5 ⟨y, q, k', rfl, lt, yq, ka, kf⟩
      have S5 : Hid (Kn.WriTo s.k (n : Int) (g : Int) t K 12 k' ∧ KKt w5 base { s with k := k' } ∧ KF s w { s with k := k' } w5) := Hid.intro ⟨.inr ⟨H.out.2.2.2.1, n, g, rfl, rfl, hn, hg, H.out.2.2.2.2, by rw [HK.out.2.2]; exact HE.out.2.symm, by rw [HK.out.2.2]; exact (HE.out.1.trans E12.out).symm, .inr ⟨rfl, y, q, by rw [HK.out.2.2]; exact lt, yq⟩⟩, ka, S4.out.2.trans kf⟩
      clear lt yq ka kf
      go_wp2_with fail
      go_ret2
      exact ⟨K, 12, k', by rw [errV_ne (by decide)]; rfl, S5.out⟩
    · have FIN : Hid (Kn.WriTo s.k (n : Int) (g : Int) t K E (Kn.wriX s.k v t)) := Hid.intro (.inr ⟨H.out.2.2.2.1, n, g, rfl, rfl, hn, hg, H.out.2.2.2.2, by rw [HK.out.2.2]; exact HE.out.2.symm, by rw [HK.out.2.2]; exact HE.out.1.symm, .inl ⟨e12, by rw [HK.out.2.2]⟩⟩)
      by_cases e0 : E = 0
      · rw [e0, errV_zero]
        have E0 := Hid.intro e0
        clear e12 e0
        go_wp2_with fail
        rw [eq12_nil]
        go_wp2_with fail
        go_ret2
        exact ⟨K, E, _, by rw [E0.out, errV_zero]; rfl, FIN.out, S4.out⟩
      · have EV := Hid.intro (errV_ne e0)
        have eB : (E == 12) = false := by simpa using e12
        rw [errV_ne e0]
        clear e0
        go_wp2_with fail
        rw [eq12_any, eB]
        go_wp2_with fail
        go_ret2
        exact ⟨K, E, _, by rw [EV.out]; rfl, FIN.out, S4.out⟩
  · have FIN : Hid (Kn.WriTo s.k z f t 0 (Kn.numE s.k z f) s.k) := Hid.intro (.inl ⟨a, rfl, rfl, rfl⟩)
    have HE := Hid.intro (errV_ne a)
    have H := Hid.intro h
    rw [errV_ne a] at NB
    clear h ht hp a hi hN
    generalize nptE (s.A 0) z f (Kn.numE s.k z f) = ap at *
    generalize s.A 0 = kb at *
    go_enter Tryz.func12, Tryz.ntmps12
    go_wp2_with fail
    refine NB.out.mono ?_
    rintro e w1 ⟨rfl, hw⟩
    subst w1
    go_wp2_with fail
    go_ret2
    exact ⟨0, Kn.numE s.k z f, s.k, by rw [HE.out]; rfl, FIN.out, H.out, KF.refl _ _⟩
end
end Go.Proofs.YtghogbngmcolmaaGreat
namespace Go.Proofs.YtghogbngmcolmaaGreat
open Go.RowKit
open Fx (Fi)
open Tr (Fo Nd)
open Pp (Pi)
open Mo (Wh Mt)
open Mv (Me Bk)
open Kn (Pr Kp St us KB KJ VI EI KH)
def Kn.fdL (k : Kp) (n j : Nat) : List Nat := (List.range j).filter (fun f => decide ((k.p n).fd f = -1))
theorem Kn.fdL_yes {k : Kp} {n j : Nat} (h : (k.p n).fd j = -1) : Kn.fdL k n (j + 1) = Kn.fdL k n j ++ [j] := by
  unfold Kn.fdL
  rw [List.range_succ, List.filter_append]
  simp [h]
theorem Kn.fdL_no {k : Kp} {n j : Nat} (h : ¬ (k.p n).fd j = -1) : Kn.fdL k n (j + 1) = Kn.fdL k n j := by
  unfold Kn.fdL
  rw [List.range_succ, List.filter_append]
  simp [h]
theorem Kn.fdL_len (k : Kp) (n j : Nat) : (Kn.fdL k n j).length ≤ j := by
  unfold Kn.fdL
  refine Nat.le_trans (List.length_filter_le _ _) ?_
  rw [List.length_range]; exact Nat.le_refl _
theorem Kn.fdL_mem {k : Kp} {n f : Nat} (h : f ∈ Kn.fdL k n 6) : f < 6 ∧ (k.p n).fd f = -1 := by
  unfold Kn.fdL at h
  have a := List.mem_filter.1 h
  exact ⟨List.mem_range.1 a.1, by simpa using a.2⟩
theorem Kn.fdL_two {k : Kp} {n : Nat} (h : 2 ≤ (Kn.fdL k n 6).length) : ∃ f g, (Kn.fdL k n 6).getD 0 0 = f ∧ (Kn.fdL k n 6).getD 1 0 = g ∧ f < 6 ∧ g < 6 ∧ f ≠ g := by
  have nd : (Kn.fdL k n 6).Nodup := List.Pairwise.filter _ (List.nodup_range)
  refine ⟨_, _, rfl, rfl, ?_⟩
  match hL : Kn.fdL k n 6, h, nd with
  | [], h, _ => simp at h
  | [x], h, _ => simp at h
  | x :: y :: L, _, nd =>
    have hx := Kn.fdL_mem (k := k) (n := n) (f := x) (by rw [hL]; simp)
    have hy := Kn.fdL_mem (k := k) (n := n) (f := y) (by rw [hL]; simp)
    refine ⟨hx.1, hy.1, ?_⟩
    have := List.nodup_cons.1 nd
    intro e
    have e' : x = y := e
    exact this.1 (by rw [e']; simp)
section
variable (base N : Nat) (d : Nat → Nat) (s : St) (w : World)
set_option maxRecDepth 100000 in
set_option maxHeartbeats 1000000 in
theorem kpfree_any (n : Nat) (h : KKt w base s) (hn : n < 20) :
    Calls Tryz.prog 25 #[.pointer (some ⟨s.A 0, n * 12, none⟩)] w fun e w' => ∃ v, e = .returned v ∧ LO w (Kn.fdL s.k n 6) v w' := by
  obtain ⟨i0, hi, hz0, hz1, hz2⟩ := info_parts info3
  obtain ⟨fd, hfd⟩ : ∃ fd, (s.k.p n).fd = fd := ⟨_, rfl⟩
  obtain ⟨kb, hkb⟩ : ∃ kb, s.A 0 = kb := ⟨_, rfl⟩
  have LD : Hid (∀ j, j < (fdA fd).size → w.cell? ⟨kb, n * 12 + 6 + j, none⟩ = (fdA fd)[j]?) := Hid.intro (fun j hj => by
    have q := h.fds hn j (by rw [hfd]; exact hj)
    rw [hfd] at q
    rw [← hkb]; exact q)
  have hsz : Hid ((Tryz.prog.info? 63).map (·.size) = some (fdA fd).size) := Hid.intro (by rw [fdA_size]; kernel_rfl)
  have HFD := Hid.intro hfd
  rw [hkb]
  clear h hfd hkb
  go_enter Tryz.func25, Tryz.ntmps25
  go_wp2_with (refine wpList_load_at rfl 63 _ rfl kb (n * 12 + 6) rfl (fdA fd) 6 3 LD.out (by kernel_rfl) hsz.out ?_)
  go_loopw [3, 4, 5, 10] (fun l _ _ i wr => ∃ (k : Nat), i = .int .i64 k ∧ k ≤ 6 ∧ Hid (LO w (Kn.fdL s.k n k) l wr)) (fun _ _ _ i _ => 6 - (intOf i).toNat)
  case atStart => exact ⟨0, rfl, by omega, LO.nil w⟩
  case round =>
    obtain ⟨k, rfl, hk, R⟩ := hrel
    clear LD
    by_cases hlt : k < 6
    · have hltI : (k : Int) < 6 := by omega
      have hix := index_fd fd k hlt wr
      obtain ⟨z, hz⟩ : ∃ z, fd k = z := ⟨_, rfl⟩
      have HZ := Hid.intro hz
      rw [hz] at hix
      clear hz
      by_cases hz1 : z = -1
      · have HM := Hid.intro (Kn.fdL_yes (k := s.k) (n := n) (j := k) (by rw [HFD.out, HZ.out, hz1]))
        subst hz1
        obtain ⟨a, cap, hv⟩ := own_form R.out.own
        rw [hv]
        have HV := Hid.intro hv
        have hlm := Kn.fdL_len s.k n k
        generalize hN : (Kn.fdL s.k n k).length = M at *
        have HN := Hid.intro hN
        clear hv hN
        go_wp2_with (at_builtin; refine wpList_append_lies _ rfl _ _ 55 (by rfl) w.heap.size 3 i0 (.int .i64 0) 1 8 Tryz.underlying55 hi hz0 hz1 hz2 rfl (by decide) (.slice a M cap) M (rowOf (Kn.fdL s.k n k)) (by rfl) (by rw [← HV.out, ← HN.out]; exact R.out.own.alloc _) ⟨wr.heap.size, 0, none⟩ 1 1 [.int .i64 k] (by rfl) rfl (cell_one_new _ _ _) (by simp [Value.oneCell']) (by decide) (by unfold maxLen; omega) (by omega) (by have := R.out.bel.size; simp; omega) (wr.heap.size + 1) (by simp) ?_; intro gg cap2 w1 hown hgrow hat hlt2; have Q1 : Hid (LO w (Kn.fdL s.k n k ++ [k]) (.slice (some ⟨gg, 0, none⟩) (M + 1) cap2) w1) := R.out.more HN.out hown _ (by rw [HV.out]; exact hgrow); clear hown hgrow hat hlt2)
        go_roundw
        case rel => exact ⟨k + 1, by go_num, by omega, by rw [HM.out]; exact Q1⟩
        case measure => simp [intOf]; omega
      · have HM := Hid.intro (Kn.fdL_no (k := s.k) (n := n) (j := k) (by rw [HFD.out, HZ.out]; exact hz1))
        have z1 : (z == -1) = false := by simpa using hz1
        clear hz1
        go_wp2_with fail
        go_roundw
        case rel => exact ⟨k + 1, by go_num, by omega, by rw [HM.out]; exact R⟩
        case measure => simp [intOf]; omega
    · obtain rfl : k = 6 := by omega
      go_wp2
      go_ret
      exact ⟨_, rfl, R.out⟩
end
end Go.Proofs.YtghogbngmcolmaaGreat

/- The acts on a sched, plain: what is answered, what is then; what stays true. -/
import Derived.Test.YtgabfkaadflciaaFq
namespace Go.Proofs.Ytgabfkaadflciaa
namespace Fr

def groupE (m : M) (z : Int) : Int := if z < 0 ∨ 10 ≤ z then 1 else if (m.u z.toNat).here = true then 0 else 2
def taskE (m : M) (z : Int) : Int := if z < 0 ∨ 20 ≤ z then 1 else if (m.u (10 + z.toNat)).here = true then 0 else 2
def lowerE (m : M) (z : Int) : Int := if groupE m z = 0 then (if z = 0 then 8 else 0) else groupE m z
def quotaE (m : M) (z q p : Int) : Int := if lowerE m z = 0 then (if q < 0 ∨ p < q ∨ p < 1 ∨ 100 < p then 1 else 0) else lowerE m z
def addE (m : M) (u : Nat) (g wt : Int) : Int := if wt < 1 ∨ 1000 < wt then 1 else if (m.u u).here = true then 3 else groupE m g
def addGroupE (m : M) (z g wt : Int) : Int := if z < 0 ∨ 10 ≤ z then 1 else addE m z.toNat g wt
def addTaskE (m : M) (z g wt : Int) : Int := if z < 0 ∨ 20 ≤ z then 1 else addE m (10 + z.toNat) g wt

theorem groupE_zero {m : M} {z : Int} (h : groupE m z = 0) : ∃ g : Nat, z = g ∧ g < 10 ∧ (m.u g).here = true := by
  unfold groupE at h
  by_cases k : z < 0 ∨ 10 ≤ z
  · rw [if_pos k] at h; omega
  · rw [if_neg k] at h
    obtain ⟨g, rfl⟩ := Int.eq_ofNat_of_zero_le (show 0 ≤ z by omega)
    refine ⟨g, rfl, by omega, ?_⟩
    rw [Int.toNat_natCast] at h
    by_cases k2 : (m.u g).here = true
    · exact k2
    · rw [if_neg k2] at h; omega
theorem taskE_zero {m : M} {z : Int} (h : taskE m z = 0) : ∃ n : Nat, z = n ∧ n < 20 ∧ (m.u (10 + n)).here = true := by
  unfold taskE at h
  by_cases k : z < 0 ∨ 20 ≤ z
  · rw [if_pos k] at h; omega
  · rw [if_neg k] at h
    obtain ⟨g, rfl⟩ := Int.eq_ofNat_of_zero_le (show 0 ≤ z by omega)
    refine ⟨g, rfl, by omega, ?_⟩
    rw [Int.toNat_natCast] at h
    by_cases k2 : (m.u (10 + g)).here = true
    · exact k2
    · rw [if_neg k2] at h; omega
theorem taskE_nat {m : M} {n : Nat} (hn : n < 20) (hh : (m.u (10 + n)).here = true) : taskE m n = 0 := by
  unfold taskE; rw [if_neg (by omega), Int.toNat_natCast, if_pos hh]
theorem groupE_nat {m : M} {n : Nat} (hn : n < 10) (hh : (m.u n).here = true) : groupE m n = 0 := by
  unfold groupE; rw [if_neg (by omega), Int.toNat_natCast, if_pos hh]
theorem lowerE_zero {m : M} {z : Int} (h : lowerE m z = 0) : ∃ g : Nat, z = g ∧ 0 < g ∧ g < 10 ∧ (m.u g).here = true := by
  unfold lowerE at h
  by_cases k : groupE m z = 0
  · rw [if_pos k] at h
    obtain ⟨g, rfl, h1, h2⟩ := groupE_zero k
    refine ⟨g, rfl, ?_, h1, h2⟩
    by_cases k2 : (g : Int) = 0
    · rw [if_pos k2] at h; omega
    · omega
  · rw [if_neg k] at h; exact absurd h k
theorem lowerE_nat {m : M} {n : Nat} (h0 : 0 < n) (hn : n < 10) (hh : (m.u n).here = true) : lowerE m n = 0 := by
  unfold lowerE; rw [if_pos (groupE_nat hn hh), if_neg (by omega)]

/-- What an act leaves, if nothing is wrong; else all stays. -/
def WakeTo (m : M) (z : Int) (on : Bool) (m' : M) : Prop := (taskE m z = 0 ∧ Look (m.set (10 + z.toNat) { m.u (10 + z.toNat) with awake := on }) (10 + z.toNat) m') ∨ (taskE m z ≠ 0 ∧ m' = m)
def FreezeTo (m : M) (z : Int) (on : Bool) (m' : M) : Prop := (lowerE m z = 0 ∧ Look (m.set z.toNat { m.u z.toNat with frozen := on }) z.toNat m') ∨ (lowerE m z ≠ 0 ∧ m' = m)
def QuotaTo (m : M) (z q p : Int) (m' : M) : Prop := (quotaE m z q p = 0 ∧ Look (m.set z.toNat { m.u z.toNat with quota := q.toNat, period := p.toNat, used := 0 }) z.toNat m') ∨ (quotaE m z q p ≠ 0 ∧ m' = m)
def addM (m : M) (e : Int) (u : Nat) (g wt : Int) : M := if e = 0 then m.set u (Un.new g wt.toNat) else m
def addGroupM (m : M) (z g wt : Int) : M := addM m (addGroupE m z g wt) z.toNat g wt
def addTaskM (m : M) (z g wt : Int) : M := addM m (addTaskE m z g wt) (10 + z.toNat) g wt
theorem WakeTo.unique {m a b : M} {z : Int} {on : Bool} (h : WakeTo m z on a) (k : WakeTo m z on b) : a = b := by
  rcases h with ⟨h1, h2⟩ | ⟨h1, h2⟩ <;> rcases k with ⟨k1, k2⟩ | ⟨k1, k2⟩
  · exact h2.unique k2
  · exact absurd h1 k1
  · exact absurd k1 h1
  · rw [h2, k2]
theorem FreezeTo.unique {m a b : M} {z : Int} {on : Bool} (h : FreezeTo m z on a) (k : FreezeTo m z on b) : a = b := by
  rcases h with ⟨h1, h2⟩ | ⟨h1, h2⟩ <;> rcases k with ⟨k1, k2⟩ | ⟨k1, k2⟩
  · exact h2.unique k2
  · exact absurd h1 k1
  · exact absurd k1 h1
  · rw [h2, k2]
theorem QuotaTo.unique {m a b : M} {z q p : Int} (h : QuotaTo m z q p a) (k : QuotaTo m z q p b) : a = b := by
  rcases h with ⟨h1, h2⟩ | ⟨h1, h2⟩ <;> rcases k with ⟨k1, k2⟩ | ⟨k1, k2⟩
  · exact h2.unique k2
  · exact absurd h1 k1
  · exact absurd k1 h1
  · rw [h2, k2]

theorem Inv.wake {m m' : M} {z : Int} {on : Bool} (h : Inv m) (k : WakeTo m z on m') : Inv m' := by
  rcases k with ⟨k1, k2⟩ | ⟨_, rfl⟩
  · obtain ⟨n, rfl, hn, hh⟩ := taskE_zero k1
    rw [Int.toNat_natCast] at k2
    refine Inv.look k2 (h.turn (by omega) hh ?_) (by omega) (by rw [set_same]; exact hh)
    have t := Turn.of h (by omega) hh
    exact ⟨t.here, t.inn, t.weight, t.floor, t.quo, t.per, t.fl, t.tm⟩
  · exact h
theorem Inv.freeze {m m' : M} {z : Int} {on : Bool} (h : Inv m) (k : FreezeTo m z on m') : Inv m' := by
  rcases k with ⟨k1, k2⟩ | ⟨_, rfl⟩
  · obtain ⟨n, rfl, h0, hn, hh⟩ := lowerE_zero k1
    rw [Int.toNat_natCast] at k2
    refine Inv.look k2 (h.turn (by omega) hh ?_) (by omega) (by rw [set_same]; exact hh)
    have t := Turn.of h (by omega) hh
    exact ⟨t.here, t.inn, t.weight, t.floor, t.quo, t.per, t.fl, t.tm⟩
  · exact h
theorem quotaE_zero {m : M} {z q p : Int} (h : quotaE m z q p = 0) : lowerE m z = 0 ∧ 0 ≤ q ∧ q ≤ p ∧ 1 ≤ p ∧ p ≤ 100 := by
  unfold quotaE at h
  by_cases k : lowerE m z = 0
  · rw [if_pos k] at h
    by_cases k2 : q < 0 ∨ p < q ∨ p < 1 ∨ 100 < p
    · rw [if_pos k2] at h; omega
    · exact ⟨k, by omega, by omega, by omega, by omega⟩
  · rw [if_neg k] at h; exact absurd h k
theorem quota_turn {m : M} (h : Inv m) {n : Nat} (h0 : 0 < n) (hn : n < 10) (hh : (m.u n).here = true) {q p : Int} (hq : 0 ≤ q ∧ q ≤ p ∧ 1 ≤ p ∧ p ≤ 100) : Turn m n { m.u n with quota := q.toNat, period := p.toNat, used := 0 } := by
  have t := Turn.of h (show n < 30 by omega) hh
  refine ⟨t.here, t.inn, t.weight, t.floor, fun _ => ⟨h0, hn, ?_⟩, ?_, t.fl, t.tm.1, Nat.zero_le _, t.tm.2.2⟩
  · show 0 < p.toNat; omega
  · show q.toNat ≤ 100 ∧ p.toNat ≤ 100; omega
theorem Inv.quota {m m' : M} {z q p : Int} (h : Inv m) (k : QuotaTo m z q p m') : Inv m' := by
  rcases k with ⟨k1, k2⟩ | ⟨_, rfl⟩
  · obtain ⟨l, hq⟩ := quotaE_zero k1
    obtain ⟨n, rfl, h0, hn, hh⟩ := lowerE_zero l
    rw [Int.toNat_natCast] at k2
    exact Inv.look k2 (h.turn (by omega) hh (quota_turn h h0 hn hh hq)) (by omega) (by rw [set_same]; exact hh)
  · exact h

/-- Nobody is in what is not there. -/
theorem no_kid {m : M} (h : Inv m) {u : Nat} (hn : (m.u u).here = false) (v : Nat) (v0 : 0 < v) (hv : v < 30) (hh : (m.u v).here = true) : Fr.grp m v ≠ u := by
  intro e
  have := (h.grp v0 hv hh).2.2.1
  rw [e, hn] at this; cases this
theorem Inv.add {m : M} (h : Inv m) {u g wt : Nat} (h0 : 0 < u) (hu : u < 30) (hn : (m.u u).here = false ∨ 10 ≤ u) (hg : g < 10) (hh : (m.u g).here = true) (hw : 1 ≤ wt ∧ wt ≤ 1000) (x : Un) (hx : x = { Un.new g wt with ran := x.ran }) (hr : x.ran ≤ m.now) : Inv (m.set u x) := by
  have nk : ∀ v, 0 < v → v < 30 → (m.u v).here = true → Fr.grp m v ≠ u := by
    intro v v0 hv hv' e
    rcases hn with hn | hn
    · exact no_kid h hn v v0 hv hv' e
    · have := (h.grp v0 hv hv').1; omega
  have hgu : g ≠ u := fun e => by
    rcases hn with hn | hn
    · rw [e, hn] at hh; cases hh
    · omega
  have x1 : x.here = true := by rw [hx]; rfl
  have x2 : x.inn = (g : Int) := by rw [hx]; rfl
  have x3 : x.weight = wt := by rw [hx]; rfl
  have x4 : x.was = false := by rw [hx]; rfl
  have x5 : x.quota = 0 ∧ x.period = 0 ∧ x.time = 0 ∧ x.floor = 0 ∧ x.used = 0 := by rw [hx]; exact ⟨rfl, rfl, rfl, rfl, rfl⟩
  have hgr : ∀ v, v ≠ u → Fr.grp (m.set u x) v = Fr.grp m v := fun v hv => by unfold Fr.grp; rw [set_ne _ _ _ _ hv]
  refine ⟨?_, ?_, fun v hv hn' => ?_, fun v hv hq => ?_, fun v hv => ?_, fun v v0 hv hv' => ?_, fun v v0 hv hv' hw' => ?_, fun v hv => ?_⟩
  · rw [set_ne _ _ _ _ (by omega)]; exact h.root
  · obtain ⟨rk, R, hR⟩ := h.tree
    refine ⟨fun v => if v = u then rk g + 1 else rk v, R + 1, fun v hv => ?_, fun v v0 hv hv' => ?_⟩
    · show (if v = u then rk g + 1 else rk v) ≤ R + 1
      have := hR.le g (by omega)
      have := hR.le v hv
      split <;> omega
    · show ∃ k : Nat, k < 10 ∧ _ ∧ _ ∧ (if k = u then rk g + 1 else rk k) < (if v = u then rk g + 1 else rk v)
      by_cases e : v = u
      · subst e
        rw [set_same]
        exact ⟨g, hg, x2, by rw [set_ne _ _ _ _ hgu]; exact hh, by rw [if_neg hgu, if_pos rfl]; omega⟩
      · rw [set_ne _ _ _ _ e] at hv' ⊢
        obtain ⟨k, k1, k2, k3, k4⟩ := hR.up v v0 hv hv'
        have ku : k ≠ u := fun ek => nk v v0 hv hv' (by unfold Fr.grp; rw [k2, ek]; rfl)
        exact ⟨k, k1, k2, by rw [set_ne _ _ _ _ ku]; exact k3, by rw [if_neg ku, if_neg e]; exact k4⟩
  · by_cases e : v = u
    · subst e; rw [set_same, x1] at hn'; cases hn'
    · rw [set_ne _ _ _ _ e] at hn' ⊢; exact h.no v hv hn'
  · by_cases e : v = u
    · subst e; rw [set_same, x5.1] at hq; omega
    · rw [set_ne _ _ _ _ e] at hq ⊢; exact h.quo v hv hq
  · by_cases e : v = u
    · subst e; rw [set_same, x5.1, x5.2.1]; omega
    · rw [set_ne _ _ _ _ e]; exact h.per v hv
  · by_cases e : v = u
    · subst e; rw [set_same, x3]; exact hw
    · rw [set_ne _ _ _ _ e] at hv' ⊢; exact h.wt v v0 hv hv'
  · by_cases e : v = u
    · subst e; rw [set_same, x4] at hw'; cases hw'
    · rw [hgr v e]
      rw [set_ne _ _ _ _ e] at hv' hw' ⊢
      rw [set_ne _ _ _ _ (nk v v0 hv hv')]
      exact h.fl v v0 hv hv' hw'
  · rw [set_now]
    by_cases e : v = u
    · subst e; rw [set_same, x5.2.2.1, x5.2.2.2.1, x5.2.2.2.2]; exact ⟨Nat.zero_le _, Nat.zero_le _, Nat.zero_le _, hr⟩
    · rw [set_ne _ _ _ _ e]; exact h.tm v hv
theorem addE_zero {m : M} {u : Nat} {g wt : Int} (h : addE m u g wt = 0) : ∃ (k x : Nat), g = k ∧ wt = x ∧ k < 10 ∧ (m.u k).here = true ∧ 1 ≤ x ∧ x ≤ 1000 ∧ (m.u u).here = false := by
  unfold addE at h
  by_cases k : wt < 1 ∨ 1000 < wt
  · rw [if_pos k] at h; omega
  · rw [if_neg k] at h
    cases hh : (m.u u).here
    · rw [hh] at h
      rw [if_neg (by decide)] at h
      obtain ⟨g', rfl, h1, h2⟩ := groupE_zero h
      obtain ⟨x, rfl⟩ := Int.eq_ofNat_of_zero_le (show 0 ≤ wt by omega)
      exact ⟨g', x, rfl, rfl, h1, h2, by omega, by omega, rfl⟩
    · rw [hh, if_pos rfl] at h; omega
theorem Inv.addGroup {m : M} (h : Inv m) (z g wt : Int) : Inv (addGroupM m z g wt) := by
  unfold addGroupM addM
  by_cases k : addGroupE m z g wt = 0
  · rw [if_pos k]
    unfold addGroupE at k
    by_cases k1 : z < 0 ∨ 10 ≤ z
    · rw [if_pos k1] at k; omega
    · rw [if_neg k1] at k
      obtain ⟨g', x, rfl, rfl, h1, h2, h3, h4, h5⟩ := addE_zero k
      have hz : z.toNat ≠ 0 := fun e => by rw [e, h.root] at h5; cases h5
      rw [Int.toNat_natCast]
      exact h.add (by omega) (by omega) (.inl h5) h1 h2 ⟨h3, h4⟩ _ rfl (Nat.zero_le _)
  · rw [if_neg k]; exact h
theorem Inv.addTask {m : M} (h : Inv m) (z g wt : Int) : Inv (addTaskM m z g wt) := by
  unfold addTaskM addM
  by_cases k : addTaskE m z g wt = 0
  · rw [if_pos k]
    unfold addTaskE at k
    by_cases k1 : z < 0 ∨ 20 ≤ z
    · rw [if_pos k1] at k; omega
    · rw [if_neg k1] at k
      obtain ⟨g', x, rfl, rfl, h1, h2, h3, h4, h5⟩ := addE_zero k
      rw [Int.toNat_natCast]
      exact h.add (by omega) (by omega) (.inl h5) h1 h2 ⟨h3, h4⟩ _ rfl (Nat.zero_le _)
  · rw [if_neg k]; exact h

/-- The root alone. -/
def m0 : M := { u := fun k => if k = 0 then ⟨true, false, false, false, -1, 1, 0, 0, 0, 0, 0, 0⟩ else Un.no, now := 0 }
theorem m0_ne (k : Nat) (h : k ≠ 0) : m0.u k = Un.no := if_neg h
theorem inv0 : Inv m0 := by
  refine ⟨rfl, ⟨fun _ => 0, 0, fun _ _ => Nat.le_refl _, fun u h0 _ hh => ?_⟩, fun u _ hn => ?_, fun u _ hq => ?_, fun u _ => ?_, fun u h0 _ hh => ?_, fun u h0 _ hh _ => ?_, fun u _ => ?_⟩
  · rw [m0_ne u (by omega)] at hh; cases hh
  · by_cases e : u = 0
    · subst e; cases hn
    · exact m0_ne u e
  · by_cases e : u = 0
    · subst e; exact absurd hq (by decide)
    · rw [m0_ne u e] at hq; exact absurd hq (by decide)
  · by_cases e : u = 0
    · subst e; exact ⟨by decide, by decide⟩
    · rw [m0_ne u e]; exact ⟨by decide, by decide⟩
  · rw [m0_ne u (by omega)] at hh; cases hh
  · rw [m0_ne u (by omega)] at hh; cases hh
  · by_cases e : u = 0
    · subst e; exact ⟨by decide, by decide, by decide, by decide⟩
    · rw [m0_ne u e]; exact ⟨by decide, by decide, by decide, by decide⟩

end Fr
end Go.Proofs.Ytgabfkaadflciaa

/- The acts that take away, plain: what is answered, what is then; what stays true. -/
import Derived.Test.YtgabfkaadflciaaSy
namespace Go.Proofs.Ytgabfkaadflciaa
namespace Fr

def unitB (m : M) (g i : Nat) : Bool := (m.u i).here && decide ((m.u i).inn = (g : Int))
def hasUnit (m : M) (g : Nat) : Bool := (List.range 30).any (unitB m g)
theorem hasUnit_iff {m : M} {g : Nat} : hasUnit m g = true ↔ ∃ i, i < 30 ∧ (m.u i).here = true ∧ (m.u i).inn = (g : Int) := by
  simp [hasUnit, unitB, List.any_eq_true]
def dropGroupE (m : M) (z : Int) : Int := if groupE m z = 0 then (if z = 0 ∨ hasUnit m z.toNat = true then 5 else 0) else groupE m z
def dropGroupM (m : M) (z : Int) : M := if dropGroupE m z = 0 then m.set z.toNat Un.no else m
def DropTo (m : M) (z : Int) (m' : M) : Prop := (taskE m z = 0 ∧ ∃ m1, Look (m.set (10 + z.toNat) { m.u (10 + z.toNat) with awake := false }) (10 + z.toNat) m1 ∧ m' = m1.set (10 + z.toNat) Un.no) ∨ (taskE m z ≠ 0 ∧ m' = m)
def moveE (m : M) (z g : Int) : Int := if taskE m z = 0 then groupE m g else taskE m z
/-- A task as it comes to another group. -/
def moved (x : Un) (g : Int) : Un := { Un.new g x.weight with ran := x.ran }
def MoveTo (m : M) (z g : Int) (m' : M) : Prop := (moveE m z g = 0 ∧ ∃ m1, Look (m.set (10 + z.toNat) { m.u (10 + z.toNat) with awake := false }) (10 + z.toNat) m1 ∧ WakeTo (m1.set (10 + z.toNat) (moved (m.u (10 + z.toNat)) g)) z (m.u (10 + z.toNat)).awake m') ∨ (moveE m z g ≠ 0 ∧ m' = m)
theorem DropTo.unique {m a b : M} {z : Int} (h : DropTo m z a) (k : DropTo m z b) : a = b := by
  rcases h with ⟨h1, m1, h2, h3⟩ | ⟨h1, h2⟩ <;> rcases k with ⟨k1, m2, k2, k3⟩ | ⟨k1, k2⟩
  · obtain rfl := h2.unique k2; rw [h3, k3]
  · exact absurd h1 k1
  · exact absurd k1 h1
  · rw [h2, k2]
theorem MoveTo.unique {m a b : M} {z g : Int} (h : MoveTo m z g a) (k : MoveTo m z g b) : a = b := by
  rcases h with ⟨h1, m1, h2, h3⟩ | ⟨h1, h2⟩ <;> rcases k with ⟨k1, m2, k2, k3⟩ | ⟨k1, k2⟩
  · obtain rfl := h2.unique k2; exact h3.unique k3
  · exact absurd h1 k1
  · exact absurd k1 h1
  · rw [h2, k2]

/-- Nobody is in it: it goes. -/
theorem Inv.drop {m : M} (h : Inv m) {u : Nat} (h0 : 0 < u) (nk : ∀ v, 0 < v → v < 30 → (m.u v).here = true → Fr.grp m v ≠ u) : Inv (m.set u Un.no) := by
  have hgr : ∀ v, v ≠ u → Fr.grp (m.set u Un.no) v = Fr.grp m v := fun v hv => by unfold Fr.grp; rw [set_ne _ _ _ _ hv]
  refine ⟨?_, ?_, fun v hv hn' => ?_, fun v hv hq => ?_, fun v hv => ?_, fun v v0 hv hv' => ?_, fun v v0 hv hv' hw' => ?_, fun v hv => ?_⟩
  · rw [set_ne _ _ _ _ (by omega)]; exact h.root
  · obtain ⟨rk, R, hR⟩ := h.tree
    refine ⟨rk, R, hR.le, fun v v0 hv hv' => ?_⟩
    by_cases e : v = u
    · subst e; rw [set_same] at hv'; cases hv'
    · rw [set_ne _ _ _ _ e] at hv' ⊢
      obtain ⟨k, k1, k2, k3, k4⟩ := hR.up v v0 hv hv'
      have ku : k ≠ u := fun ek => nk v v0 hv hv' (by unfold Fr.grp; rw [k2, ek]; rfl)
      exact ⟨k, k1, k2, by rw [set_ne _ _ _ _ ku]; exact k3, k4⟩
  · by_cases e : v = u
    · subst e; rw [set_same]
    · rw [set_ne _ _ _ _ e] at hn' ⊢; exact h.no v hv hn'
  · by_cases e : v = u
    · subst e; rw [set_same] at hq; exact absurd hq (by decide)
    · rw [set_ne _ _ _ _ e] at hq ⊢; exact h.quo v hv hq
  · by_cases e : v = u
    · subst e; rw [set_same]; exact ⟨by decide, by decide⟩
    · rw [set_ne _ _ _ _ e]; exact h.per v hv
  · by_cases e : v = u
    · subst e; rw [set_same] at hv'; cases hv'
    · rw [set_ne _ _ _ _ e] at hv' ⊢; exact h.wt v v0 hv hv'
  · by_cases e : v = u
    · subst e; rw [set_same] at hv'; cases hv'
    · rw [hgr v e]
      rw [set_ne _ _ _ _ e] at hv' hw' ⊢
      rw [set_ne _ _ _ _ (nk v v0 hv hv')]
      exact h.fl v v0 hv hv' hw'
  · rw [set_now]
    by_cases e : v = u
    · subst e; rw [set_same]; exact ⟨Nat.zero_le _, Nat.zero_le _, Nat.zero_le _, Nat.zero_le _⟩
    · rw [set_ne _ _ _ _ e]; exact h.tm v hv
theorem kids_same {m : M} {u : Nat} {x : Un} (h1 : (m.u u).was = false) (h2 : x.was = false) (g v : Nat) : kidB (m.set u x) g v = kidB m g v := by
  by_cases e : v = u
  · subst e
    have a : kidB m g v = false := by
      cases hk : kidB m g v
      · rfl
      · have := (kidB_iff.1 hk).2.2.2; rw [h1] at this; cases this
    have b : kidB (m.set v x) g v = false := by
      cases hk : kidB (m.set v x) g v
      · rfl
      · have := (kidB_iff.1 hk).2.2.2; rw [set_same, h2] at this; cases this
    rw [a, b]
  · exact kid_ne e
/-- One that was not ready is laid anew, or goes: the others stay in step. -/
theorem Sync.lay {m : M} (hS : Sync m) {u : Nat} {x : Un} (h1 : (m.u u).was = false) (h2 : x.was = false) (h3 : x.here = true → ready (m.set u x) u = false) : Sync (m.set u x) := by
  intro v v0 hv hh
  by_cases e : v = u
  · subst e
    rw [set_same] at hh ⊢
    rw [h2, h3 hh]
  · rw [set_ne _ _ _ _ e] at hh ⊢
    rw [hS v v0 hv hh]
    refine (ready_of (fun _ => ?_) (fun _ => ?_) (fun _ y _ => kids_same h1 h2 v y)).symm
    · rw [set_ne _ _ _ _ e]
    · rw [set_ne _ _ _ _ e]; exact ⟨rfl, rfl, rfl⟩
/-- A task that falls asleep is not ready. -/
theorem asleep {m m1 : M} (hI : Inv m) (hS : Sync m) {n : Nat} (hn : n < 20) (hh : (m.u (10 + n)).here = true) (k : Look (m.set (10 + n) { m.u (10 + n) with awake := false }) (10 + n) m1) :
    Inv m1 ∧ Sync m1 ∧ m1.now = m.now ∧ (m1.u (10 + n)).here = true ∧ (m1.u (10 + n)).was = false ∧ (m1.u (10 + n)).awake = false ∧ (m1.u (10 + n)).weight = (m.u (10 + n)).weight ∧ (m1.u (10 + n)).ran = (m.u (10 + n)).ran ∧ ∀ v, (m1.u v).here = (m.u v).here := by
  have W : WakeTo m n false m1 := .inl ⟨taskE_nat hn hh, k⟩
  have i1 := hI.wake W
  have s1 := Sync.wake hI hS W
  have kp := look_keep k (10 + n)
  rw [set_same] at kp
  have lk := look_here k
  have hhe : ∀ v, (m1.u v).here = (m.u v).here := fun v => (lk.2 v).1.trans (here_set (m := m) (x := { m.u (10 + n) with awake := false }) rfl v)
  have ha : (m1.u (10 + n)).awake = false := by rw [kp]
  refine ⟨i1, s1, lk.1, by rw [hhe]; exact hh, ?_, ha, by rw [kp], by rw [kp], hhe⟩
  rw [s1 (10 + n) (by omega) (by omega) (by rw [hhe]; exact hh)]
  unfold ready; rw [if_pos (by omega)]; exact ha
theorem no_task {m : M} (h : Inv m) {n : Nat} : ∀ v, 0 < v → v < 30 → (m.u v).here = true → Fr.grp m v ≠ 10 + n := fun v v0 hv hh => by have := (h.grp v0 hv hh).1; omega
theorem Inv.dropTask {m m' : M} {z : Int} (h : Inv m) (hS : Sync m) (k : DropTo m z m') : Inv m' ∧ Sync m' ∧ m'.now = m.now := by
  rcases k with ⟨k1, m1, k2, rfl⟩ | ⟨_, rfl⟩
  · obtain ⟨n, rfl, hn, hh⟩ := taskE_zero k1
    rw [Int.toNat_natCast] at *
    have a := asleep h hS hn hh k2
    exact ⟨a.1.drop (by omega) (no_task a.1), a.2.1.lay a.2.2.2.2.1 rfl (fun c => by cases c), a.2.2.1⟩
  · exact ⟨h, hS, rfl⟩
theorem Inv.moveTask {m m' : M} {z g : Int} (h : Inv m) (hS : Sync m) (k : MoveTo m z g m') : Inv m' ∧ Sync m' ∧ m'.now = m.now := by
  rcases k with ⟨k1, m1, k2, k3⟩ | ⟨_, rfl⟩
  · unfold moveE at k1
    by_cases hz : taskE m z = 0
    · rw [if_pos hz] at k1
      obtain ⟨n, rfl, hn, hh⟩ := taskE_zero hz
      obtain ⟨G, rfl, hG, hGh⟩ := groupE_zero k1
      rw [Int.toNat_natCast] at *
      have a := asleep h hS hn hh k2
      have wt := h.wt (10 + n) (by omega) (by omega) hh
      have i2 : Inv (m1.set (10 + n) (moved (m.u (10 + n)) G)) := a.1.add (wt := (m.u (10 + n)).weight) (g := G) (by omega) (by omega) (.inr (by omega)) hG (by rw [a.2.2.2.2.2.2.2.2]; exact hGh) wt _ rfl (by rw [a.2.2.1]; exact (h.tm (10 + n) (by omega)).2.2.2)
      have s2 : Sync (m1.set (10 + n) (moved (m.u (10 + n)) G)) := a.2.1.lay a.2.2.2.2.1 rfl (fun _ => by unfold ready; rw [if_pos (by omega), set_same]; rfl)
      refine ⟨i2.wake k3, Sync.wake i2 s2 k3, ?_⟩
      rcases k3 with ⟨_, k3⟩ | ⟨_, rfl⟩
      · exact (look_here k3).1.trans a.2.2.1
      · exact a.2.2.1
    · rw [if_neg hz] at k1; exact absurd k1 hz
  · exact ⟨h, hS, rfl⟩
theorem dropGroupE_zero {m : M} {z : Int} (h : dropGroupE m z = 0) : ∃ g : Nat, z = g ∧ 0 < g ∧ g < 10 ∧ (m.u g).here = true ∧ hasUnit m g = false := by
  unfold dropGroupE at h
  by_cases k : groupE m z = 0
  · rw [if_pos k] at h
    obtain ⟨g, rfl, h1, h2⟩ := groupE_zero k
    rw [Int.toNat_natCast] at h
    by_cases c : (g : Int) = 0 ∨ hasUnit m g = true
    · rw [if_pos c] at h; omega
    · refine ⟨g, rfl, by omega, h1, h2, ?_⟩
      cases hu : hasUnit m g
      · rfl
      · exact absurd (.inr hu) c
  · rw [if_neg k] at h; exact absurd h k
theorem empty_group {m : M} (h : Inv m) (hS : Sync m) {g : Nat} (g0 : 0 < g) (hg : g < 10) (hh : (m.u g).here = true) (hu : hasUnit m g = false) : (m.u g).was = false ∧ ∀ v, 0 < v → v < 30 → (m.u v).here = true → Fr.grp m v ≠ g := by
  have nk : ∀ v, 0 < v → v < 30 → (m.u v).here = true → Fr.grp m v ≠ g := fun v v0 hv hv' e => by
    have := (h.grp v0 hv hv').2.1
    rw [e] at this
    have := hasUnit_iff.2 ⟨v, hv, hv', this⟩
    rw [hu] at this; cases this
  refine ⟨?_, nk⟩
  rw [hS g g0 (by omega) hh]
  unfold ready
  rw [if_neg (by omega)]
  have : hasKid m g = false := by
    cases hk : hasKid m g
    · rfl
    · obtain ⟨v, hv, kv⟩ := hasKid_iff.1 hk
      have kb := kidB_iff.1 kv
      exact absurd (kid_grp kv) (nk v kb.1 hv kb.2.1)
  rw [this]; rfl
theorem Inv.dropGroup {m : M} (h : Inv m) (hS : Sync m) (z : Int) : Inv (dropGroupM m z) ∧ Sync (dropGroupM m z) ∧ (dropGroupM m z).now = m.now := by
  unfold dropGroupM
  by_cases k : dropGroupE m z = 0
  · rw [if_pos k]
    obtain ⟨g, rfl, g0, hg, hh, hu⟩ := dropGroupE_zero k
    rw [Int.toNat_natCast]
    have e := empty_group h hS g0 hg hh hu
    exact ⟨h.drop g0 e.2, hS.lay e.1 rfl (fun c => by cases c), rfl⟩
  · rw [if_neg k]; exact ⟨h, hS, rfl⟩

end Fr
end Go.Proofs.Ytgabfkaadflciaa

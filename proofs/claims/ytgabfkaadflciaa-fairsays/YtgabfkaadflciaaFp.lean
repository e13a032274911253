/- What is paid for a tick, plain: who is on the way up; what stays true. -/
import Derived.Test.YtgabfkaadflciaaFl
namespace Go.Proofs.Ytgabfkaadflciaa
namespace Fr

theorem payF_u {m : M} {u : Nat} (hg : grp m u ≠ u) : (payF m u).u u = m.u u := set_ne _ _ _ _ (fun e => hg e.symm)
theorem payT_eq {m : M} {u : Nat} (hg : grp m u ≠ u) : payT m u = (payF m u).set u (payU u (m.u u)) := by unfold payT; rw [payF_u hg]
theorem payT_u {m : M} {u : Nat} (hg : grp m u ≠ u) : (payT m u).u u = payU u (m.u u) := by rw [payT_eq hg, set_same]
theorem payT_g {m : M} {u : Nat} (hg : grp m u ≠ u) : (payT m u).u (grp m u) = { m.u (grp m u) with floor := max (m.u (grp m u)).floor (m.u u).time } := by
  rw [payT_eq hg, set_ne _ _ _ _ hg]; unfold payF; rw [set_same]
theorem payT_ne {m : M} {u v : Nat} (h1 : v ≠ u) (h2 : v ≠ grp m u) : (payT m u).u v = m.u v := by
  unfold payT; rw [set_ne _ _ _ _ h1]; unfold payF; rw [set_ne _ _ _ _ h2]
theorem payF_here (m : M) (u v : Nat) : ((payF m u).u v).here = (m.u v).here := by
  unfold payF
  by_cases e : v = grp m u
  · rw [e, set_same]
  · rw [set_ne _ _ _ _ e]
theorem payF_inn (m : M) (u v : Nat) : ((payF m u).u v).inn = (m.u v).inn := by
  unfold payF
  by_cases e : v = grp m u
  · rw [e, set_same]
  · rw [set_ne _ _ _ _ e]
theorem payF_grp (m : M) (u v : Nat) : grp (payF m u) v = grp m v := by unfold grp; rw [payF_inn]
theorem payC_eq (m : M) (u : Nat) : payC m u = (payF m u).set u { payU u ((payF m u).u u) with was := ready (payT m u) u } := by
  unfold payC setWas; rw [show (payT m u).u u = payU u ((payF m u).u u) from set_same _ _ _]; unfold payT; rw [set_set]
theorem payC_here (m : M) (u v : Nat) : ((payC m u).u v).here = (m.u v).here := by
  rw [payC_eq]
  by_cases e : v = u
  · rw [e, set_same]; exact payF_here m u u
  · rw [set_ne _ _ _ _ e, payF_here]
theorem payC_inn (m : M) (u v : Nat) : ((payC m u).u v).inn = (m.u v).inn := by
  rw [payC_eq]
  by_cases e : v = u
  · rw [e, set_same]; exact payF_inn m u u
  · rw [set_ne _ _ _ _ e, payF_inn]
theorem payC_grp (m : M) (u v : Nat) : grp (payC m u) v = grp m v := by unfold grp; rw [payC_inn]
theorem payC_ne {m : M} {u v : Nat} (h : v ≠ u) : (payC m u).u v = (payF m u).u v := by rw [payC_eq, set_ne _ _ _ _ h]
theorem payF_ne {m : M} {u v : Nat} (h : v ≠ grp m u) : (payF m u).u v = m.u v := by unfold payF; rw [set_ne _ _ _ _ h]
theorem payF_tw (m : M) (u v : Nat) : ((payF m u).u v).time = (m.u v).time ∧ ((payF m u).u v).was = (m.u v).was ∧ ((payF m u).u v).used = (m.u v).used ∧ ((payF m u).u v).ran = (m.u v).ran := by
  unfold payF
  by_cases e : v = grp m u
  · subst e; rw [set_same]; exact ⟨rfl, rfl, rfl, rfl⟩
  · rw [set_ne _ _ _ _ e]; exact ⟨rfl, rfl, rfl, rfl⟩
theorem ranUp_u (m : M) (u : Nat) : (ranUp m u).u u = { m.u u with ran := if 10 ≤ u then (m.u u).ran + 1 else (m.u u).ran } := by
  unfold ranUp
  by_cases h : 10 ≤ u
  · rw [if_pos h, if_pos h, set_same]
  · rw [if_neg h, if_neg h]
theorem ranUp_ne {m : M} {u v : Nat} (h : v ≠ u) : (ranUp m u).u v = m.u v := by
  unfold ranUp
  by_cases k : 10 ≤ u
  · rw [if_pos k, set_ne _ _ _ _ h]
  · rw [if_neg k]
theorem ranUp_now (m : M) (u : Nat) : (ranUp m u).now = m.now := by unfold ranUp; split <;> rfl
theorem payC_now (m : M) (u : Nat) : (payC m u).now = m.now := rfl
theorem payR_now (m : M) (u : Nat) : (payR m u).now = m.now := by unfold payR; rw [payC_now, ranUp_now]
theorem ranUp_here (m : M) (u v : Nat) : ((ranUp m u).u v).here = (m.u v).here ∧ ((ranUp m u).u v).inn = (m.u v).inn ∧ ((ranUp m u).u v).was = (m.u v).was ∧ ((ranUp m u).u v).time = (m.u v).time ∧ ((ranUp m u).u v).floor = (m.u v).floor := by
  by_cases e : v = u
  · subst e; rw [ranUp_u]; exact ⟨rfl, rfl, rfl, rfl, rfl⟩
  · rw [ranUp_ne e]; exact ⟨rfl, rfl, rfl, rfl, rfl⟩
theorem ranUp_grp (m : M) (u v : Nat) : grp (ranUp m u) v = grp m v := by unfold grp; rw [(ranUp_here m u v).2.1]
theorem payR_here (m : M) (u v : Nat) : ((payR m u).u v).here = (m.u v).here := by unfold payR; rw [payC_here, (ranUp_here m u v).1]
theorem payR_inn (m : M) (u v : Nat) : ((payR m u).u v).inn = (m.u v).inn := by unfold payR; rw [payC_inn, (ranUp_here m u v).2.1]
theorem payR_grp (m : M) (u v : Nat) : grp (payR m u) v = grp m v := by unfold grp; rw [payR_inn]
theorem payR_tw {m : M} {u v : Nat} (h : v ≠ u) : ((payR m u).u v).time = (m.u v).time ∧ ((payR m u).u v).was = (m.u v).was ∧ ((payR m u).u v).used = (m.u v).used ∧ ((payR m u).u v).ran = (m.u v).ran := by
  unfold payR; rw [payC_ne h]
  have := payF_tw (ranUp m u) u v
  rw [ranUp_ne h] at this
  exact this

/-- Does readiness hang on kids and on what a group is alone? -/
theorem ready_of {m m' : M} {u : Nat} (ha : 10 ≤ u → (m'.u u).awake = (m.u u).awake) (hf : u < 10 → (m'.u u).frozen = (m.u u).frozen ∧ (m'.u u).quota = (m.u u).quota ∧ (m'.u u).used = (m.u u).used) (hk : u < 10 → ∀ v, v < 30 → kidB m' u v = kidB m u v) : ready m' u = ready m u := by
  unfold ready
  by_cases h : 10 ≤ u
  · rw [if_pos h, if_pos h, ha h]
  · rw [if_neg h, if_neg h]
    have f := hf (by omega)
    have e1 : hasKid m' u = hasKid m u := by
      unfold hasKid
      rw [Bool.eq_iff_iff, List.any_eq_true, List.any_eq_true]
      constructor
      · rintro ⟨v, h1, h2⟩; exact ⟨v, h1, by rw [← hk (by omega) v (by simpa using h1)]; exact h2⟩
      · rintro ⟨v, h1, h2⟩; exact ⟨v, h1, by rw [hk (by omega) v (by simpa using h1)]; exact h2⟩
    have e2 : mayB (m'.u u) = mayB (m.u u) := by unfold mayB; rw [f.1, f.2.1, f.2.2]
    rw [e1, e2]
theorem kid_self {m : M} {u : Nat} (hg : grp m u ≠ u) : kidB m u u = false := by
  cases h : kidB m u u
  · rfl
  · have := (kidB_iff.1 h).2.2.1
    refine absurd ?_ hg
    unfold grp; rw [this]; rfl

/-- Lined up anew behind a payment. -/
theorem line_pay {m : M} {u : Nat} (hg : grp m u ≠ u) (hf : (m.u (grp m u)).floor ≤ (m.u u).time) : line (setWas (payT m u) u false) u = payC m u := by
  have hgT : grp (payT m u) u = grp m u := by unfold grp; rw [payT_u hg]; rfl
  have e1 : ready (setWas (payT m u) u false) u = ready (payT m u) u := by
    refine ready_of (fun _ => ?_) (fun _ => ?_) (fun _ v _ => ?_)
    · unfold setWas; rw [set_same]
    · unfold setWas; rw [set_same]; exact ⟨rfl, rfl, rfl⟩
    · by_cases e : v = u
      · subst e
        have hgS : grp (setWas (payT m v) v false) v ≠ v := by
          unfold grp setWas; rw [set_same]; exact fun k => hg (hgT.symm.trans k)
        rw [kid_self hgS, kid_self (by rw [hgT]; exact hg)]
      · exact kid_ne e
  have e2 : lineU (setWas (payT m u) u false) u = { (payT m u).u u with was := ready (payT m u) u } := by
    unfold lineU
    rw [e1]
    have e3 : (setWas (payT m u) u false).u u = { (payT m u).u u with was := false } := set_same _ _ _
    have e4 : grp (setWas (payT m u) u false) u = grp m u := by unfold grp; rw [e3]; exact hgT
    have e5 : ((setWas (payT m u) u false).u (grp m u)).floor = max (m.u (grp m u)).floor (m.u u).time := by
      unfold setWas; rw [set_ne _ _ _ _ hg, payT_g hg]
    rw [e3, e4, e5, payT_u hg]
    have e6 : max (payU u (m.u u)).time (max (m.u (grp m u)).floor (m.u u).time) = (payU u (m.u u)).time := by
      show max ((m.u u).time + 1048576 / (m.u u).weight) _ = (m.u u).time + 1048576 / (m.u u).weight
      obtain ⟨d, hd⟩ : ∃ d, 1048576 / (m.u u).weight = d := ⟨_, rfl⟩
      rw [hd]
      exact Nat.max_eq_left (Nat.max_le.2 ⟨by omega, by omega⟩)
    simp only [e6, ite_self]
  unfold line
  rw [e2]
  unfold payC setWas
  rw [set_set]

/-- Who is on the way up from a unit that was taken: each was ready, and the least of its group. -/
def PathN (m : M) : Nat → Nat → Prop
  | 0, u => u = 0
  | n + 1, u => u = 0 ∨ (0 < u ∧ u < 30 ∧ (m.u u).here = true ∧ (m.u u).was = true ∧ (∀ v, 0 < v → v < 30 → (m.u v).here = true → grp m v = grp m u → (m.u v).was = true → (m.u u).time ≤ (m.u v).time) ∧ PathN m n (grp m u))
def Path (m : M) (u : Nat) : Prop := ∃ n, PathN m n u
theorem Path.root {m : M} : Path m 0 := ⟨0, rfl⟩
theorem Path.up {m : M} {u : Nat} (h0 : 0 < u) (hu : u < 30) (hh : (m.u u).here = true) (hw : (m.u u).was = true) (hl : ∀ v, 0 < v → v < 30 → (m.u v).here = true → grp m v = grp m u → (m.u v).was = true → (m.u u).time ≤ (m.u v).time) (p : Path m (grp m u)) : Path m u := by
  obtain ⟨n, p⟩ := p
  exact ⟨n + 1, .inr ⟨h0, hu, hh, hw, hl, p⟩⟩
theorem Path.ind {m : M} {motive : (u : Nat) → Path m u → Prop} (root : motive 0 Path.root)
    (up : ∀ {u : Nat} (h0 : 0 < u) (hu : u < 30) (hh : (m.u u).here = true) (hw : (m.u u).was = true) (hl : ∀ v, 0 < v → v < 30 → (m.u v).here = true → grp m v = grp m u → (m.u v).was = true → (m.u u).time ≤ (m.u v).time) (p : Path m (grp m u)), motive _ p → motive u (Path.up h0 hu hh hw hl p)) {u : Nat} (p : Path m u) : motive u p := by
  obtain ⟨n, p⟩ := p
  induction n generalizing u with
  | zero => obtain rfl := p; exact root
  | succ n ih =>
    rcases p with rfl | ⟨h0, hu, hh, hw, hl, p⟩
    · exact root
    · exact up h0 hu hh hw hl ⟨n, p⟩ (ih p)
theorem Path.inv {m : M} {u : Nat} (p : Path m u) (h0 : 0 < u) : u < 30 ∧ (m.u u).here = true ∧ (m.u u).was = true ∧ (∀ v, 0 < v → v < 30 → (m.u v).here = true → grp m v = grp m u → (m.u v).was = true → (m.u u).time ≤ (m.u v).time) ∧ Path m (grp m u) := by
  induction p using Path.ind with
  | root => omega
  | up _ hu hh hw hl p _ => exact ⟨hu, hh, hw, hl, p⟩
theorem Path.keep {m m' : M} {rk : Nat → Nat} {R u : Nat} (hR : Rank m rk R) (hh : ∀ v, (m'.u v).here = (m.u v).here) (hi : ∀ v, (m'.u v).inn = (m.u v).inn) (hw : ∀ v, v ≠ u → (m'.u v).was = (m.u v).was ∧ (m'.u v).time = (m.u v).time)
    (hg : rk (grp m u) < rk u) {x : Nat} (p : Path m x) : rk x ≤ rk (grp m u) → Path m' x := by
  have hgr : ∀ v, grp m' v = grp m v := fun v => by unfold grp; rw [hi]
  induction p using Path.ind with
  | root => exact fun _ => .root
  | @up x h0 hu' hh' hw' hl p ih =>
    intro hx
    have hne : x ≠ u := fun e => by subst e; omega
    obtain ⟨g, h1, h2, h3, h4⟩ := hR.up x h0 hu' hh'
    have e : grp m x = g := by unfold grp; rw [h2]; rfl
    refine .up h0 hu' (by rw [hh]; exact hh') (by rw [(hw x hne).1]; exact hw') (fun v v0 hv hv' hv2 hv3 => ?_) (by rw [hgr]; exact ih (by rw [e]; omega))
    have hvu : v ≠ u := fun e' => by subst e'; rw [hgr, hgr] at hv2; rw [hv2, e] at hx; omega
    rw [(hw x hne).2, (hw v hvu).2]
    exact hl v v0 hv (by rw [← hh]; exact hv') (by rw [← hgr, ← hgr]; exact hv2) (by rw [← (hw v hvu).1]; exact hv3)
theorem path_of_pick {m : M} (hI : Inv m) {g : Nat} {r : Option Nat} (k : Pick m g r) : ∀ t, r = some t → Path m g → g < 30 → Path m t ∧ t < 30 ∧ 10 ≤ t := by
  induction k using Pick.ind with
  | none => intro t e; cases e
  | task h => intro t e p hg; cases e; exact ⟨p, hg, h⟩
  | @down g v r h k p ih =>
    intro t e pg _
    have kb := kidB_iff.1 k.kid
    have hgv : grp m v = g := by unfold grp; rw [kb.2.2.1]; rfl
    refine ih t e (.up kb.1 k.lt kb.2.1 kb.2.2.2 (fun x x0 hx hx' hx2 hx3 => ?_) (by rw [hgv]; exact pg)) k.lt
    have gx := hI.grp x0 hx hx'
    have := k.least x hx (kidB_iff.2 ⟨x0, hx', by rw [gx.2.1, hx2, hgv], hx3⟩)
    omega

/-- There is room for one tick more. -/
def Slack (m : M) (v : Nat) : Prop := (m.u v).time + 1048576 ≤ m.now * 1048576 ∧ (m.u v).used + 1 ≤ m.now ∧ (m.u v).ran + 1 ≤ m.now

theorem Inv.payR {m : M} (h : Inv m) {u : Nat} (h0 : 0 < u) (hu : u < 30) (hh : (m.u u).here = true) (hw : (m.u u).was = true)
    (hl : ∀ v, 0 < v → v < 30 → (m.u v).here = true → Fr.grp m v = Fr.grp m u → (m.u v).was = true → (m.u u).time ≤ (m.u v).time) (hs : Slack m u) : Inv (payR m u) := by
  have hg := h.grp h0 hu hh
  have t0 := Turn.of h hu hh
  have h1 : Inv (ranUp m u) := by
    unfold ranUp
    split
    · refine h.turn hu hh ⟨t0.here, t0.inn, t0.weight, t0.floor, t0.quo, t0.per, t0.fl, t0.tm.1, t0.tm.2.1, hs.2.2⟩
    · exact h
  have hr := ranUp_here m u
  have h2 : Inv (Fr.payF (ranUp m u) u) := h1.payF h0 hu (by rw [(hr u).1]; exact hh) (fun v v0 hv hv' hv2 hv3 => by
    rw [(hr u).2.2.2.1, (hr v).2.2.2.1]
    exact hl v v0 hv (by rw [← (hr v).1]; exact hv') (by rw [← ranUp_grp m u v, ← ranUp_grp m u u]; exact hv2) (by rw [← (hr v).2.2.1]; exact hv3))
  unfold Fr.payR
  rw [payC_eq]
  have hgr : Fr.grp (ranUp m u) u ≠ u := by rw [ranUp_grp]; exact hg.2.2.2
  have eu : (Fr.payF (ranUp m u) u).u u = (ranUp m u).u u := payF_u hgr
  have t2 := Turn.of h2 hu (by rw [payF_here, (hr u).1]; exact hh)
  have hwt := h.wt u h0 hu hh
  have hd : 1048576 / (m.u u).weight ≤ 1048576 := Nat.div_le_self _ _
  refine h2.turn hu (by rw [payF_here, (hr u).1]; exact hh) ⟨t2.here, t2.inn, t2.weight, t2.floor, t2.quo, t2.per, fun _ _ => ?_, ?_, ?_, ?_⟩
  · rw [payF_grp]
    have := h.fl u h0 hu hh hw
    rw [show ((Fr.payF (ranUp m u) u).u (Fr.grp (ranUp m u) u)).floor = max ((ranUp m u).u (Fr.grp (ranUp m u) u)).floor ((ranUp m u).u u).time from by unfold Fr.payF; rw [set_same]]
    rw [eu, (hr _).2.2.2.2, ranUp_grp, (hr u).2.2.2.1]
    show _ ≤ ((ranUp m u).u u).time + _
    rw [(hr u).2.2.2.1]
    exact Nat.le_trans (Nat.max_le.2 ⟨this, Nat.le_refl _⟩) (Nat.le_add_right _ _)
  · rw [eu]
    show ((ranUp m u).u u).time + 1048576 / ((ranUp m u).u u).weight ≤ (ranUp m u).now * 1048576
    rw [(hr u).2.2.2.1, ranUp_now, show ((ranUp m u).u u).weight = (m.u u).weight from by rw [ranUp_u]]
    have := hs.1
    omega
  · rw [eu]
    show (if 0 < ((ranUp m u).u u).quota then ((ranUp m u).u u).used + 1 else ((ranUp m u).u u).used) ≤ (ranUp m u).now
    rw [ranUp_now, show ((ranUp m u).u u).used = (m.u u).used from by rw [ranUp_u]]
    have := hs.2.1
    split <;> omega
  · rw [eu]
    show (if u < 10 then ((ranUp m u).u u).ran + 1 else ((ranUp m u).u u).ran) ≤ (ranUp m u).now
    rw [ranUp_now, ranUp_u]
    have := hs.2.2
    show (if u < 10 then (if 10 ≤ u then (m.u u).ran + 1 else (m.u u).ran) + 1 else (if 10 ≤ u then (m.u u).ran + 1 else (m.u u).ran)) ≤ _
    split <;> split <;> omega

end Fr
end Go.Proofs.Ytgabfkaadflciaa

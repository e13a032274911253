import Derived.Test.YtghogbngmcolmaaGreatSau
namespace Go.Proofs.YtghogbngmcolmaaGreat.Fa
namespace Fr
theorem payF_u {m : M} {u : Nat} (hg : grp m u ≠ u) : (payF m u).u u = m.u u := set_ne _ _ _ _ (fun e => hg e.symm)
theorem payT_eq {m : M} {u : Nat} (hg : grp m u ≠ u) : payT m u = (payF m u).set u (payU u (m.u u)) := by unfold payT; rw [payF_u hg]
theorem payT_u {m : M} {u : Nat} (hg : grp m u ≠ u) : (payT m u).u u = payU u (m.u u) := by rw [payT_eq hg, set_same]
theorem payT_g {m : M} {u : Nat} (hg : grp m u ≠ u) : (payT m u).u (grp m u) = { m.u (grp m u) with floor := max (m.u (grp m u)).floor (m.u u).time } := by
  rw [payT_eq hg, set_ne _ _ _ _ hg]; unfold payF; rw [set_same]
theorem payF_here (m : M) (u v : Nat) : ((payF m u).u v).here = (m.u v).here := by
  unfold payF
  by_cases e : v = grp m u
  · rw [e, set_same]
  · rw [set_ne _ _ _ _ e]
theorem payF_inn (m : M) (u v : Nat) : ((payF m u).u v).inn = (m.u v).inn := by
  unfold payF
  by_cases e : v = grp m u
  · rw [e, set_same]
  · rw [set_ne _ _ _ _ e]
theorem payF_grp (m : M) (u v : Nat) : grp (payF m u) v = grp m v := by unfold grp; rw [payF_inn]
theorem payC_eq (m : M) (u : Nat) : payC m u = (payF m u).set u { payU u ((payF m u).u u) with was := ready (payT m u) u } := by
  unfold payC setWas; rw [show (payT m u).u u = payU u ((payF m u).u u) from set_same _ _ _]; unfold payT; rw [set_set]
theorem payC_here (m : M) (u v : Nat) : ((payC m u).u v).here = (m.u v).here := by
  rw [payC_eq]
  by_cases e : v = u
  · rw [e, set_same]; exact payF_here m u u
  · rw [set_ne _ _ _ _ e, payF_here]
theorem payC_inn (m : M) (u v : Nat) : ((payC m u).u v).inn = (m.u v).inn := by
  rw [payC_eq]
  by_cases e : v = u
  · rw [e, set_same]; exact payF_inn m u u
  · rw [set_ne _ _ _ _ e, payF_inn]
theorem payC_ne {m : M} {u v : Nat} (h : v ≠ u) : (payC m u).u v = (payF m u).u v := by rw [payC_eq, set_ne _ _ _ _ h]
theorem payF_tw (m : M) (u v : Nat) : ((payF m u).u v).time = (m.u v).time ∧ ((payF m u).u v).was = (m.u v).was ∧ ((payF m u).u v).used = (m.u v).used ∧ ((payF m u).u v).ran = (m.u v).ran := by
  unfold payF
  by_cases e : v = grp m u
  · subst e; rw [set_same]; exact ⟨rfl, rfl, rfl, rfl⟩
  · rw [set_ne _ _ _ _ e]; exact ⟨rfl, rfl, rfl, rfl⟩
theorem ranUp_u (m : M) (u : Nat) : (ranUp m u).u u = { m.u u with ran := if 10 ≤ u then (m.u u).ran + 1 else (m.u u).ran } := by
  unfold ranUp
  by_cases h : 10 ≤ u
  · rw [if_pos h, if_pos h, set_same]
  · rw [if_neg h, if_neg h]
theorem ranUp_ne {m : M} {u v : Nat} (h : v ≠ u) : (ranUp m u).u v = m.u v := by
  unfold ranUp
  by_cases k : 10 ≤ u
  · rw [if_pos k, set_ne _ _ _ _ h]
  · rw [if_neg k]
theorem ranUp_now (m : M) (u : Nat) : (ranUp m u).now = m.now := by unfold ranUp; split <;> rfl
theorem payC_now (m : M) (u : Nat) : (payC m u).now = m.now := rfl
theorem payR_now (m : M) (u : Nat) : (payR m u).now = m.now := by unfold payR; rw [payC_now, ranUp_now]
theorem ranUp_here (m : M) (u v : Nat) : ((ranUp m u).u v).here = (m.u v).here ∧ ((ranUp m u).u v).inn = (m.u v).inn ∧ ((ranUp m u).u v).was = (m.u v).was ∧ ((ranUp m u).u v).time = (m.u v).time ∧ ((ranUp m u).u v).floor = (m.u v).floor := by
  by_cases e : v = u
  · subst e; rw [ranUp_u]; exact ⟨rfl, rfl, rfl, rfl, rfl⟩
  · rw [ranUp_ne e]; exact ⟨rfl, rfl, rfl, rfl, rfl⟩
theorem ranUp_grp (m : M) (u v : Nat) : grp (ranUp m u) v = grp m v := by unfold grp; rw [(ranUp_here m u v).2.1]
theorem payR_here (m : M) (u v : Nat) : ((payR m u).u v).here = (m.u v).here := by unfold payR; rw [payC_here, (ranUp_here m u v).1]
theorem payR_inn (m : M) (u v : Nat) : ((payR m u).u v).inn = (m.u v).inn := by unfold payR; rw [payC_inn, (ranUp_here m u v).2.1]
theorem payR_grp (m : M) (u v : Nat) : grp (payR m u) v = grp m v := by unfold grp; rw [payR_inn]
theorem payR_tw {m : M} {u v : Nat} (h : v ≠ u) : ((payR m u).u v).time = (m.u v).time ∧ ((payR m u).u v).was = (m.u v).was ∧ ((payR m u).u v).used = (m.u v).used ∧ ((payR m u).u v).ran = (m.u v).ran := by
  unfold payR; rw [payC_ne h]
  have := payF_tw (ranUp m u) u v
  rw [ranUp_ne h] at this
  exact this
theorem ready_of {m m' : M} {u : Nat} (ha : 10 ≤ u → (m'.u u).awake = (m.u u).awake) (hf : u < 10 → (m'.u u).frozen = (m.u u).frozen ∧ (m'.u u).quota = (m.u u).quota ∧ (m'.u u).used = (m.u u).used) (hk : u < 10 → ∀ v, v < 30 → kidB m' u v = kidB m u v) : ready m' u = ready m u := by
  unfold ready
  by_cases h : 10 ≤ u
  · rw [if_pos h, if_pos h, ha h]
  · rw [if_neg h, if_neg h]
    have f := hf (by omega)
    have e1 : hasKid m' u = hasKid m u := by
      unfold hasKid
      rw [Bool.eq_iff_iff, List.any_eq_true, List.any_eq_true]
      constructor
      · rintro ⟨v, h1, h2⟩; exact ⟨v, h1, by rw [← hk (by omega) v (by simpa using h1)]; exact h2⟩
      · rintro ⟨v, h1, h2⟩; exact ⟨v, h1, by rw [hk (by omega) v (by simpa using h1)]; exact h2⟩
    have e2 : mayB (m'.u u) = mayB (m.u u) := by unfold mayB; rw [f.1, f.2.1, f.2.2]
    rw [e1, e2]
theorem kid_self {m : M} {u : Nat} (hg : grp m u ≠ u) : kidB m u u = false := by
  cases h : kidB m u u
  · rfl
  · have := (kidB_iff.1 h).2.2.1
    refine absurd ?_ hg
    unfold grp; rw [this]; rfl
theorem line_pay {m : M} {u : Nat} (hg : grp m u ≠ u) (hf : (m.u (grp m u)).floor ≤ (m.u u).time) : line (setWas (payT m u) u false) u = payC m u := by
  have hgT : grp (payT m u) u = grp m u := by unfold grp; rw [payT_u hg]; rfl
  have e1 : ready (setWas (payT m u) u false) u = ready (payT m u) u := by
    refine ready_of (fun _ => ?_) (fun _ => ?_) (fun _ v _ => ?_)
    · unfold setWas; rw [set_same]
    · unfold setWas; rw [set_same]; exact ⟨rfl, rfl, rfl⟩
    · by_cases e : v = u
      · subst e
        have hgS : grp (setWas (payT m v) v false) v ≠ v := by
          unfold grp setWas; rw [set_same]; exact fun k => hg (hgT.symm.trans k)
        rw [kid_self hgS, kid_self (by rw [hgT]; exact hg)]
      · exact kid_ne e
  have e2 : lineU (setWas (payT m u) u false) u = { (payT m u).u u with was := ready (payT m u) u } := by
    unfold lineU
    rw [e1]
    have e3 : (setWas (payT m u) u false).u u = { (payT m u).u u with was := false } := set_same _ _ _
    have e4 : grp (setWas (payT m u) u false) u = grp m u := by unfold grp; rw [e3]; exact hgT
    have e5 : ((setWas (payT m u) u false).u (grp m u)).floor = max (m.u (grp m u)).floor (m.u u).time := by
      unfold setWas; rw [set_ne _ _ _ _ hg, payT_g hg]
    rw [e3, e4, e5, payT_u hg]
    have e6 : max (payU u (m.u u)).time (max (m.u (grp m u)).floor (m.u u).time) = (payU u (m.u u)).time := by
      show max ((m.u u).time + 1048576 / (m.u u).weight) _ = (m.u u).time + 1048576 / (m.u u).weight
      obtain ⟨d, hd⟩ : ∃ d, 1048576 / (m.u u).weight = d := ⟨_, rfl⟩
      rw [hd]
      exact Nat.max_eq_left (Nat.max_le.2 ⟨by omega, by omega⟩)
    simp only [e6, ite_self]
  unfold line
  rw [e2]
  unfold payC setWas
  rw [set_set]
def PathN (m : M) : Nat → Nat → Prop
  | 0, u => u = 0
  | n + 1, u => u = 0 ∨ (0 < u ∧ u < 30 ∧ (m.u u).here = true ∧ (m.u u).was = true ∧ (∀ v, 0 < v → v < 30 → (m.u v).here = true → grp m v = grp m u → (m.u v).was = true → (m.u u).time ≤ (m.u v).time) ∧ PathN m n (grp m u))
def Path (m : M) (u : Nat) : Prop := ∃ n, PathN m n u
theorem Path.root {m : M} : Path m 0 := ⟨0, rfl⟩
theorem Path.up {m : M} {u : Nat} (h0 : 0 < u) (hu : u < 30) (hh : (m.u u).here = true) (hw : (m.u u).was = true) (hl : ∀ v, 0 < v → v < 30 → (m.u v).here = true → grp m v = grp m u → (m.u v).was = true → (m.u u).time ≤ (m.u v).time) (p : Path m (grp m u)) : Path m u := by
  obtain ⟨n, p⟩ := p
  exact ⟨n + 1, .inr ⟨h0, hu, hh, hw, hl, p⟩⟩
theorem Path.ind {m : M} {motive : (u : Nat) → Path m u → Prop} (root : motive 0 Path.root)
    (up : ∀ {u : Nat} (h0 : 0 < u) (hu : u < 30) (hh : (m.u u).here = true) (hw : (m.u u).was = true) (hl : ∀ v, 0 < v → v < 30 → (m.u v).here = true → grp m v = grp m u → (m.u v).was = true → (m.u u).time ≤ (m.u v).time) (p : Path m (grp m u)), motive _ p → motive u (Path.up h0 hu hh hw hl p)) {u : Nat} (p : Path m u) : motive u p := by
  obtain ⟨n, p⟩ := p
  induction n generalizing u with
  | zero => obtain rfl := p; exact root
  | succ n ih =>
    rcases p with rfl | ⟨h0, hu, hh, hw, hl, p⟩
    · exact root
    · exact up h0 hu hh hw hl ⟨n, p⟩ (ih p)
theorem Path.inv {m : M} {u : Nat} (p : Path m u) (h0 : 0 < u) : u < 30 ∧ (m.u u).here = true ∧ (m.u u).was = true ∧ (∀ v, 0 < v → v < 30 → (m.u v).here = true → grp m v = grp m u → (m.u v).was = true → (m.u u).time ≤ (m.u v).time) ∧ Path m (grp m u) := by
  induction p using Path.ind with
  | root => omega
  | up _ hu hh hw hl p _ => exact ⟨hu, hh, hw, hl, p⟩
theorem Path.keep {m m' : M} {rk : Nat → Nat} {R u : Nat} (hR : Rank m rk R) (hh : ∀ v, (m'.u v).here = (m.u v).here) (hi : ∀ v, (m'.u v).inn = (m.u v).inn) (hw : ∀ v, v ≠ u → (m'.u v).was = (m.u v).was ∧ (m'.u v).time = (m.u v).time)
    (hg : rk (grp m u) < rk u) {x : Nat} (p : Path m x) : rk x ≤ rk (grp m u) → Path m' x := by
  have hgr : ∀ v, grp m' v = grp m v := fun v => by unfold grp; rw [hi]
  induction p using Path.ind with
  | root => exact fun _ => .root
  | @up x h0 hu' hh' hw' hl p ih =>
    intro hx
    have hne : x ≠ u := fun e => by subst e; omega
    obtain ⟨g, h1, h2, h3, h4⟩ := hR.up x h0 hu' hh'
    have e : grp m x = g := by unfold grp; rw [h2]; rfl
    refine .up h0 hu' (by rw [hh]; exact hh') (by rw [(hw x hne).1]; exact hw') (fun v v0 hv hv' hv2 hv3 => ?_) (by rw [hgr]; exact ih (by rw [e]; omega))
    have hvu : v ≠ u := fun e' => by subst e'; rw [hgr, hgr] at hv2; rw [hv2, e] at hx; omega
    rw [(hw x hne).2, (hw v hvu).2]
    exact hl v v0 hv (by rw [← hh]; exact hv') (by rw [← hgr, ← hgr]; exact hv2) (by rw [← (hw v hvu).1]; exact hv3)
theorem path_of_pick {m : M} (hI : Inv m) {g : Nat} {r : Option Nat} (k : Pick m g r) : ∀ t, r = some t → Path m g → g < 30 → Path m t ∧ t < 30 ∧ 10 ≤ t := by
  induction k using Pick.ind with
  | none => intro t e; cases e
  | task h => intro t e p hg; cases e; exact ⟨p, hg, h⟩
  | @down g v r h k p ih =>
    intro t e pg _
    have kb := kidB_iff.1 k.kid
    have hgv : grp m v = g := by unfold grp; rw [kb.2.2.1]; rfl
    refine ih t e (.up kb.1 k.lt kb.2.1 kb.2.2.2 (fun x x0 hx hx' hx2 hx3 => ?_) (by rw [hgv]; exact pg)) k.lt
    have gx := hI.grp x0 hx hx'
    have := k.least x hx (kidB_iff.2 ⟨x0, hx', by rw [gx.2.1, hx2, hgv], hx3⟩)
    omega
def Slack (m : M) (v : Nat) : Prop := (m.u v).time + 1048576 ≤ m.now * 1048576 ∧ (m.u v).used + 1 ≤ m.now ∧ (m.u v).ran + 1 ≤ m.now
theorem Inv.payR {m : M} (h : Inv m) {u : Nat} (h0 : 0 < u) (hu : u < 30) (hh : (m.u u).here = true) (hw : (m.u u).was = true)
    (hl : ∀ v, 0 < v → v < 30 → (m.u v).here = true → Fr.grp m v = Fr.grp m u → (m.u v).was = true → (m.u u).time ≤ (m.u v).time) (hs : Slack m u) : Inv (payR m u) := by
  have hg := h.grp h0 hu hh
  have t0 := Turn.of h hu hh
  have h1 : Inv (ranUp m u) := by
    unfold ranUp
    split
    · refine h.turn hu hh ⟨t0.here, t0.inn, t0.weight, t0.floor, t0.quo, t0.per, t0.fl, t0.tm.1, t0.tm.2.1, hs.2.2⟩
    · exact h
  have hr := ranUp_here m u
  have h2 : Inv (Fr.payF (ranUp m u) u) := h1.payF h0 hu (by rw [(hr u).1]; exact hh) (fun v v0 hv hv' hv2 hv3 => by
    rw [(hr u).2.2.2.1, (hr v).2.2.2.1]
    exact hl v v0 hv (by rw [← (hr v).1]; exact hv') (by rw [← ranUp_grp m u v, ← ranUp_grp m u u]; exact hv2) (by rw [← (hr v).2.2.1]; exact hv3))
  unfold Fr.payR
  rw [payC_eq]
  have hgr : Fr.grp (ranUp m u) u ≠ u := by rw [ranUp_grp]; exact hg.2.2.2
  have eu : (Fr.payF (ranUp m u) u).u u = (ranUp m u).u u := payF_u hgr
  have t2 := Turn.of h2 hu (by rw [payF_here, (hr u).1]; exact hh)
  have hwt := h.wt u h0 hu hh
  have hd : 1048576 / (m.u u).weight ≤ 1048576 := Nat.div_le_self _ _
  refine h2.turn hu (by rw [payF_here, (hr u).1]; exact hh) ⟨t2.here, t2.inn, t2.weight, t2.floor, t2.quo, t2.per, fun _ _ => ?_, ?_, ?_, ?_⟩
  · rw [payF_grp]
    have := h.fl u h0 hu hh hw
    rw [show ((Fr.payF (ranUp m u) u).u (Fr.grp (ranUp m u) u)).floor = max ((ranUp m u).u (Fr.grp (ranUp m u) u)).floor ((ranUp m u).u u).time from by unfold Fr.payF; rw [set_same]]
    rw [eu, (hr _).2.2.2.2, ranUp_grp, (hr u).2.2.2.1]
    show _ ≤ ((ranUp m u).u u).time + _
    rw [(hr u).2.2.2.1]
    exact Nat.le_trans (Nat.max_le.2 ⟨this, Nat.le_refl _⟩) (Nat.le_add_right _ _)
  · rw [eu]
    show ((ranUp m u).u u).time + 1048576 / ((ranUp m u).u u).weight ≤ (ranUp m u).now * 1048576
    rw [(hr u).2.2.2.1, ranUp_now, show ((ranUp m u).u u).weight = (m.u u).weight from by rw [ranUp_u]]
    have := hs.1
    omega
  · rw [eu]
    show (if 0 < ((ranUp m u).u u).quota then ((ranUp m u).u u).used + 1 else ((ranUp m u).u u).used) ≤ (ranUp m u).now
    rw [ranUp_now, show ((ranUp m u).u u).used = (m.u u).used from by rw [ranUp_u]]
    have := hs.2.1
    split <;> omega
  · rw [eu]
    show (if u < 10 then ((ranUp m u).u u).ran + 1 else ((ranUp m u).u u).ran) ≤ (ranUp m u).now
    rw [ranUp_now, ranUp_u]
    have := hs.2.2
    show (if u < 10 then (if 10 ≤ u then (m.u u).ran + 1 else (m.u u).ran) + 1 else (if 10 ≤ u then (m.u u).ran + 1 else (m.u u).ran)) ≤ _
    split <;> split <;> omega
end Fr
end Go.Proofs.YtghogbngmcolmaaGreat.Fa
namespace Go.Proofs.YtghogbngmcolmaaGreat.Fa
namespace Fr
structure Going (m : M) (rk : Nat → Nat) (R v : Nat) : Prop where
  inv : Inv m
  rank : Rank m rk R
  path : Path m v
  lt : v < 30
  slack : ∀ x, x < 30 → rk x ≤ rk v → Slack m x
theorem Going.facts {m : M} {rk : Nat → Nat} {R v : Nat} (h : Going m rk R v) (h0 : 0 < v) : (m.u v).here = true ∧ (m.u v).was = true ∧ (∀ x, 0 < x → x < 30 → (m.u x).here = true → grp m x = grp m v → (m.u x).was = true → (m.u v).time ≤ (m.u x).time) ∧ Path m (grp m v) ∧ rk (grp m v) < rk v ∧ grp m v < 10 := by
  obtain ⟨hu, hh, hw, hl, p⟩ := h.path.inv h0
  obtain ⟨g, h1, h2, h3, h4⟩ := h.rank.up v h0 hu hh
  have e : grp m v = g := by unfold grp; rw [h2]; rfl
  exact ⟨hh, hw, hl, p, by rw [e]; exact h4, by rw [e]; exact h1⟩
theorem Going.next {m : M} {rk : Nat → Nat} {R v : Nat} (h : Going m rk R v) (h0 : 0 < v) : Going (payR m v) rk R (grp m v) := by
  obtain ⟨hh, hw, hl, p, hr, hg⟩ := h.facts h0
  refine ⟨h.inv.payR h0 h.lt hh hw hl (h.slack v h.lt (Nat.le_refl _)), h.rank.turn (payR_here m v) (payR_inn m v), ?_, by omega, fun x hx hrx => ?_⟩
  · exact p.keep h.rank (payR_here m v) (payR_inn m v) (fun x hx => ⟨(payR_tw hx).2.1, (payR_tw hx).1⟩) hr (Nat.le_refl _)
  · have hne : x ≠ v := fun e => by subst e; omega
    have s := h.slack x hx (by omega)
    have t := payR_tw (m := m) hne
    unfold Slack
    rw [t.1, t.2.2.1, t.2.2.2, payR_now]
    exact s
theorem Going.ranUp {m : M} {rk : Nat → Nat} {R v : Nat} (h : Going m rk R v) (h0 : 0 < v) : Inv (ranUp m v) := by
  have hh := (h.facts h0).1
  have t0 := Turn.of h.inv h.lt hh
  unfold Fr.ranUp
  split
  · exact h.inv.turn h.lt hh ⟨t0.here, t0.inn, t0.weight, t0.floor, t0.quo, t0.per, t0.fl, t0.tm.1, t0.tm.2.1, (h.slack v h.lt (Nat.le_refl _)).2.2⟩
  · exact h.inv
theorem Going.pays {m m' : M} {v : Nat} (k : Pays m v m') : ∀ {rk : Nat → Nat} {R : Nat}, Going m rk R v → Inv m' := by
  induction k using Pays.ind with
  | root m => exact fun h => h.inv
  | up h0 _ ih => exact fun h => ih (h.next (by omega))
theorem pays_now {m m' : M} {v : Nat} (k : Pays m v m') : m'.now = m.now := by
  induction k using Pays.ind with
  | root m => rfl
  | up h0 _ ih => rw [ih, payR_now]
theorem renew_now {m m' : M} {n : Nat} (k : Renew m n m') : m'.now = m.now := by
  induction k using Renew.ind with
  | done => rfl
  | step _ k _ ih =>
    rw [ih]
    rcases k with ⟨_, _, k⟩ | ⟨_, rfl⟩
    · exact (look_here k).1
    · rfl
theorem Inv.up1 {m : M} (h : Inv m) : Inv (up1 m) :=
  ⟨h.root, by obtain ⟨rk, R, hR⟩ := h.tree; exact ⟨rk, R, hR.le, hR.up⟩, h.no, h.quo, h.per, h.wt, h.fl, fun u hu => by
    have := h.tm u hu
    have k : m.now * 1048576 ≤ (m.now + 1) * 1048576 := Nat.mul_le_mul_right _ (Nat.le_succ _)
    exact ⟨Nat.le_trans this.1 k, Nat.le_trans this.2.1 k, Nat.le_succ_of_le this.2.2.1, Nat.le_succ_of_le this.2.2.2⟩⟩
theorem Inv.slack {m : M} (h : Inv m) (x : Nat) (hx : x < 30) : Slack (Fr.up1 m) x := by
  have := h.tm x hx
  have k : (m.now + 1) * 1048576 = m.now * 1048576 + 1048576 := Nat.succ_mul _ _
  unfold Slack
  refine ⟨?_, Nat.succ_le_succ this.2.2.1, Nat.succ_le_succ this.2.2.2⟩
  rw [show (Fr.up1 m).now = m.now + 1 from rfl, k]
  exact Nat.add_le_add_right this.1 _
def zeroU (m : M) (n : Nat) : M := m.set n { m.u n with used := 0 }
theorem Inv.zeroU {m : M} (h : Inv m) {n : Nat} (hn : n < 30) (hh : (m.u n).here = true) : Inv (zeroU m n) :=
  h.turn hn hh (by have t := Turn.of h hn hh; exact ⟨t.here, t.inn, t.weight, t.floor, t.quo, t.per, t.fl, t.tm.1, Nat.zero_le _, t.tm.2.2⟩)
theorem zeroU_here (m : M) (n v : Nat) : ((zeroU m n).u v).here = (m.u v).here := here_set (m := m) (x := { m.u n with used := 0 }) rfl v
theorem here_of_quota {m : M} (h : Inv m) {n : Nat} (hn : n < 30) (hq : 0 < (m.u n).quota) : (m.u n).here = true := by
  cases hh : (m.u n).here
  · rw [h.no n hn hh] at hq; exact absurd hq (by decide)
  · rfl
theorem Inv.rstep {m m1 : M} {n : Nat} (h : Inv m) (hn : n < 10) (k : RStep m n m1) : Inv m1 := by
  rcases k with ⟨hq, _, k⟩ | ⟨_, rfl⟩
  · have hh := here_of_quota h (by omega) hq
    exact Inv.look k (h.zeroU (by omega) hh) (by omega) (by rw [show (m.set n { m.u n with used := 0 }) = Fr.zeroU m n from rfl, zeroU_here]; exact hh)
  · exact h
theorem Inv.renew {m m' : M} {n : Nat} (k : Renew m n m') : Inv m → Inv m' := by
  induction k using Renew.ind with
  | done => exact fun h => h
  | step hn k _ ih => exact fun h => ih (h.rstep hn k)
theorem going_of {m : M} (h : Inv m) {t : Nat} (p : Pick (up1 m) 0 (some t)) : ∃ rk R, Going (up1 m) rk R t ∧ 10 ≤ t := by
  have hI := h.up1
  obtain ⟨p1, p2, p3⟩ := path_of_pick hI p t rfl .root (by omega)
  obtain ⟨rk, R, hR⟩ := hI.tree
  exact ⟨rk, R, ⟨hI, hR, p1, p2, fun x hx _ => h.slack x hx⟩, p3⟩
theorem Inv.tick {m m' : M} {r : Int} (h : Inv m) (k : Tick m r m') : Inv m' ∧ m'.now = m.now + 1 := by
  obtain ⟨m1, k1, k2⟩ := k
  have h1 := Inv.renew k1 h
  have e1 := renew_now k1
  rcases k2 with ⟨_, _, rfl⟩ | ⟨t, p, _, q⟩
  · exact ⟨h1.up1, by show m1.now + 1 = _; rw [e1]⟩
  · obtain ⟨rk, R, g, _⟩ := going_of h1 p
    exact ⟨Going.pays q g, by rw [pays_now q]; show m1.now + 1 = _; rw [e1]⟩
end Fr
end Go.Proofs.YtghogbngmcolmaaGreat.Fa
namespace Go.Proofs.YtghogbngmcolmaaGreat.Fa
namespace Fr
def groupE (m : M) (z : Int) : Int := if z < 0 ∨ 10 ≤ z then 1 else if (m.u z.toNat).here = true then 0 else 2
def taskE (m : M) (z : Int) : Int := if z < 0 ∨ 20 ≤ z then 1 else if (m.u (10 + z.toNat)).here = true then 0 else 2
def lowerE (m : M) (z : Int) : Int := if groupE m z = 0 then (if z = 0 then 8 else 0) else groupE m z
def quotaE (m : M) (z q p : Int) : Int := if lowerE m z = 0 then (if q < 0 ∨ p < q ∨ p < 1 ∨ 100 < p then 1 else 0) else lowerE m z
def addE (m : M) (u : Nat) (g wt : Int) : Int := if wt < 1 ∨ 1000 < wt then 1 else if (m.u u).here = true then 3 else groupE m g
def addTaskE (m : M) (z g wt : Int) : Int := if z < 0 ∨ 20 ≤ z then 1 else addE m (10 + z.toNat) g wt
theorem groupE_zero {m : M} {z : Int} (h : groupE m z = 0) : ∃ g : Nat, z = g ∧ g < 10 ∧ (m.u g).here = true := by
  unfold groupE at h
  by_cases k : z < 0 ∨ 10 ≤ z
  · rw [if_pos k] at h; omega
  · rw [if_neg k] at h
    obtain ⟨g, rfl⟩ := Int.eq_ofNat_of_zero_le (show 0 ≤ z by omega)
    refine ⟨g, rfl, by omega, ?_⟩
    rw [Int.toNat_natCast] at h
    by_cases k2 : (m.u g).here = true
    · exact k2
    · rw [if_neg k2] at h; omega
theorem taskE_zero {m : M} {z : Int} (h : taskE m z = 0) : ∃ n : Nat, z = n ∧ n < 20 ∧ (m.u (10 + n)).here = true := by
  unfold taskE at h
  by_cases k : z < 0 ∨ 20 ≤ z
  · rw [if_pos k] at h; omega
  · rw [if_neg k] at h
    obtain ⟨g, rfl⟩ := Int.eq_ofNat_of_zero_le (show 0 ≤ z by omega)
    refine ⟨g, rfl, by omega, ?_⟩
    rw [Int.toNat_natCast] at h
    by_cases k2 : (m.u (10 + g)).here = true
    · exact k2
    · rw [if_neg k2] at h; omega
theorem taskE_nat {m : M} {n : Nat} (hn : n < 20) (hh : (m.u (10 + n)).here = true) : taskE m n = 0 := by
  unfold taskE; rw [if_neg (by omega), Int.toNat_natCast, if_pos hh]
theorem groupE_nat {m : M} {n : Nat} (hn : n < 10) (hh : (m.u n).here = true) : groupE m n = 0 := by
  unfold groupE; rw [if_neg (by omega), Int.toNat_natCast, if_pos hh]
theorem lowerE_zero {m : M} {z : Int} (h : lowerE m z = 0) : ∃ g : Nat, z = g ∧ 0 < g ∧ g < 10 ∧ (m.u g).here = true := by
  unfold lowerE at h
  by_cases k : groupE m z = 0
  · rw [if_pos k] at h
    obtain ⟨g, rfl, h1, h2⟩ := groupE_zero k
    refine ⟨g, rfl, ?_, h1, h2⟩
    by_cases k2 : (g : Int) = 0
    · rw [if_pos k2] at h; omega
    · omega
  · rw [if_neg k] at h; exact absurd h k
def WakeTo (m : M) (z : Int) (on : Bool) (m' : M) : Prop := (taskE m z = 0 ∧ Look (m.set (10 + z.toNat) { m.u (10 + z.toNat) with awake := on }) (10 + z.toNat) m') ∨ (taskE m z ≠ 0 ∧ m' = m)
def QuotaTo (m : M) (z q p : Int) (m' : M) : Prop := (quotaE m z q p = 0 ∧ Look (m.set z.toNat { m.u z.toNat with quota := q.toNat, period := p.toNat, used := 0 }) z.toNat m') ∨ (quotaE m z q p ≠ 0 ∧ m' = m)
def addM (m : M) (e : Int) (u : Nat) (g wt : Int) : M := if e = 0 then m.set u (Un.new g wt.toNat) else m
def addTaskM (m : M) (z g wt : Int) : M := addM m (addTaskE m z g wt) (10 + z.toNat) g wt
theorem Inv.wake {m m' : M} {z : Int} {on : Bool} (h : Inv m) (k : WakeTo m z on m') : Inv m' := by
  rcases k with ⟨k1, k2⟩ | ⟨_, rfl⟩
  · obtain ⟨n, rfl, hn, hh⟩ := taskE_zero k1
    rw [Int.toNat_natCast] at k2
    refine Inv.look k2 (h.turn (by omega) hh ?_) (by omega) (by rw [set_same]; exact hh)
    have t := Turn.of h (by omega) hh
    exact ⟨t.here, t.inn, t.weight, t.floor, t.quo, t.per, t.fl, t.tm⟩
  · exact h
theorem quotaE_zero {m : M} {z q p : Int} (h : quotaE m z q p = 0) : lowerE m z = 0 ∧ 0 ≤ q ∧ q ≤ p ∧ 1 ≤ p ∧ p ≤ 100 := by
  unfold quotaE at h
  by_cases k : lowerE m z = 0
  · rw [if_pos k] at h
    by_cases k2 : q < 0 ∨ p < q ∨ p < 1 ∨ 100 < p
    · rw [if_pos k2] at h; omega
    · exact ⟨k, by omega, by omega, by omega, by omega⟩
  · rw [if_neg k] at h; exact absurd h k
theorem quota_turn {m : M} (h : Inv m) {n : Nat} (h0 : 0 < n) (hn : n < 10) (hh : (m.u n).here = true) {q p : Int} (hq : 0 ≤ q ∧ q ≤ p ∧ 1 ≤ p ∧ p ≤ 100) : Turn m n { m.u n with quota := q.toNat, period := p.toNat, used := 0 } := by
  have t := Turn.of h (show n < 30 by omega) hh
  refine ⟨t.here, t.inn, t.weight, t.floor, fun _ => ⟨h0, hn, ?_⟩, ?_, t.fl, t.tm.1, Nat.zero_le _, t.tm.2.2⟩
  · show 0 < p.toNat; omega
  · show q.toNat ≤ 100 ∧ p.toNat ≤ 100; omega
theorem Inv.quota {m m' : M} {z q p : Int} (h : Inv m) (k : QuotaTo m z q p m') : Inv m' := by
  rcases k with ⟨k1, k2⟩ | ⟨_, rfl⟩
  · obtain ⟨l, hq⟩ := quotaE_zero k1
    obtain ⟨n, rfl, h0, hn, hh⟩ := lowerE_zero l
    rw [Int.toNat_natCast] at k2
    exact Inv.look k2 (h.turn (by omega) hh (quota_turn h h0 hn hh hq)) (by omega) (by rw [set_same]; exact hh)
  · exact h
theorem no_kid {m : M} (h : Inv m) {u : Nat} (hn : (m.u u).here = false) (v : Nat) (v0 : 0 < v) (hv : v < 30) (hh : (m.u v).here = true) : Fr.grp m v ≠ u := by
  intro e
  have := (h.grp v0 hv hh).2.2.1
  rw [e, hn] at this; cases this
theorem Inv.add {m : M} (h : Inv m) {u g wt : Nat} (h0 : 0 < u) (hu : u < 30) (hn : (m.u u).here = false ∨ 10 ≤ u) (hg : g < 10) (hh : (m.u g).here = true) (hw : 1 ≤ wt ∧ wt ≤ 1000) (x : Un) (hx : x = { Un.new g wt with ran := x.ran }) (hr : x.ran ≤ m.now) : Inv (m.set u x) := by
  have nk : ∀ v, 0 < v → v < 30 → (m.u v).here = true → Fr.grp m v ≠ u := by
    intro v v0 hv hv' e
    rcases hn with hn | hn
    · exact no_kid h hn v v0 hv hv' e
    · have := (h.grp v0 hv hv').1; omega
  have hgu : g ≠ u := fun e => by
    rcases hn with hn | hn
    · rw [e, hn] at hh; cases hh
    · omega
  have x1 : x.here = true := by rw [hx]; rfl
  have x2 : x.inn = (g : Int) := by rw [hx]; rfl
  have x3 : x.weight = wt := by rw [hx]; rfl
  have x4 : x.was = false := by rw [hx]; rfl
  have x5 : x.quota = 0 ∧ x.period = 0 ∧ x.time = 0 ∧ x.floor = 0 ∧ x.used = 0 := by rw [hx]; exact ⟨rfl, rfl, rfl, rfl, rfl⟩
  have hgr : ∀ v, v ≠ u → Fr.grp (m.set u x) v = Fr.grp m v := fun v hv => by unfold Fr.grp; rw [set_ne _ _ _ _ hv]
  refine ⟨?_, ?_, fun v hv hn' => ?_, fun v hv hq => ?_, fun v hv => ?_, fun v v0 hv hv' => ?_, fun v v0 hv hv' hw' => ?_, fun v hv => ?_⟩
  · rw [set_ne _ _ _ _ (by omega)]; exact h.root
  · obtain ⟨rk, R, hR⟩ := h.tree
    refine ⟨fun v => if v = u then rk g + 1 else rk v, R + 1, fun v hv => ?_, fun v v0 hv hv' => ?_⟩
    · show (if v = u then rk g + 1 else rk v) ≤ R + 1
      have := hR.le g (by omega)
      have := hR.le v hv
      split <;> omega
    · show ∃ k : Nat, k < 10 ∧ _ ∧ _ ∧ (if k = u then rk g + 1 else rk k) < (if v = u then rk g + 1 else rk v)
      by_cases e : v = u
      · subst e
        rw [set_same]
        exact ⟨g, hg, x2, by rw [set_ne _ _ _ _ hgu]; exact hh, by rw [if_neg hgu, if_pos rfl]; omega⟩
      · rw [set_ne _ _ _ _ e] at hv' ⊢
        obtain ⟨k, k1, k2, k3, k4⟩ := hR.up v v0 hv hv'
        have ku : k ≠ u := fun ek => nk v v0 hv hv' (by unfold Fr.grp; rw [k2, ek]; rfl)
        exact ⟨k, k1, k2, by rw [set_ne _ _ _ _ ku]; exact k3, by rw [if_neg ku, if_neg e]; exact k4⟩
  · by_cases e : v = u
    · subst e; rw [set_same, x1] at hn'; cases hn'
    · rw [set_ne _ _ _ _ e] at hn' ⊢; exact h.no v hv hn'
  · by_cases e : v = u
    · subst e; rw [set_same, x5.1] at hq; omega
    · rw [set_ne _ _ _ _ e] at hq ⊢; exact h.quo v hv hq
  · by_cases e : v = u
    · subst e; rw [set_same, x5.1, x5.2.1]; omega
    · rw [set_ne _ _ _ _ e]; exact h.per v hv
  · by_cases e : v = u
    · subst e; rw [set_same, x3]; exact hw
    · rw [set_ne _ _ _ _ e] at hv' ⊢; exact h.wt v v0 hv hv'
  · by_cases e : v = u
    · subst e; rw [set_same, x4] at hw'; cases hw'
    · rw [hgr v e]
      rw [set_ne _ _ _ _ e] at hv' hw' ⊢
      rw [set_ne _ _ _ _ (nk v v0 hv hv')]
      exact h.fl v v0 hv hv' hw'
  · rw [set_now]
    by_cases e : v = u
    · subst e; rw [set_same, x5.2.2.1, x5.2.2.2.1, x5.2.2.2.2]; exact ⟨Nat.zero_le _, Nat.zero_le _, Nat.zero_le _, hr⟩
    · rw [set_ne _ _ _ _ e]; exact h.tm v hv
theorem addE_zero {m : M} {u : Nat} {g wt : Int} (h : addE m u g wt = 0) : ∃ (k x : Nat), g = k ∧ wt = x ∧ k < 10 ∧ (m.u k).here = true ∧ 1 ≤ x ∧ x ≤ 1000 ∧ (m.u u).here = false := by
  unfold addE at h
  by_cases k : wt < 1 ∨ 1000 < wt
  · rw [if_pos k] at h; omega
  · rw [if_neg k] at h
    cases hh : (m.u u).here
    · rw [hh] at h
      rw [if_neg (by decide)] at h
      obtain ⟨g', rfl, h1, h2⟩ := groupE_zero h
      obtain ⟨x, rfl⟩ := Int.eq_ofNat_of_zero_le (show 0 ≤ wt by omega)
      exact ⟨g', x, rfl, rfl, h1, h2, by omega, by omega, rfl⟩
    · rw [hh, if_pos rfl] at h; omega
theorem Inv.addTask {m : M} (h : Inv m) (z g wt : Int) : Inv (addTaskM m z g wt) := by
  unfold addTaskM addM
  by_cases k : addTaskE m z g wt = 0
  · rw [if_pos k]
    unfold addTaskE at k
    by_cases k1 : z < 0 ∨ 20 ≤ z
    · rw [if_pos k1] at k; omega
    · rw [if_neg k1] at k
      obtain ⟨g', x, rfl, rfl, h1, h2, h3, h4, h5⟩ := addE_zero k
      rw [Int.toNat_natCast]
      exact h.add (by omega) (by omega) (.inl h5) h1 h2 ⟨h3, h4⟩ _ rfl (Nat.zero_le _)
  · rw [if_neg k]; exact h
def m0 : M := { u := fun k => if k = 0 then ⟨true, false, false, false, -1, 1, 0, 0, 0, 0, 0, 0⟩ else Un.no, now := 0 }
theorem m0_ne (k : Nat) (h : k ≠ 0) : m0.u k = Un.no := if_neg h
theorem inv0 : Inv m0 := by
  refine ⟨rfl, ⟨fun _ => 0, 0, fun _ _ => Nat.le_refl _, fun u h0 _ hh => ?_⟩, fun u _ hn => ?_, fun u _ hq => ?_, fun u _ => ?_, fun u h0 _ hh => ?_, fun u h0 _ hh _ => ?_, fun u _ => ?_⟩
  · rw [m0_ne u (by omega)] at hh; cases hh
  · by_cases e : u = 0
    · subst e; cases hn
    · exact m0_ne u e
  · by_cases e : u = 0
    · subst e; exact absurd hq (by decide)
    · rw [m0_ne u e] at hq; exact absurd hq (by decide)
  · by_cases e : u = 0
    · subst e; exact ⟨by decide, by decide⟩
    · rw [m0_ne u e]; exact ⟨by decide, by decide⟩
  · rw [m0_ne u (by omega)] at hh; cases hh
  · rw [m0_ne u (by omega)] at hh; cases hh
  · by_cases e : u = 0
    · subst e; exact ⟨by decide, by decide, by decide, by decide⟩
    · rw [m0_ne u e]; exact ⟨by decide, by decide, by decide, by decide⟩
end Fr
end Go.Proofs.YtghogbngmcolmaaGreat.Fa

/- fair, plain: who was ready is ready; what an act keeps. -/
import Derived.Test.YtgabfkaadflciaaFo
namespace Go.Proofs.Ytgabfkaadflciaa
namespace Fr

/-- Each unit but x was ready just if it is. -/
def SyncBut (m : M) (x : Nat) : Prop := ∀ v, v ≠ x → 0 < v → v < 30 → (m.u v).here = true → (m.u v).was = ready m v
def Sync (m : M) : Prop := ∀ v, 0 < v → v < 30 → (m.u v).here = true → (m.u v).was = ready m v
theorem Sync.but {m : M} (h : Sync m) (x : Nat) : SyncBut m x := fun v _ => h v
theorem SyncBut.root {m : M} (h : SyncBut m 0) : Sync m := fun v v0 => h v (by omega) v0

theorem kid_grp {m : M} {g v : Nat} (h : kidB m g v = true) : grp m v = g := by unfold grp; rw [(kidB_iff.1 h).2.2.1]; rfl
/-- One unit has turned: the others' readiness stays, but for its group's. -/
theorem ready_other {m m' : M} {u v : Nat} (hvu : v ≠ u) (hvg : v ≠ grp m u) (hi : ∀ x, (m'.u x).inn = (m.u x).inn) (hh : ∀ x, (m'.u x).here = (m.u x).here) (hw : ∀ x, x ≠ u → (m'.u x).was = (m.u x).was)
    (ha : (m'.u v).awake = (m.u v).awake ∧ (m'.u v).frozen = (m.u v).frozen ∧ (m'.u v).quota = (m.u v).quota ∧ (m'.u v).used = (m.u v).used) : ready m' v = ready m v := by
  refine ready_of (fun _ => ha.1) (fun _ => ha.2) (fun _ x _ => ?_)
  by_cases e : x = u
  · subst e
    have e1 : kidB m v x = false := by
      cases hk : kidB m v x
      · rfl
      · exact absurd (kid_grp hk).symm hvg
    have e2 : kidB m' v x = false := by
      cases hk : kidB m' v x
      · rfl
      · have := kid_grp hk
        unfold grp at this; rw [hi] at this
        exact absurd this.symm hvg
    rw [e1, e2]
  · unfold kidB; rw [hh, hi, hw x e]
theorem line_keep (m : M) (u v : Nat) : (line m u).u v = { m.u v with was := ((line m u).u v).was, time := ((line m u).u v).time } := by
  unfold line
  by_cases e : v = u
  · subst e; rw [set_same]; rfl
  · rw [set_ne _ _ _ _ e]
theorem line_was {m : M} {u v : Nat} (h : v ≠ u) : ((line m u).u v).was = (m.u v).was := by unfold line; rw [set_ne _ _ _ _ h]
theorem line_self {m : M} {u : Nat} (hg : grp m u ≠ u) : ((line m u).u u).was = ready (line m u) u := by
  have e : ((line m u).u u).was = ready m u := by unfold line; rw [set_same]; rfl
  rw [e]
  refine (ready_of (fun _ => ?_) (fun _ => ?_) (fun _ x _ => ?_)).symm
  · rw [line_keep]
  · rw [line_keep]; exact ⟨rfl, rfl, rfl⟩
  · by_cases k : x = u
    · subst k
      rw [kid_self hg, kid_self (by rw [line_grp]; exact hg)]
    · unfold kidB; rw [line_here, line_inn, line_was k]
theorem SyncBut.line {m : M} {u : Nat} (h : SyncBut m u) (hg : grp m u ≠ u) : SyncBut (line m u) (grp m u) := by
  intro v hv v0 hv' hh
  by_cases e : v = u
  · subst e; exact line_self hg
  · rw [line_was e, ready_other (m' := Fr.line m u) e hv (fun x => line_inn m u x) (fun x => line_here m u x) (fun x hx => line_was hx) (by rw [line_keep]; exact ⟨rfl, rfl, rfl, rfl⟩)]
    rw [line_here] at hh
    exact h v e v0 hv' hh
theorem SyncBut.look {m m' : M} {u : Nat} (k : Look m u m') : Inv m → u < 30 → (m.u u).here = true → SyncBut m u → Sync m' := by
  induction k using Look.ind with
  | root m => exact fun _ _ _ h => h.root
  | up h0 _ ih =>
    intro hI hu hh h
    have g := hI.grp (by omega) hu hh
    exact ih (hI.line (by omega) hu hh) (by omega) (by rw [line_here]; exact g.2.2.1) (h.line g.2.2.2)
theorem look_keep {m m' : M} {u : Nat} (k : Look m u m') (v : Nat) : m'.u v = { m.u v with was := (m'.u v).was, time := (m'.u v).time } := by
  induction k using Look.ind with
  | root m => rfl
  | up h0 _ ih => rw [ih, line_keep]

/-- What a payment leaves. -/
theorem payR_self {m : M} {u : Nat} (hg : grp m u ≠ u) : (payR m u).u u = { m.u u with time := (m.u u).time + 1048576 / (m.u u).weight, used := if 0 < (m.u u).quota then (m.u u).used + 1 else (m.u u).used, ran := (m.u u).ran + 1, was := ((payR m u).u u).was } := by
  have hg' : grp (ranUp m u) u ≠ u := by rw [ranUp_grp]; exact hg
  unfold payR
  rw [payC_eq, set_same, payF_u hg', ranUp_u]
  unfold payU
  by_cases k : 10 ≤ u
  · rw [if_pos k, if_neg (by omega)]
  · rw [if_neg k, if_pos (by omega)]
theorem payR_other {m : M} {u v : Nat} (hv : v ≠ u) : (payR m u).u v = { m.u v with floor := if v = grp m u then max (m.u v).floor (m.u u).time else (m.u v).floor } := by
  unfold payR
  rw [payC_ne hv]
  unfold payF
  rw [ranUp_grp]
  by_cases e : v = grp m u
  · rw [if_pos e]
    subst e
    rw [set_same, ranUp_ne hv, (ranUp_here m u u).2.2.2.1]
  · rw [if_neg e, set_ne _ _ _ _ e, ranUp_ne hv]
theorem payR_was {m : M} {u : Nat} (hg : grp m u ≠ u) : ((payR m u).u u).was = ready (payR m u) u := by
  have hg' : grp (ranUp m u) u ≠ u := by rw [ranUp_grp]; exact hg
  have e : ((payR m u).u u).was = ready (payT (ranUp m u) u) u := by unfold payR payC setWas; rw [set_same]
  rw [e]
  have hT : grp (payT (ranUp m u) u) u ≠ u := by unfold grp; rw [payT_u hg']; exact hg'
  unfold payR payC
  refine (ready_of (fun _ => ?_) (fun _ => ?_) (fun _ x _ => ?_)).symm
  · unfold setWas; rw [set_same]
  · unfold setWas; rw [set_same]; exact ⟨rfl, rfl, rfl⟩
  · by_cases k : x = u
    · subst k
      rw [kid_self hT, kid_self]
      unfold grp setWas; rw [set_same]; exact hT
    · unfold setWas; exact kid_ne k
theorem SyncBut.pay {m : M} {u : Nat} (h : SyncBut m u) (hg : grp m u ≠ u) : SyncBut (payR m u) (grp m u) := by
  intro v hv v0 hv' hh
  by_cases e : v = u
  · subst e; exact payR_was hg
  · have o := payR_other (m := m) e
    rw [(payR_tw e).2.1, ready_other (m' := payR m u) e hv (fun x => payR_inn m u x) (fun x => payR_here m u x) (fun x hx => (payR_tw hx).2.1) (by rw [o]; exact ⟨rfl, rfl, rfl, rfl⟩)]
    rw [payR_here] at hh
    exact h v e v0 hv' hh
theorem SyncBut.pays {m m' : M} {u : Nat} (k : Pays m u m') : ∀ {rk : Nat → Nat} {R : Nat}, Going m rk R u → SyncBut m u → Sync m' := by
  induction k using Pays.ind with
  | root m => exact fun _ h => h.root
  | up h0 _ ih =>
    intro rk R g h
    have f := g.facts (by omega)
    exact ih (g.next (by omega)) (h.pay (fun e => by have := f.2.2.2.2.1; rw [e] at this; omega))
theorem pays_root {m m' : M} (k : Pays m 0 m') : m' = m := by
  rcases k.inv with ⟨_, e⟩ | ⟨h, _⟩
  · exact e
  · exact absurd rfl h
theorem pays_up {m m' : M} {u : Nat} (h0 : u ≠ 0) (k : Pays m u m') : Pays (payR m u) (grp m u) m' := by
  rcases k.inv with ⟨e, _⟩ | ⟨_, k⟩
  · exact absurd e h0
  · exact k
theorem pays_keep {m m' : M} {u : Nat} (k : Pays m u m') : ∀ {rk : Nat → Nat} {R : Nat}, Going m rk R u → ∀ v, (m'.u v).here = (m.u v).here ∧ (m'.u v).inn = (m.u v).inn ∧ (m'.u v).weight = (m.u v).weight ∧ (m'.u v).awake = (m.u v).awake ∧ (m'.u v).frozen = (m.u v).frozen ∧ (m'.u v).quota = (m.u v).quota ∧ (m'.u v).period = (m.u v).period := by
  induction k using Pays.ind with
  | root m => exact fun _ v => ⟨rfl, rfl, rfl, rfl, rfl, rfl, rfl⟩
  | @up m m' u h0 _ ih =>
    intro rk R g v
    have f := g.facts (by omega)
    have hg : grp m u ≠ u := fun e => by have := f.2.2.2.2.1; rw [e] at this; omega
    have i := ih (g.next (by omega)) v
    by_cases e : v = u
    · subst e
      rw [payR_self hg] at i; exact i
    · rw [payR_other e] at i; exact i

/-- No quotas: nothing is renewed. -/
theorem renew_none {m m' : M} {n : Nat} (k : Renew m n m') : (∀ u, u < 10 → (m.u u).quota = 0) → m' = m := by
  induction k using Renew.ind with
  | done => exact fun _ => rfl
  | step hn k _ ih =>
    intro h
    rcases k with ⟨hq, _, _⟩ | ⟨_, rfl⟩
    · rw [h _ hn] at hq; omega
    · exact ih h
/-- Who was ready is ready, and so somebody is taken, if there is one in the root. -/
theorem pick_some {m : M} (hS : Sync m) {g : Nat} {r : Option Nat} (k : Pick m g r) : g < 10 → hasKid m g = true → ∃ t, r = some t := by
  induction k using Pick.ind with
  | none h hk => intro _ h'; rw [hk] at h'; cases h'
  | task h => intro h'; omega
  | @down g v r h b p ih =>
    intro _ _
    by_cases e : v < 10
    · have kb := kidB_iff.1 b.kid
      have := hS v kb.1 b.lt kb.2.1
      rw [kb.2.2.2] at this
      unfold ready at this
      rw [if_neg (by omega)] at this
      have := this.symm
      rw [Bool.and_eq_true] at this
      exact ih e this.1
    · rcases p.inv with ⟨h, _⟩ | ⟨_, e⟩ | ⟨h, _⟩
      · omega
      · exact ⟨_, e⟩
      · omega

theorem SyncBut.set {m : M} (hS : Sync m) {u : Nat} {x : Un} (h1 : x.here = (m.u u).here) (h2 : x.inn = (m.u u).inn) (h3 : x.was = (m.u u).was) : SyncBut (m.set u x) u := by
  intro v hv v0 hv' hh
  rw [set_ne _ _ _ _ hv] at hh ⊢
  rw [hS v v0 hv' hh]
  refine (ready_of (fun _ => ?_) (fun _ => ?_) (fun _ y _ => kid_set h1 h2 h3)).symm
  · rw [set_ne _ _ _ _ hv]
  · rw [set_ne _ _ _ _ hv]; exact ⟨rfl, rfl, rfl⟩
theorem Sync.wake {m m' : M} {z : Int} {on : Bool} (hI : Inv m) (hS : Sync m) (k : WakeTo m z on m') : Sync m' := by
  rcases k with ⟨k1, k2⟩ | ⟨_, rfl⟩
  · obtain ⟨n, rfl, hn, hh⟩ := taskE_zero k1
    rw [Int.toNat_natCast] at k2
    have t := Turn.of hI (show 10 + n < 30 by omega) hh
    exact SyncBut.look k2 (hI.turn (by omega) hh ⟨t.here, t.inn, t.weight, t.floor, t.quo, t.per, t.fl, t.tm⟩) (by omega) (by rw [set_same]; exact hh) (SyncBut.set hS rfl rfl rfl)
  · exact hS
theorem Sync.freeze {m m' : M} {z : Int} {on : Bool} (hI : Inv m) (hS : Sync m) (k : FreezeTo m z on m') : Sync m' := by
  rcases k with ⟨k1, k2⟩ | ⟨_, rfl⟩
  · obtain ⟨n, rfl, h0, hn, hh⟩ := lowerE_zero k1
    rw [Int.toNat_natCast] at k2
    have t := Turn.of hI (show n < 30 by omega) hh
    exact SyncBut.look k2 (hI.turn (by omega) hh ⟨t.here, t.inn, t.weight, t.floor, t.quo, t.per, t.fl, t.tm⟩) (by omega) (by rw [set_same]; exact hh) (SyncBut.set hS rfl rfl rfl)
  · exact hS
theorem Sync.quota {m m' : M} {z q p : Int} (hI : Inv m) (hS : Sync m) (k : QuotaTo m z q p m') : Sync m' := by
  rcases k with ⟨k1, k2⟩ | ⟨_, rfl⟩
  · obtain ⟨l, hq⟩ := quotaE_zero k1
    obtain ⟨n, rfl, h0, hn, hh⟩ := lowerE_zero l
    rw [Int.toNat_natCast] at k2
    exact SyncBut.look k2 (hI.turn (by omega) hh (quota_turn hI h0 hn hh hq)) (by omega) (by rw [set_same]; exact hh) (SyncBut.set hS rfl rfl rfl)
  · exact hS
theorem Sync.rstep {m m1 : M} {n : Nat} (hI : Inv m) (hS : Sync m) (hn : n < 10) (k : RStep m n m1) : Sync m1 := by
  rcases k with ⟨hq, _, k⟩ | ⟨_, rfl⟩
  · have hh := here_of_quota hI (by omega) hq
    exact SyncBut.look k (hI.zeroU (by omega) hh) (by omega) (by rw [set_same]; exact hh) (SyncBut.set hS rfl rfl rfl)
  · exact hS
theorem Sync.renew {m m' : M} {n : Nat} (k : Renew m n m') : Inv m → Sync m → Sync m' := by
  induction k using Renew.ind with
  | done => exact fun _ h => h
  | step hn k _ ih => exact fun hI h => ih (hI.rstep hn k) (h.rstep hI hn k)
theorem Sync.up1 {m : M} (h : Sync m) : Sync (up1 m) := h
theorem Sync.tick {m m' : M} {r : Int} (hI : Inv m) (hS : Sync m) (k : Tick m r m') : Sync m' := by
  obtain ⟨m1, k1, k2⟩ := k
  have h1 := Inv.renew k1 hI
  have s1 := Sync.renew k1 hI hS
  rcases k2 with ⟨_, _, rfl⟩ | ⟨t, p, _, q⟩
  · exact s1.up1
  · obtain ⟨rk, R, g, _⟩ := going_of h1 p
    exact SyncBut.pays q g (s1.up1.but t)
theorem sync0 : Sync m0 := fun v v0 _ hh => by rw [m0_ne v (by omega)] at hh; cases hh
/-- One that comes new is not ready. -/
theorem Sync.add {m : M} (hI : Inv m) (hS : Sync m) {u g wt : Nat} (hu : u < 30) (hn : (m.u u).here = false) : Sync (m.set u (Un.new g wt)) := by
  have hw : (m.u u).was = false := by rw [hI.no u hu hn]; rfl
  have hk : ∀ k x, kidB (m.set u (Un.new g wt)) k x = kidB m k x := fun k x => by
    by_cases e : x = u
    · subst e
      unfold kidB
      rw [set_same, hn]
      simp [Un.new]
    · exact kid_ne e
  intro v v0 hv hh
  by_cases e : v = u
  · subst e
    rw [set_same]
    show false = _
    unfold ready
    by_cases k : 10 ≤ v
    · rw [if_pos k, set_same]; rfl
    · rw [if_neg k]
      have : hasKid (m.set v (Un.new g wt)) v = false := by
        cases hc : hasKid (m.set v (Un.new g wt)) v
        · rfl
        · obtain ⟨x, hx, kx⟩ := hasKid_iff.1 hc
          rw [hk] at kx
          have kb := kidB_iff.1 kx
          exact absurd (kid_grp kx) (no_kid hI hn x kb.1 hx kb.2.1)
      rw [this]; rfl
  · rw [set_ne _ _ _ _ e] at hh ⊢
    rw [hS v v0 hv hh]
    refine (ready_of (fun _ => ?_) (fun _ => ?_) (fun _ x _ => hk v x)).symm
    · rw [set_ne _ _ _ _ e]
    · rw [set_ne _ _ _ _ e]; exact ⟨rfl, rfl, rfl⟩

end Fr
end Go.Proofs.Ytgabfkaadflciaa

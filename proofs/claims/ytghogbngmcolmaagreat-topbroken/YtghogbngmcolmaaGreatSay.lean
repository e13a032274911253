import Derived.Deep.CutRange
import Derived.Deep.CutBlock
import Derived.Handy
import Derived.OpenShut
import Derived.ProofKit
import Derived.Deep.Slices
import Derived.Deep.MidRow
import Derived.Laws.Rows
import Derived.Deep.RegionHeld3
import Derived.Test.YtghogbngmcolmaaGreatSav
import Derived.Test.YtghogbngmcolmaaGreatSax
import Derived.Test.YtghogbngmcolmaaGreatSac
import Derived.Test.YtghogbngmcolmaaGreatSag
import Derived.Test.YtghogbngmcolmaaGreatSaj
import Derived.Test.YtghogbngmcolmaaGreatSak
import Derived.Test.YtghogbngmcolmaaGreatSap
import Derived.Test.YtghogbngmcolmaaGreatSar
namespace Go.Proofs.YtghogbngmcolmaaGreat.Fa
namespace Fr
def SyncBut (m : M) (x : Nat) : Prop := ∀ v, v ≠ x → 0 < v → v < 30 → (m.u v).here = true → (m.u v).was = ready m v
def Sync (m : M) : Prop := ∀ v, 0 < v → v < 30 → (m.u v).here = true → (m.u v).was = ready m v
theorem Sync.but {m : M} (h : Sync m) (x : Nat) : SyncBut m x := fun v _ => h v
theorem SyncBut.root {m : M} (h : SyncBut m 0) : Sync m := fun v v0 => h v (by omega) v0
theorem kid_grp {m : M} {g v : Nat} (h : kidB m g v = true) : grp m v = g := by unfold grp; rw [(kidB_iff.1 h).2.2.1]; rfl
theorem ready_other {m m' : M} {u v : Nat} (hvu : v ≠ u) (hvg : v ≠ grp m u) (hi : ∀ x, (m'.u x).inn = (m.u x).inn) (hh : ∀ x, (m'.u x).here = (m.u x).here) (hw : ∀ x, x ≠ u → (m'.u x).was = (m.u x).was)
    (ha : (m'.u v).awake = (m.u v).awake ∧ (m'.u v).frozen = (m.u v).frozen ∧ (m'.u v).quota = (m.u v).quota ∧ (m'.u v).used = (m.u v).used) : ready m' v = ready m v := by
  refine ready_of (fun _ => ha.1) (fun _ => ha.2) (fun _ x _ => ?_)
  by_cases e : x = u
  · subst e
    have e1 : kidB m v x = false := by
      cases hk : kidB m v x
      · rfl
      · exact absurd (kid_grp hk).symm hvg
    have e2 : kidB m' v x = false := by
      cases hk : kidB m' v x
      · rfl
      · have := kid_grp hk
        unfold grp at this; rw [hi] at this
        exact absurd this.symm hvg
    rw [e1, e2]
  · unfold kidB; rw [hh, hi, hw x e]
theorem line_keep (m : M) (u v : Nat) : (line m u).u v = { m.u v with was := ((line m u).u v).was, time := ((line m u).u v).time } := by
  unfold line
  by_cases e : v = u
  · subst e; rw [set_same]; rfl
  · rw [set_ne _ _ _ _ e]
theorem line_was {m : M} {u v : Nat} (h : v ≠ u) : ((line m u).u v).was = (m.u v).was := by unfold line; rw [set_ne _ _ _ _ h]
theorem line_self {m : M} {u : Nat} (hg : grp m u ≠ u) : ((line m u).u u).was = ready (line m u) u := by
  have e : ((line m u).u u).was = ready m u := by unfold line; rw [set_same]; rfl
  rw [e]
  refine (ready_of (fun _ => ?_) (fun _ => ?_) (fun _ x _ => ?_)).symm
  · rw [line_keep]
  · rw [line_keep]; exact ⟨rfl, rfl, rfl⟩
  · by_cases k : x = u
    · subst k
      rw [kid_self hg, kid_self (by rw [line_grp]; exact hg)]
    · unfold kidB; rw [line_here, line_inn, line_was k]
theorem SyncBut.line {m : M} {u : Nat} (h : SyncBut m u) (hg : grp m u ≠ u) : SyncBut (line m u) (grp m u) := by
  intro v hv v0 hv' hh
  by_cases e : v = u
  · subst e; exact line_self hg
  · rw [line_was e, ready_other (m' := Fr.line m u) e hv (fun x => line_inn m u x) (fun x => line_here m u x) (fun x hx => line_was hx) (by rw [line_keep]; exact ⟨rfl, rfl, rfl, rfl⟩)]
    rw [line_here] at hh
    exact h v e v0 hv' hh
theorem SyncBut.look {m m' : M} {u : Nat} (k : Look m u m') : Inv m → u < 30 → (m.u u).here = true → SyncBut m u → Sync m' := by
  induction k using Look.ind with
  | root m => exact fun _ _ _ h => h.root
  | up h0 _ ih =>
    intro hI hu hh h
    have g := hI.grp (by omega) hu hh
    exact ih (hI.line (by omega) hu hh) (by omega) (by rw [line_here]; exact g.2.2.1) (h.line g.2.2.2)
theorem look_keep {m m' : M} {u : Nat} (k : Look m u m') (v : Nat) : m'.u v = { m.u v with was := (m'.u v).was, time := (m'.u v).time } := by
  induction k using Look.ind with
  | root m => rfl
  | up h0 _ ih => rw [ih, line_keep]
theorem payR_self {m : M} {u : Nat} (hg : grp m u ≠ u) : (payR m u).u u = { m.u u with time := (m.u u).time + 1048576 / (m.u u).weight, used := if 0 < (m.u u).quota then (m.u u).used + 1 else (m.u u).used, ran := (m.u u).ran + 1, was := ((payR m u).u u).was } := by
  have hg' : grp (ranUp m u) u ≠ u := by rw [ranUp_grp]; exact hg
  unfold payR
  rw [payC_eq, set_same, payF_u hg', ranUp_u]
  unfold payU
  by_cases k : 10 ≤ u
  · rw [if_pos k, if_neg (by omega)]
  · rw [if_neg k, if_pos (by omega)]
theorem payR_other {m : M} {u v : Nat} (hv : v ≠ u) : (payR m u).u v = { m.u v with floor := if v = grp m u then max (m.u v).floor (m.u u).time else (m.u v).floor } := by
  unfold payR
  rw [payC_ne hv]
  unfold payF
  rw [ranUp_grp]
  by_cases e : v = grp m u
  · rw [if_pos e]
    subst e
    rw [set_same, ranUp_ne hv, (ranUp_here m u u).2.2.2.1]
  · rw [if_neg e, set_ne _ _ _ _ e, ranUp_ne hv]
theorem payR_was {m : M} {u : Nat} (hg : grp m u ≠ u) : ((payR m u).u u).was = ready (payR m u) u := by
  have hg' : grp (ranUp m u) u ≠ u := by rw [ranUp_grp]; exact hg
  have e : ((payR m u).u u).was = ready (payT (ranUp m u) u) u := by unfold payR payC setWas; rw [set_same]
  rw [e]
  have hT : grp (payT (ranUp m u) u) u ≠ u := by unfold grp; rw [payT_u hg']; exact hg'
  unfold payR payC
  refine (ready_of (fun _ => ?_) (fun _ => ?_) (fun _ x _ => ?_)).symm
  · unfold setWas; rw [set_same]
  · unfold setWas; rw [set_same]; exact ⟨rfl, rfl, rfl⟩
  · by_cases k : x = u
    · subst k
      rw [kid_self hT, kid_self]
      unfold grp setWas; rw [set_same]; exact hT
    · unfold setWas; exact kid_ne k
theorem SyncBut.pay {m : M} {u : Nat} (h : SyncBut m u) (hg : grp m u ≠ u) : SyncBut (payR m u) (grp m u) := by
  intro v hv v0 hv' hh
  by_cases e : v = u
  · subst e; exact payR_was hg
  · have o := payR_other (m := m) e
    rw [(payR_tw e).2.1, ready_other (m' := payR m u) e hv (fun x => payR_inn m u x) (fun x => payR_here m u x) (fun x hx => (payR_tw hx).2.1) (by rw [o]; exact ⟨rfl, rfl, rfl, rfl⟩)]
    rw [payR_here] at hh
    exact h v e v0 hv' hh
theorem SyncBut.pays {m m' : M} {u : Nat} (k : Pays m u m') : ∀ {rk : Nat → Nat} {R : Nat}, Going m rk R u → SyncBut m u → Sync m' := by
  induction k using Pays.ind with
  | root m => exact fun _ h => h.root
  | up h0 _ ih =>
    intro rk R g h
    have f := g.facts (by omega)
    exact ih (g.next (by omega)) (h.pay (fun e => by have := f.2.2.2.2.1; rw [e] at this; omega))
theorem pays_root {m m' : M} (k : Pays m 0 m') : m' = m := by
  rcases k.inv with ⟨_, e⟩ | ⟨h, _⟩
  · exact e
  · exact absurd rfl h
theorem pays_up {m m' : M} {u : Nat} (h0 : u ≠ 0) (k : Pays m u m') : Pays (payR m u) (grp m u) m' := by
  rcases k.inv with ⟨e, _⟩ | ⟨_, k⟩
  · exact absurd e h0
  · exact k
theorem pays_keep {m m' : M} {u : Nat} (k : Pays m u m') : ∀ {rk : Nat → Nat} {R : Nat}, Going m rk R u → ∀ v, (m'.u v).here = (m.u v).here ∧ (m'.u v).inn = (m.u v).inn ∧ (m'.u v).weight = (m.u v).weight ∧ (m'.u v).awake = (m.u v).awake ∧ (m'.u v).frozen = (m.u v).frozen ∧ (m'.u v).quota = (m.u v).quota ∧ (m'.u v).period = (m.u v).period := by
  induction k using Pays.ind with
  | root m => exact fun _ v => ⟨rfl, rfl, rfl, rfl, rfl, rfl, rfl⟩
  | @up m m' u h0 _ ih =>
    intro rk R g v
    have f := g.facts (by omega)
    have hg : grp m u ≠ u := fun e => by have := f.2.2.2.2.1; rw [e] at this; omega
    have i := ih (g.next (by omega)) v
    by_cases e : v = u
    · subst e
      rw [payR_self hg] at i; exact i
    · rw [payR_other e] at i; exact i
theorem renew_none {m m' : M} {n : Nat} (k : Renew m n m') : (∀ u, u < 10 → (m.u u).quota = 0) → m' = m := by
  induction k using Renew.ind with
  | done => exact fun _ => rfl
  | step hn k _ ih =>
    intro h
    rcases k with ⟨hq, _, _⟩ | ⟨_, rfl⟩
    · rw [h _ hn] at hq; omega
    · exact ih h
theorem pick_some {m : M} (hS : Sync m) {g : Nat} {r : Option Nat} (k : Pick m g r) : g < 10 → hasKid m g = true → ∃ t, r = some t := by
  induction k using Pick.ind with
  | none h hk => intro _ h'; rw [hk] at h'; cases h'
  | task h => intro h'; omega
  | @down g v r h b p ih =>
    intro _ _
    by_cases e : v < 10
    · have kb := kidB_iff.1 b.kid
      have := hS v kb.1 b.lt kb.2.1
      rw [kb.2.2.2] at this
      unfold ready at this
      rw [if_neg (by omega)] at this
      have := this.symm
      rw [Bool.and_eq_true] at this
      exact ih e this.1
    · rcases p.inv with ⟨h, _⟩ | ⟨_, e⟩ | ⟨h, _⟩
      · omega
      · exact ⟨_, e⟩
      · omega
theorem SyncBut.set {m : M} (hS : Sync m) {u : Nat} {x : Un} (h1 : x.here = (m.u u).here) (h2 : x.inn = (m.u u).inn) (h3 : x.was = (m.u u).was) : SyncBut (m.set u x) u := by
  intro v hv v0 hv' hh
  rw [set_ne _ _ _ _ hv] at hh ⊢
  rw [hS v v0 hv' hh]
  refine (ready_of (fun _ => ?_) (fun _ => ?_) (fun _ y _ => kid_set h1 h2 h3)).symm
  · rw [set_ne _ _ _ _ hv]
  · rw [set_ne _ _ _ _ hv]; exact ⟨rfl, rfl, rfl⟩
theorem Sync.wake {m m' : M} {z : Int} {on : Bool} (hI : Inv m) (hS : Sync m) (k : WakeTo m z on m') : Sync m' := by
  rcases k with ⟨k1, k2⟩ | ⟨_, rfl⟩
  · obtain ⟨n, rfl, hn, hh⟩ := taskE_zero k1
    rw [Int.toNat_natCast] at k2
    have t := Turn.of hI (show 10 + n < 30 by omega) hh
    exact SyncBut.look k2 (hI.turn (by omega) hh ⟨t.here, t.inn, t.weight, t.floor, t.quo, t.per, t.fl, t.tm⟩) (by omega) (by rw [set_same]; exact hh) (SyncBut.set hS rfl rfl rfl)
  · exact hS
theorem Sync.quota {m m' : M} {z q p : Int} (hI : Inv m) (hS : Sync m) (k : QuotaTo m z q p m') : Sync m' := by
  rcases k with ⟨k1, k2⟩ | ⟨_, rfl⟩
  · obtain ⟨l, hq⟩ := quotaE_zero k1
    obtain ⟨n, rfl, h0, hn, hh⟩ := lowerE_zero l
    rw [Int.toNat_natCast] at k2
    exact SyncBut.look k2 (hI.turn (by omega) hh (quota_turn hI h0 hn hh hq)) (by omega) (by rw [set_same]; exact hh) (SyncBut.set hS rfl rfl rfl)
  · exact hS
theorem Sync.rstep {m m1 : M} {n : Nat} (hI : Inv m) (hS : Sync m) (hn : n < 10) (k : RStep m n m1) : Sync m1 := by
  rcases k with ⟨hq, _, k⟩ | ⟨_, rfl⟩
  · have hh := here_of_quota hI (by omega) hq
    exact SyncBut.look k (hI.zeroU (by omega) hh) (by omega) (by rw [set_same]; exact hh) (SyncBut.set hS rfl rfl rfl)
  · exact hS
theorem Sync.renew {m m' : M} {n : Nat} (k : Renew m n m') : Inv m → Sync m → Sync m' := by
  induction k using Renew.ind with
  | done => exact fun _ h => h
  | step hn k _ ih => exact fun hI h => ih (hI.rstep hn k) (h.rstep hI hn k)
theorem Sync.up1 {m : M} (h : Sync m) : Sync (up1 m) := h
theorem Sync.tick {m m' : M} {r : Int} (hI : Inv m) (hS : Sync m) (k : Tick m r m') : Sync m' := by
  obtain ⟨m1, k1, k2⟩ := k
  have h1 := Inv.renew k1 hI
  have s1 := Sync.renew k1 hI hS
  rcases k2 with ⟨_, _, rfl⟩ | ⟨t, p, _, q⟩
  · exact s1.up1
  · obtain ⟨rk, R, g, _⟩ := going_of h1 p
    exact SyncBut.pays q g (s1.up1.but t)
theorem sync0 : Sync m0 := fun v v0 _ hh => by rw [m0_ne v (by omega)] at hh; cases hh
theorem Sync.add {m : M} (hI : Inv m) (hS : Sync m) {u g wt : Nat} (hu : u < 30) (hn : (m.u u).here = false) : Sync (m.set u (Un.new g wt)) := by
  have hw : (m.u u).was = false := by rw [hI.no u hu hn]; rfl
  have hk : ∀ k x, kidB (m.set u (Un.new g wt)) k x = kidB m k x := fun k x => by
    by_cases e : x = u
    · subst e
      unfold kidB
      rw [set_same, hn]
      simp [Un.new]
    · exact kid_ne e
  intro v v0 hv hh
  by_cases e : v = u
  · subst e
    rw [set_same]
    show false = _
    unfold ready
    by_cases k : 10 ≤ v
    · rw [if_pos k, set_same]; rfl
    · rw [if_neg k]
      have : hasKid (m.set v (Un.new g wt)) v = false := by
        cases hc : hasKid (m.set v (Un.new g wt)) v
        · rfl
        · obtain ⟨x, hx, kx⟩ := hasKid_iff.1 hc
          rw [hk] at kx
          have kb := kidB_iff.1 kx
          exact absurd (kid_grp kx) (no_kid hI hn x kb.1 hx kb.2.1)
      rw [this]; rfl
  · rw [set_ne _ _ _ _ e] at hh ⊢
    rw [hS v v0 hv hh]
    refine (ready_of (fun _ => ?_) (fun _ => ?_) (fun _ x _ => hk v x)).symm
    · rw [set_ne _ _ _ _ e]
    · rw [set_ne _ _ _ _ e]; exact ⟨rfl, rfl, rfl⟩
end Fr
end Go.Proofs.YtghogbngmcolmaaGreat.Fa
namespace Go.Proofs.YtghogbngmcolmaaGreat.Fa
open Go.RowKit
open Fr (Un M)
theorem taskE_cases (m : M) (z : Int) : Fr.taskE m z = 0 ∨ 0 < Fr.taskE m z := by unfold Fr.taskE; split; exact .inr (by omega); split; exact .inl rfl; exact .inr (by omega)
end Go.Proofs.YtghogbngmcolmaaGreat.Fa
namespace Go.Proofs.YtghogbngmcolmaaGreat.Fa
namespace Fr
def DropTo (m : M) (z : Int) (m' : M) : Prop := (taskE m z = 0 ∧ ∃ m1, Look (m.set (10 + z.toNat) { m.u (10 + z.toNat) with awake := false }) (10 + z.toNat) m1 ∧ m' = m1.set (10 + z.toNat) Un.no) ∨ (taskE m z ≠ 0 ∧ m' = m)
theorem Inv.drop {m : M} (h : Inv m) {u : Nat} (h0 : 0 < u) (nk : ∀ v, 0 < v → v < 30 → (m.u v).here = true → Fr.grp m v ≠ u) : Inv (m.set u Un.no) := by
  have hgr : ∀ v, v ≠ u → Fr.grp (m.set u Un.no) v = Fr.grp m v := fun v hv => by unfold Fr.grp; rw [set_ne _ _ _ _ hv]
  refine ⟨?_, ?_, fun v hv hn' => ?_, fun v hv hq => ?_, fun v hv => ?_, fun v v0 hv hv' => ?_, fun v v0 hv hv' hw' => ?_, fun v hv => ?_⟩
  · rw [set_ne _ _ _ _ (by omega)]; exact h.root
  · obtain ⟨rk, R, hR⟩ := h.tree
    refine ⟨rk, R, hR.le, fun v v0 hv hv' => ?_⟩
    by_cases e : v = u
    · subst e; rw [set_same] at hv'; cases hv'
    · rw [set_ne _ _ _ _ e] at hv' ⊢
      obtain ⟨k, k1, k2, k3, k4⟩ := hR.up v v0 hv hv'
      have ku : k ≠ u := fun ek => nk v v0 hv hv' (by unfold Fr.grp; rw [k2, ek]; rfl)
      exact ⟨k, k1, k2, by rw [set_ne _ _ _ _ ku]; exact k3, k4⟩
  · by_cases e : v = u
    · subst e; rw [set_same]
    · rw [set_ne _ _ _ _ e] at hn' ⊢; exact h.no v hv hn'
  · by_cases e : v = u
    · subst e; rw [set_same] at hq; exact absurd hq (by decide)
    · rw [set_ne _ _ _ _ e] at hq ⊢; exact h.quo v hv hq
  · by_cases e : v = u
    · subst e; rw [set_same]; exact ⟨by decide, by decide⟩
    · rw [set_ne _ _ _ _ e]; exact h.per v hv
  · by_cases e : v = u
    · subst e; rw [set_same] at hv'; cases hv'
    · rw [set_ne _ _ _ _ e] at hv' ⊢; exact h.wt v v0 hv hv'
  · by_cases e : v = u
    · subst e; rw [set_same] at hv'; cases hv'
    · rw [hgr v e]
      rw [set_ne _ _ _ _ e] at hv' hw' ⊢
      rw [set_ne _ _ _ _ (nk v v0 hv hv')]
      exact h.fl v v0 hv hv' hw'
  · rw [set_now]
    by_cases e : v = u
    · subst e; rw [set_same]; exact ⟨Nat.zero_le _, Nat.zero_le _, Nat.zero_le _, Nat.zero_le _⟩
    · rw [set_ne _ _ _ _ e]; exact h.tm v hv
theorem kids_same {m : M} {u : Nat} {x : Un} (h1 : (m.u u).was = false) (h2 : x.was = false) (g v : Nat) : kidB (m.set u x) g v = kidB m g v := by
  by_cases e : v = u
  · subst e
    have a : kidB m g v = false := by
      cases hk : kidB m g v
      · rfl
      · have := (kidB_iff.1 hk).2.2.2; rw [h1] at this; cases this
    have b : kidB (m.set v x) g v = false := by
      cases hk : kidB (m.set v x) g v
      · rfl
      · have := (kidB_iff.1 hk).2.2.2; rw [set_same, h2] at this; cases this
    rw [a, b]
  · exact kid_ne e
theorem Sync.lay {m : M} (hS : Sync m) {u : Nat} {x : Un} (h1 : (m.u u).was = false) (h2 : x.was = false) (h3 : x.here = true → ready (m.set u x) u = false) : Sync (m.set u x) := by
  intro v v0 hv hh
  by_cases e : v = u
  · subst e
    rw [set_same] at hh ⊢
    rw [h2, h3 hh]
  · rw [set_ne _ _ _ _ e] at hh ⊢
    rw [hS v v0 hv hh]
    refine (ready_of (fun _ => ?_) (fun _ => ?_) (fun _ y _ => kids_same h1 h2 v y)).symm
    · rw [set_ne _ _ _ _ e]
    · rw [set_ne _ _ _ _ e]; exact ⟨rfl, rfl, rfl⟩
theorem asleep {m m1 : M} (hI : Inv m) (hS : Sync m) {n : Nat} (hn : n < 20) (hh : (m.u (10 + n)).here = true) (k : Look (m.set (10 + n) { m.u (10 + n) with awake := false }) (10 + n) m1) :
    Inv m1 ∧ Sync m1 ∧ m1.now = m.now ∧ (m1.u (10 + n)).here = true ∧ (m1.u (10 + n)).was = false ∧ (m1.u (10 + n)).awake = false ∧ (m1.u (10 + n)).weight = (m.u (10 + n)).weight ∧ (m1.u (10 + n)).ran = (m.u (10 + n)).ran ∧ ∀ v, (m1.u v).here = (m.u v).here := by
  have W : WakeTo m n false m1 := .inl ⟨taskE_nat hn hh, k⟩
  have i1 := hI.wake W
  have s1 := Sync.wake hI hS W
  have kp := look_keep k (10 + n)
  rw [set_same] at kp
  have lk := look_here k
  have hhe : ∀ v, (m1.u v).here = (m.u v).here := fun v => (lk.2 v).1.trans (here_set (m := m) (x := { m.u (10 + n) with awake := false }) rfl v)
  have ha : (m1.u (10 + n)).awake = false := by rw [kp]
  refine ⟨i1, s1, lk.1, by rw [hhe]; exact hh, ?_, ha, by rw [kp], by rw [kp], hhe⟩
  rw [s1 (10 + n) (by omega) (by omega) (by rw [hhe]; exact hh)]
  unfold ready; rw [if_pos (by omega)]; exact ha
theorem no_task {m : M} (h : Inv m) {n : Nat} : ∀ v, 0 < v → v < 30 → (m.u v).here = true → Fr.grp m v ≠ 10 + n := fun v v0 hv hh => by have := (h.grp v0 hv hh).1; omega
theorem Inv.dropTask {m m' : M} {z : Int} (h : Inv m) (hS : Sync m) (k : DropTo m z m') : Inv m' ∧ Sync m' ∧ m'.now = m.now := by
  rcases k with ⟨k1, m1, k2, rfl⟩ | ⟨_, rfl⟩
  · obtain ⟨n, rfl, hn, hh⟩ := taskE_zero k1
    rw [Int.toNat_natCast] at *
    have a := asleep h hS hn hh k2
    exact ⟨a.1.drop (by omega) (no_task a.1), a.2.1.lay a.2.2.2.2.1 rfl (fun c => by cases c), a.2.2.1⟩
  · exact ⟨h, hS, rfl⟩
end Fr
end Go.Proofs.YtghogbngmcolmaaGreat.Fa
namespace Go.Proofs.YtghogbngmcolmaaGreat.Fa
open Go.RowKit
open Hp (Q)
open Fr (Un M)
theorem SAt.task_like {w : World} {b : Nat} {m : M} {qs : Nat → Q} {n : Nat} {x y : Un} (h : SAt w b (m.set (10 + n) x) qs) (e1 : ∀ k, k < 4 → unitC (10 + n) y k = unitC (10 + n) x k) (e2 : ∀ k, k < 2 → taskC y k = taskC x k) : SAt w b (m.set (10 + n) y) qs := by
  refine ⟨h.blk, h.now, fun u f hu hf => ?_, h.que, fun g f hg hf => ?_, fun k f hk hf => ?_⟩
  · rw [h.unit u f hu hf]
    by_cases e : u = 10 + n
    · subst e; rw [Fr.set_same, Fr.set_same, e1 f hf]
    · rw [Fr.set_ne _ _ _ _ e, Fr.set_ne _ _ _ _ e]
  · rw [h.grp g f hg hf, Fr.set_ne _ _ _ _ (by omega), Fr.set_ne _ _ _ _ (by omega)]
  · rw [h.task k f hk hf]
    by_cases e : k = n
    · subst e; rw [Fr.set_same, Fr.set_same, e2 f hf]
    · rw [Fr.set_ne _ _ _ _ (by omega), Fr.set_ne _ _ _ _ (by omega)]
theorem SAt.noTask {w : World} {b : Nat} {m : M} {qs : Nat → Q} (h : SAt w b m qs) (n : Nat) (hn : n < 20) :
    SAt ((((((w.setCell ⟨b, 1 + (10 + n) * 4, none⟩ (.bool false)).setCell ⟨b, 1 + (10 + n) * 4 + 1, none⟩ (.int .i64 0)).setCell ⟨b, 1 + (10 + n) * 4 + 2, none⟩ (.int .u64 0)).setCell ⟨b, 1 + (10 + n) * 4 + 3, none⟩ (.int .u64 0)).setCell ⟨b, 2101 + n * 2, none⟩ (.bool false)).setCell ⟨b, 2101 + n * 2 + 1, none⟩ (.int .i64 0)) b (m.set (10 + n) Un.no) qs := by
  have := (((((h.setHere (10 + n) false (by omega)).setIn (10 + n) 0 (by omega)).setWeight (10 + n) 0 (by omega) (by omega)).setTime (10 + n) 0 (by omega)).setAwake n false hn).setRan n 0 hn
  simp only [Fr.set_same, Fr.set_set] at this
  exact this.task_like (four rfl rfl rfl rfl) (two rfl rfl)
set_option maxRecDepth 100000 in
set_option maxHeartbeats 1000000 in
theorem dropTask_any (b : Nat) (z : Int) (m : M) (w : World) (h : Fair w b m) (hI : Fr.Inv m) (hS : Fr.Sync m) :
    Calls Tryz.prog 124 #[.pointer (some ⟨b, 0, none⟩), .int .i64 z] w fun e w' => e = .returned (errV (Fr.taskE m z)) ∧ ∃ m', Fr.DropTo m z m' ∧ Fair w' b m' ∧ Frm b w w' := by
  have HF := Hid.intro h
  have HI := Hid.intro hI
  have HS := Hid.intro hS
  clear h hI hS
  rcases taskE_cases m z with k | k
  · have HK := Hid.intro k
    obtain ⟨n, rfl, hn, hh⟩ := Fr.taskE_zero k
    have HH := Hid.intro hh
    have hnI : (n : Int) < 20 := by omega
    clear k hh
    go_enter Tryz.func124, Tryz.ntmps124
    go_wp2_with fail
    refine (wrongTask_any b n m _ HF.out).mono ?_
    rintro e w1 ⟨rfl, hw⟩
    subst w1
    rw [HK.out, errV_zero]
    go_wp2_with fail
    refine (rouse_any b n false m _ HF.out HI.out hn HH.out).mono ?_
    rintro e w1 ⟨rfl, m1, k1, f1, r1⟩
    have A1 := Hid.intro f1
    have R1 := Hid.intro r1
    have K1 : Hid (Fr.Look (m.set (10 + n) { m.u (10 + n) with awake := false }) (10 + n) m1) := k1
    have WS : Hid ((m1.u (10 + n)).was = false) := (Fr.asleep HI.out HS.out hn HH.out K1.out).2.2.2.2.1
    obtain ⟨qs, hS, hC⟩ := f1
    have c0 := hS.cHere (10 + n) (by omega)
    have c1 := hS.cIn (10 + n) (by omega)
    have c2 := hS.cWeight (10 + n) (by omega) (by omega)
    have c3 := hS.cTime (10 + n) (by omega)
    have c4 := hS.cAwake n hn
    have c5 := hS.cRan n hn
    have cf := hS.frozen
    have HS1 := Hid.intro hS
    have HC1 := Hid.intro hC
    clear k1 r1 hS hC
    go_wp2_with fail
    go_region
    generalize hW2 : World.drew _ = W2
    have F2 : Hid (Fair W2 b (m1.set (10 + n) Un.no) ∧ Frm b w W2) := Hid.intro (by rw [← hW2]; exact ⟨⟨qs, (HS1.out.noTask n hn).drew, HC1.out.fresh WS.out rfl⟩, ((((((R1.out.setCell _ _).setCell _ _).setCell _ _).setCell _ _).setCell _ _).setCell _ _).drew⟩)
    clear hW2 c0 c1 c2 c3 c4 c5 cf
    go_wp2_with fail
    go_ret
    rw [HK.out]
    exact ⟨rfl, _, .inl ⟨HK.out, m1, by rw [Int.toNat_natCast]; exact K1.out, rfl⟩, by rw [Int.toNat_natCast]; exact F2.out⟩
  · obtain ⟨E, hE⟩ : ∃ E, Fr.taskE m z = E := ⟨_, rfl⟩
    have HE := Hid.intro hE
    rw [hE] at k
    have E0 : E ≠ 0 := by omega
    clear hE
    go_enter Tryz.func124, Tryz.ntmps124
    go_wp2_with fail
    refine (wrongTask_any b z m _ HF.out).mono ?_
    rintro e w1 ⟨rfl, hw⟩
    subst w1
    rw [HE.out, errV_ne E0]
    go_wp2
    go_ret
    rw [HE.out, errV_ne E0]
    exact ⟨rfl, m, .inr ⟨by rw [HE.out]; exact E0, rfl⟩, HF.out, Frm.refl b w⟩
end Go.Proofs.YtghogbngmcolmaaGreat.Fa
namespace Go.Proofs.YtghogbngmcolmaaGreat.Fa
open Go.RowKit
open Hp (Q)
open Fr (Un M)
theorem Frm.setCells {b : Nat} : ∀ (vs : List Value) (o : Nat) {u w : World}, Frm b u w → Frm b u (w.setCells b o vs)
  | [], _, _, _, h => h
  | v :: r, o, u, w, h => by rw [World.setCells]; exact Frm.setCells r (o + 1) (h.setCell o v)
end Go.Proofs.YtghogbngmcolmaaGreat.Fa
namespace Go.Proofs.YtghogbngmcolmaaGreat
open Go.RowKit
open Tr (Fo Nd)
open Mo (Wh Mt)
open Mv (Me Bk)
open Sg (S1)
open Fx (Fi)
open Pp (Pi)
namespace Kn
structure Pr where
  st : Nat
  par : Int
  grp : Int
  code : Int
  fd : Nat → Int
  has : Bool
  mem : Me
  box : Nat → S1
def Pr.no : Pr := ⟨0, 0, 0, 0, fun _ => 0, false, Mv.me0, Sg.nul⟩
structure Kp where
  p : Nat → Pr
  ht : Nat → Bool
  tb : Nat → Mo.Tb
  sp : Sp.T
  gr : Nat → Gr.Gp
  sc : Fa.Fr.M
  bk : Bk
  fo : Fo
  pi : Nat → Pi
  fi : Nat → Fi
def Kp.put (k : Kp) (n : Nat) (x : Pr) : Kp := { k with p := fun m => if m = n then x else k.p m }
theorem put_same (k : Kp) (n : Nat) (x : Pr) : (k.put n x).p n = x := if_pos rfl
theorem put_ne (k : Kp) (n m : Nat) (x : Pr) (h : m ≠ n) : (k.put n x).p m = k.p m := if_neg h
structure St where
  A : Nat → Nat
  V : Nat → Value
  k : Kp
def us (s : St) (i : Nat) : Prop := i < 9 ∨ (9 ≤ i ∧ i < 29 ∧ (s.k.p (i - 9)).has = true) ∨ (29 ≤ i ∧ i < 49 ∧ (s.k.p (i - 29)).has = true) ∨ (49 ≤ i ∧ i < 55 ∧ s.k.ht (i - 49) = true) ∨ (55 ≤ i ∧ i < 61 ∧ s.k.ht (i - 55) = true ∧ (s.V (i - 55)).ownBlock ≠ none)
theorem us_m {s : St} {n : Nat} (hn : n < 20) (h : (s.k.p n).has = true) : us s (9 + n) := .inr (.inl ⟨by omega, by omega, by rw [show 9 + n - 9 = n by omega]; exact h⟩)
theorem us_b {s : St} {n : Nat} (hn : n < 20) (h : (s.k.p n).has = true) : us s (29 + n) := .inr (.inr (.inl ⟨by omega, by omega, by rw [show 29 + n - 29 = n by omega]; exact h⟩))
theorem us_t {s : St} {n : Nat} (hn : n < 6) (h : s.k.ht n = true) : us s (49 + n) := .inr (.inr (.inr (.inl ⟨by omega, by omega, by rw [show 49 + n - 49 = n by omega]; exact h⟩)))
theorem us_r {s : St} {n g : Nat} (hn : n < 6) (h : s.k.ht n = true) (e : (s.V n).ownBlock = some g) : us s (55 + n) := .inr (.inr (.inr (.inr ⟨by omega, by omega, by rw [show 55 + n - 55 = n by omega]; exact h, by rw [show 55 + n - 55 = n by omega, e]; simp⟩)))
def KB (s : St) (b : Nat) : Prop := ∃ i, us s i ∧ b = s.A i
def ptr (b : Nat) (on : Bool) : Value := if on then .pointer (some ⟨b, 0, none⟩) else .pointer none
def pcx (a b : Nat) (x : Pr) (j : Nat) : Value :=
  if j = 0 then .int .i64 (x.st : Int) else if j = 1 then .int .i64 x.par else if j = 2 then .int .i64 x.grp else if j = 3 then .int .i64 x.code
  else if j = 4 then ptr a x.has else if j = 5 then ptr b x.has else .int .i64 (x.fd (j - 6))
def pc (s : St) (n j : Nat) : Value := pcx (s.A (9 + n)) (s.A (29 + n)) (s.k.p n) j
def kc (s : St) (o : Nat) : Value := if o < 240 then pc s (o / 12) (o % 12) else if o < 246 then ptr (s.A (49 + (o - 240))) (s.k.ht (o - 240)) else if o < 250 then .pointer (some ⟨s.A (o - 245), 0, none⟩) else .pointer (some ⟨s.A (o - 244), 0, none⟩)
end Kn
open Kn (Pr Kp St us KB)
structure KKt (w : World) (base : Nat) (s : St) : Prop where
  ker : ∃ C, w.heap[s.A 0]? = some (.cells C 77 (0, 0)) ∧ C.size = 253
  cel : ∀ o, o < 253 → w.cell? ⟨s.A 0, o, none⟩ = some (Kn.kc s o)
  sp : Tb true w (s.A 1) s.k.sp
  gr : Gr.TAt w (s.A 2) s.k.gr
  sc : Fa.Fair w (s.A 3) s.k.sc
  bk : VAt w (s.A 4) (s.A 5) s.k.bk
  fi : XAt w (s.A 8) (s.A 6) (s.A 7) s.k.fi
  fo : FAt w (s.A 6) s.k.fo
  pi : PAt w (s.A 7) s.k.pi
  me : ∀ n, n < 20 → (s.k.p n).has = true → UAt w (s.A (9 + n)) (s.A 4) (s.k.p n).mem
  bx : ∀ n, n < 20 → (s.k.p n).has = true → CX w (s.A (29 + n)) (s.k.p n).box
  tb : ∀ n, n < 6 → s.k.ht n = true → TAt w base (s.A (49 + n)) (s.A 6) (s.k.tb n) (s.V n)
  ro : ∀ n, n < 6 → s.k.ht n = true → ∀ g, (s.V n).ownBlock = some g → s.A (55 + n) = g
  inj : ∀ i j, us s i → us s j → s.A i = s.A j → i = j
  low : ∀ i, us s i → base ≤ s.A i
section
variable {w w' : World} {base : Nat} {s s' : St}
theorem KKt.lt (h : KKt w base s) {i : Nat} (hi : us s i) : s.A i < w.heap.size := by
  rcases hi with hi | ⟨h1, h2, h3⟩ | ⟨h1, h2, h3⟩ | ⟨h1, h2, h3⟩ | ⟨h1, h2, h3, h4⟩
  · match i, hi with
    | 0, _ => obtain ⟨C, e, _⟩ := h.ker; exact (Array.getElem?_eq_some_iff.1 e).1
    | 1, _ => exact h.sp.lt
    | 2, _ => exact h.gr.lt
    | 3, _ => exact h.sc.lt
    | 4, _ => exact h.bk.lt
    | 5, _ => exact h.bk.ltq
    | 6, _ => exact h.fo.lt
    | 7, _ => exact h.pi.lt
    | 8, _ => exact h.fi.lt
  · have := (h.me (i - 9) (by omega) h3).lt
    rwa [show 9 + (i - 9) = i by omega] at this
  · have := (h.bx (i - 29) (by omega) h3).lt
    rwa [show 29 + (i - 29) = i by omega] at this
  · have := (h.tb (i - 49) (by omega) h3).lt
    rwa [show 49 + (i - 49) = i by omega] at this
  · cases e : (s.V (i - 55)).ownBlock with
    | none => exact absurd e h4
    | some g =>
      have a := h.ro (i - 55) (by omega) h3 g e
      have b := ((h.tb (i - 55) (by omega) h3).row.lt g e).2
      rw [show 55 + (i - 55) = i by omega] at a
      rw [a]; exact b
theorem KKt.klt (h : KKt w base s) {b : Nat} (hb : KB s b) : b < w.heap.size := by obtain ⟨i, hi, rfl⟩ := hb; exact h.lt hi
theorem KKt.klow (h : KKt w base s) {b : Nat} (hb : KB s b) : base ≤ b := by obtain ⟨i, hi, rfl⟩ := hb; exact h.low i hi
theorem KKt.ne (h : KKt w base s) {i j : Nat} (hi : us s i) (hj : us s j) (n : i ≠ j) : s.A i ≠ s.A j := fun e => n (h.inj i j hi hj e)
theorem KKt.frozen (h : KKt w base s) (o : Nat) : w.frozen? ⟨s.A 0, o, none⟩ = false := by obtain ⟨C, h1, _⟩ := h.ker; exact frozen_blk h1 o
theorem KKt.same (h : KKt w base s) (e : ∀ i, us s i → w'.heap[s.A i]? = w.heap[s.A i]?) : KKt w' base s := by
  have e0 := e 0 (.inl (by omega))
  exact ⟨by rw [e0]; exact h.ker, fun o ho => (World.cell?_of_block e0).trans (h.cel o ho), h.sp.same (e 1 (.inl (by omega))), (e 2 (.inl (by omega))).trans h.gr, h.sc.same (e 3 (.inl (by omega))), h.bk.same (e 4 (.inl (by omega))) (e 5 (.inl (by omega))), h.fi.same (e 8 (.inl (by omega))), h.fo.same (e 6 (.inl (by omega))), h.pi.same (e 7 (.inl (by omega))),
    fun n hn hh => (h.me n hn hh).same (e _ (Kn.us_m hn hh)), fun n hn hh => (h.bx n hn hh).same (e _ (Kn.us_b hn hh)),
    fun n hn hh => (h.tb n hn hh).same (e _ (Kn.us_t hn hh)) (fun g eg => by have := e _ (Kn.us_r hn hh eg); rwa [h.ro n hn hh g eg] at this), h.ro, h.inj, h.low⟩
theorem KKt.below (h : KKt w base s) (k : Below w.heap.size w w') : KKt w' base s := h.same (fun _ hi => k.block _ (h.lt hi))
theorem KKt.drew (h : KKt w base s) : KKt w.drew base s := h.same (fun _ _ => rfl)
end
structure KF (s : St) (w : World) (s' : St) (w' : World) : Prop where
  onl : Onl (KB s) w w'
  sub : ∀ b, KB s' b → KB s b ∨ w.heap.size ≤ b
  a0 : s'.A 0 = s.A 0
section
variable {s s1 s2 : St} {w w1 w2 : World} {base : Nat}
theorem KF.refl (s : St) (w : World) : KF s w s w := ⟨Onl.refl _ _, fun _ h => .inl h, rfl⟩
theorem KF.trans (h : KF s w s1 w1) (k : KF s1 w1 s2 w2) : KF s w s2 w2 :=
  ⟨⟨k.onl.os.trans h.onl.os, k.onl.tape.trans h.onl.tape, k.onl.output.trans h.onl.output, Nat.le_trans h.onl.size k.onl.size, fun b hb hn => (k.onl.block b (Nat.lt_of_lt_of_le hb h.onl.size) (fun c => (h.sub b c).elim hn (fun c => by omega))).trans (h.onl.block b hb hn)⟩,
    fun b hb => (k.sub b hb).elim (h.sub b) (fun c => .inr (Nat.le_trans h.onl.size c)), k.a0.trans h.a0⟩
theorem KF.below (h : Below w.heap.size w w1) : KF s w s w1 := ⟨Onl.of_below h, fun _ h => .inl h, rfl⟩
theorem KF.drew (s : St) (w : World) : KF s w s w.drew := KF.below ((Below.refl _ _).drew)
theorem KF.behind (h : KF s w s1 w1) (hk : KKt w base s) {t : World} {B : Nat} (b : Below B t w) (hB : B ≤ base) (hs : B ≤ w.heap.size) : Below B t w1 := h.onl.behind b (fun _ c => Nat.le_trans hB (hk.klow c)) hs
theorem KF.keep (h : KF s w s1 w1) {c : Nat} (hc : c < w.heap.size) (hn : ¬ KB s c) : w1.heap[c]? = w.heap[c]? := h.onl.block c hc hn
theorem KF.apart (h : KF s w s1 w1) {c : Nat} (hc : c < w.heap.size) (hn : ¬ KB s c) : ¬ KB s1 c := fun d => (h.sub c d).elim hn (fun e => by omega)
end
end Go.Proofs.YtghogbngmcolmaaGreat
namespace Go.Proofs.YtghogbngmcolmaaGreat
open Go.RowKit
open Tr (Fo Nd)
open Mo (Wh Mt)
open Mv (Me Bk)
open Sg (S1)
open Fx (Fi)
open Pp (Pi)
open Kn (Pr Kp St us KB)
section
variable {w w' : World} {base : Nat} {s s' : St}
theorem us9 {s : St} {i : Nat} (h : i < 9) : us s i := .inl h
theorem Kn.kc_p (s : St) (n j : Nat) (hn : n < 20) (hj : j < 12) : Kn.kc s (n * 12 + j) = Kn.pc s n j := by
  unfold Kn.kc
  rw [if_pos (by omega), show (n * 12 + j) / 12 = n by omega, show (n * 12 + j) % 12 = j by omega]
theorem KKt.cP (h : KKt w base s) (n j : Nat) (hn : n < 20) (hj : j < 12) : w.cell? ⟨s.A 0, n * 12 + j, none⟩ = some (Kn.pc s n j) := by rw [h.cel _ (by omega), Kn.kc_p s n j hn hj]
theorem KKt.cSt (h : KKt w base s) (n : Nat) (hn : n < 20) : w.cell? ⟨s.A 0, n * 12, none⟩ = some (.int .i64 ((s.k.p n).st : Int)) := h.cP n 0 hn (by omega)
theorem KKt.cPar (h : KKt w base s) (n : Nat) (hn : n < 20) : w.cell? ⟨s.A 0, n * 12 + 1, none⟩ = some (.int .i64 (s.k.p n).par) := h.cP n 1 hn (by omega)
theorem KKt.cGrp (h : KKt w base s) (n : Nat) (hn : n < 20) : w.cell? ⟨s.A 0, n * 12 + 2, none⟩ = some (.int .i64 (s.k.p n).grp) := h.cP n 2 hn (by omega)
theorem KKt.cCode (h : KKt w base s) (n : Nat) (hn : n < 20) : w.cell? ⟨s.A 0, n * 12 + 3, none⟩ = some (.int .i64 (s.k.p n).code) := h.cP n 3 hn (by omega)
theorem KKt.cMem (h : KKt w base s) (n : Nat) (hn : n < 20) (hh : (s.k.p n).has = true) : w.cell? ⟨s.A 0, n * 12 + 4, none⟩ = some (.pointer (some ⟨s.A (9 + n), 0, none⟩)) := by rw [h.cP n 4 hn (by omega)]; unfold Kn.pc Kn.pcx; rw [hh]; rfl
theorem KKt.cBox (h : KKt w base s) (n : Nat) (hn : n < 20) (hh : (s.k.p n).has = true) : w.cell? ⟨s.A 0, n * 12 + 5, none⟩ = some (.pointer (some ⟨s.A (29 + n), 0, none⟩)) := by rw [h.cP n 5 hn (by omega)]; unfold Kn.pc Kn.pcx; rw [hh]; rfl
theorem KKt.cFd (h : KKt w base s) (n f : Nat) (hn : n < 20) (hf : f < 6) : w.cell? ⟨s.A 0, n * 12 + 6 + f, none⟩ = some (.int .i64 ((s.k.p n).fd f)) := by
  rw [Nat.add_assoc, h.cP n (6 + f) hn (by omega)]
  unfold Kn.pc Kn.pcx
  rw [if_neg (by omega), if_neg (by omega), if_neg (by omega), if_neg (by omega), if_neg (by omega), if_neg (by omega), show 6 + f - 6 = f by omega]
theorem KKt.cTab (h : KKt w base s) (n : Nat) (hn : n < 6) (hh : s.k.ht n = true) : w.cell? ⟨s.A 0, 240 + n, none⟩ = some (.pointer (some ⟨s.A (49 + n), 0, none⟩)) := by
  rw [h.cel _ (by omega)]
  unfold Kn.kc
  rw [if_neg (by omega), if_pos (by omega), show 240 + n - 240 = n by omega, hh]; rfl
theorem KKt.cSp (h : KKt w base s) : w.cell? ⟨s.A 0, 246, none⟩ = some (.pointer (some ⟨s.A 1, 0, none⟩)) := h.cel 246 (by omega)
theorem KKt.cGr (h : KKt w base s) : w.cell? ⟨s.A 0, 247, none⟩ = some (.pointer (some ⟨s.A 2, 0, none⟩)) := h.cel 247 (by omega)
theorem KKt.cSc (h : KKt w base s) : w.cell? ⟨s.A 0, 248, none⟩ = some (.pointer (some ⟨s.A 3, 0, none⟩)) := h.cel 248 (by omega)
theorem KKt.cBk (h : KKt w base s) : w.cell? ⟨s.A 0, 249, none⟩ = some (.pointer (some ⟨s.A 4, 0, none⟩)) := h.cel 249 (by omega)
theorem KKt.cFo (h : KKt w base s) : w.cell? ⟨s.A 0, 250, none⟩ = some (.pointer (some ⟨s.A 6, 0, none⟩)) := h.cel 250 (by omega)
theorem KKt.cFi (h : KKt w base s) : w.cell? ⟨s.A 0, 252, none⟩ = some (.pointer (some ⟨s.A 8, 0, none⟩)) := h.cel 252 (by omega)
theorem KKt.others (h : KKt w base s) {j : Nat} (hj : us s j) (f : Frm (s.A j) w w') : ∀ i, us s i → i ≠ j → w'.heap[s.A i]? = w.heap[s.A i]? := fun _ hi n => f.block _ (h.lt hi) (h.ne hi hj n)
theorem KF.one (s' : St) {j : Nat} (hj : us s j) (f : Frm (s.A j) w w') (hA : s'.A = s.A) (hu : ∀ i, us s' i → us s i) : KF s w s' w' := ⟨Onl.of_frm f ⟨j, hj, rfl⟩, fun b ⟨i, hi, e⟩ => .inl ⟨i, hu i hi, by rw [e, hA]⟩, by rw [hA]⟩
theorem Gr.Frm.std {b : Nat} (f : Gr.Frm b w w') : Go.Proofs.YtghogbngmcolmaaGreat.Frm b w w' := ⟨f.os, f.tape, f.output, f.size, f.block⟩
theorem Fa.Frm.std {b : Nat} (f : Fa.Frm b w w') : Go.Proofs.YtghogbngmcolmaaGreat.Frm b w w' := ⟨f.os, f.tape, f.output, f.size, f.block⟩
theorem KKt.setSp (h : KKt w base s) {t : Sp.T} (u : Tb true w' (s.A 1) t) (f : Frm (s.A 1) w w') : KKt w' base { s with k := { s.k with sp := t } } ∧ KF s w { s with k := { s.k with sp := t } } w' := by
  have o := h.others (us9 (by omega)) f
  refine ⟨⟨by rw [o 0 (us9 (by omega)) (by omega)]; exact h.ker, fun x hx => (World.cell?_of_block (o 0 (us9 (by omega)) (by omega))).trans (h.cel x hx), u, (o 2 (us9 (by omega)) (by omega)).trans h.gr, h.sc.same (o 3 (us9 (by omega)) (by omega)), h.bk.same (o 4 (us9 (by omega)) (by omega)) (o 5 (us9 (by omega)) (by omega)), h.fi.same (o 8 (us9 (by omega)) (by omega)), h.fo.same (o 6 (us9 (by omega)) (by omega)), h.pi.same (o 7 (us9 (by omega)) (by omega)),
    fun n hn hh => (h.me n hn hh).same (o _ (Kn.us_m hn hh) (by omega)), fun n hn hh => (h.bx n hn hh).same (o _ (Kn.us_b hn hh) (by omega)),
    fun n hn hh => (h.tb n hn hh).same (o _ (Kn.us_t hn hh) (by omega)) (fun g eg => by have := o _ (Kn.us_r hn hh eg) (by omega); rwa [h.ro n hn hh g eg] at this), h.ro, h.inj, h.low⟩, KF.one _ (us9 (by omega)) f rfl (fun _ hi => hi)⟩
theorem KKt.setGr (h : KKt w base s) {t : Nat → Gr.Gp} (u : Gr.TAt w' (s.A 2) t) (f : Frm (s.A 2) w w') : KKt w' base { s with k := { s.k with gr := t } } ∧ KF s w { s with k := { s.k with gr := t } } w' := by
  have o := h.others (us9 (by omega)) f
  refine ⟨⟨by rw [o 0 (us9 (by omega)) (by omega)]; exact h.ker, fun x hx => (World.cell?_of_block (o 0 (us9 (by omega)) (by omega))).trans (h.cel x hx), h.sp.same (o 1 (us9 (by omega)) (by omega)), u, h.sc.same (o 3 (us9 (by omega)) (by omega)), h.bk.same (o 4 (us9 (by omega)) (by omega)) (o 5 (us9 (by omega)) (by omega)), h.fi.same (o 8 (us9 (by omega)) (by omega)), h.fo.same (o 6 (us9 (by omega)) (by omega)), h.pi.same (o 7 (us9 (by omega)) (by omega)),
    fun n hn hh => (h.me n hn hh).same (o _ (Kn.us_m hn hh) (by omega)), fun n hn hh => (h.bx n hn hh).same (o _ (Kn.us_b hn hh) (by omega)),
    fun n hn hh => (h.tb n hn hh).same (o _ (Kn.us_t hn hh) (by omega)) (fun g eg => by have := o _ (Kn.us_r hn hh eg) (by omega); rwa [h.ro n hn hh g eg] at this), h.ro, h.inj, h.low⟩, KF.one _ (us9 (by omega)) f rfl (fun _ hi => hi)⟩
theorem KKt.setSc (h : KKt w base s) {t : Fa.Fr.M} (u : Fa.Fair w' (s.A 3) t) (f : Frm (s.A 3) w w') : KKt w' base { s with k := { s.k with sc := t } } ∧ KF s w { s with k := { s.k with sc := t } } w' := by
  have o := h.others (us9 (by omega)) f
  refine ⟨⟨by rw [o 0 (us9 (by omega)) (by omega)]; exact h.ker, fun x hx => (World.cell?_of_block (o 0 (us9 (by omega)) (by omega))).trans (h.cel x hx), h.sp.same (o 1 (us9 (by omega)) (by omega)), (o 2 (us9 (by omega)) (by omega)).trans h.gr, u, h.bk.same (o 4 (us9 (by omega)) (by omega)) (o 5 (us9 (by omega)) (by omega)), h.fi.same (o 8 (us9 (by omega)) (by omega)), h.fo.same (o 6 (us9 (by omega)) (by omega)), h.pi.same (o 7 (us9 (by omega)) (by omega)),
    fun n hn hh => (h.me n hn hh).same (o _ (Kn.us_m hn hh) (by omega)), fun n hn hh => (h.bx n hn hh).same (o _ (Kn.us_b hn hh) (by omega)),
    fun n hn hh => (h.tb n hn hh).same (o _ (Kn.us_t hn hh) (by omega)) (fun g eg => by have := o _ (Kn.us_r hn hh eg) (by omega); rwa [h.ro n hn hh g eg] at this), h.ro, h.inj, h.low⟩, KF.one _ (us9 (by omega)) f rfl (fun _ hi => hi)⟩
theorem KKt.setFo (h : KKt w base s) {F : Fo} (u : FAt w' (s.A 6) F) (f : Frm (s.A 6) w w') : KKt w' base { s with k := { s.k with fo := F } } ∧ KF s w { s with k := { s.k with fo := F } } w' := by
  have o := h.others (us9 (by omega)) f
  refine ⟨⟨by rw [o 0 (us9 (by omega)) (by omega)]; exact h.ker, fun x hx => (World.cell?_of_block (o 0 (us9 (by omega)) (by omega))).trans (h.cel x hx), h.sp.same (o 1 (us9 (by omega)) (by omega)), (o 2 (us9 (by omega)) (by omega)).trans h.gr, h.sc.same (o 3 (us9 (by omega)) (by omega)), h.bk.same (o 4 (us9 (by omega)) (by omega)) (o 5 (us9 (by omega)) (by omega)), h.fi.same (o 8 (us9 (by omega)) (by omega)), u, h.pi.same (o 7 (us9 (by omega)) (by omega)),
    fun n hn hh => (h.me n hn hh).same (o _ (Kn.us_m hn hh) (by omega)), fun n hn hh => (h.bx n hn hh).same (o _ (Kn.us_b hn hh) (by omega)),
    fun n hn hh => (h.tb n hn hh).same (o _ (Kn.us_t hn hh) (by omega)) (fun g eg => by have := o _ (Kn.us_r hn hh eg) (by omega); rwa [h.ro n hn hh g eg] at this), h.ro, h.inj, h.low⟩, KF.one _ (us9 (by omega)) f rfl (fun _ hi => hi)⟩
theorem KKt.fx (h : KKt w base s) : FX w (s.A 8) (s.A 6) (s.A 7) s.k.fi s.k.fo s.k.pi := ⟨h.fi, h.fo, h.pi, h.ne (us9 (by omega)) (us9 (by omega)) (by omega), h.ne (us9 (by omega)) (us9 (by omega)) (by omega), h.ne (us9 (by omega)) (us9 (by omega)) (by omega)⟩
theorem KKt.setFX (h : KKt w base s) {T : Nat → Fi} {F : Fo} {S : Nat → Pi} (u : FX w' (s.A 8) (s.A 6) (s.A 7) T F S) (f : Tri (s.A 8) (s.A 6) (s.A 7) w w') : KKt w' base { s with k := { s.k with fi := T, fo := F, pi := S } } ∧ KF s w { s with k := { s.k with fi := T, fo := F, pi := S } } w' := by
  have o : ∀ i, us s i → i ≠ 8 → i ≠ 6 → i ≠ 7 → w'.heap[s.A i]? = w.heap[s.A i]? := fun i hi a b c => f.block _ (h.lt hi) (h.ne hi (us9 (by omega)) a) (h.ne hi (us9 (by omega)) b) (h.ne hi (us9 (by omega)) c)
  refine ⟨⟨by rw [o 0 (us9 (by omega)) (by omega) (by omega) (by omega)]; exact h.ker, fun x hx => (World.cell?_of_block (o 0 (us9 (by omega)) (by omega) (by omega) (by omega))).trans (h.cel x hx), h.sp.same (o 1 (us9 (by omega)) (by omega) (by omega) (by omega)), (o 2 (us9 (by omega)) (by omega) (by omega) (by omega)).trans h.gr, h.sc.same (o 3 (us9 (by omega)) (by omega) (by omega) (by omega)), h.bk.same (o 4 (us9 (by omega)) (by omega) (by omega) (by omega)) (o 5 (us9 (by omega)) (by omega) (by omega) (by omega)), u.1, u.2.1, u.2.2.1,
    fun n hn hh => (h.me n hn hh).same (o _ (Kn.us_m hn hh) (by omega) (by omega) (by omega)), fun n hn hh => (h.bx n hn hh).same (o _ (Kn.us_b hn hh) (by omega) (by omega) (by omega)),
    fun n hn hh => (h.tb n hn hh).same (o _ (Kn.us_t hn hh) (by omega) (by omega) (by omega)) (fun g eg => by have := o _ (Kn.us_r hn hh eg) (by omega) (by omega) (by omega); rwa [h.ro n hn hh g eg] at this), h.ro, h.inj, h.low⟩,
    ⟨⟨f.os, f.tape, f.output, f.size, fun b hb hn => f.block b hb (fun e => hn ⟨8, us9 (by omega), e⟩) (fun e => hn ⟨6, us9 (by omega), e⟩) (fun e => hn ⟨7, us9 (by omega), e⟩)⟩, fun b hb => .inl hb, rfl⟩⟩
theorem KKt.ub (h : KKt w base s) {n : Nat} (hn : n < 20) (hh : (s.k.p n).has = true) : UB w (s.A (9 + n)) (s.A 4) (s.A 5) (s.k.p n).mem s.k.bk := ⟨h.me n hn hh, h.bk, h.ne (Kn.us_m hn hh) (us9 (by omega)) (by omega), h.ne (Kn.us_m hn hh) (us9 (by omega)) (by omega)⟩
def Kn.memK (k : Kp) (n : Nat) (m : Me) (b : Bk) : Kp := { k.put n { k.p n with mem := m } with bk := b }
theorem Kn.us_put {s : St} {n : Nat} {x : Pr} (hx : x.has = (s.k.p n).has) (b : Bk) (i : Nat) : us { s with k := { s.k.put n x with bk := b } } i ↔ us s i := by
  have e : ∀ j, ((s.k.put n x).p j).has = (s.k.p j).has := fun j => by
    by_cases c : j = n
    · rw [c, Kn.put_same, hx]
    · rw [Kn.put_ne _ _ _ _ c]
  unfold us
  show (_ ∨ (_ ∧ _ ∧ ((s.k.put n x).p _).has = true) ∨ (_ ∧ _ ∧ ((s.k.put n x).p _).has = true) ∨ _ ∨ _) ↔ _
  rw [e, e]
  exact Iff.rfl
theorem KKt.setMB (h : KKt w base s) {n : Nat} (hn : n < 20) (hh : (s.k.p n).has = true) {m : Me} {b : Bk} (u : UB w' (s.A (9 + n)) (s.A 4) (s.A 5) m b) (f : Thr (s.A (9 + n)) (s.A 4) (s.A 5) w w') : KKt w' base { s with k := Kn.memK s.k n m b } ∧ KF s w { s with k := Kn.memK s.k n m b } w' := by
  have o : ∀ i, us s i → i ≠ 9 + n → i ≠ 4 → i ≠ 5 → w'.heap[s.A i]? = w.heap[s.A i]? := fun i hi a b c => f.block _ (h.lt hi) (h.ne hi (Kn.us_m hn hh) a) (h.ne hi (us9 (by omega)) b) (h.ne hi (us9 (by omega)) c)
  have pu : ∀ i, us { s with k := Kn.memK s.k n m b } i ↔ us s i := Kn.us_put (n := n) (x := { s.k.p n with mem := m }) rfl b
  have pk : ∀ x, Kn.kc { s with k := Kn.memK s.k n m b } x = Kn.kc s x := fun x => by
    unfold Kn.kc Kn.pc Kn.pcx
    by_cases c : x / 12 = n
    · rw [show (Kn.memK s.k n m b).p (x / 12) = { s.k.p n with mem := m } by rw [c]; exact Kn.put_same _ _ _, ← c]
      rfl
    · rw [show (Kn.memK s.k n m b).p (x / 12) = s.k.p (x / 12) from Kn.put_ne _ _ _ _ c]
      rfl
  refine ⟨⟨by rw [show ({ s with k := Kn.memK s.k n m b } : St).A 0 = s.A 0 from rfl, o 0 (us9 (by omega)) (by omega) (by omega) (by omega)]; exact h.ker, fun x hx => by rw [pk]; exact (World.cell?_of_block (o 0 (us9 (by omega)) (by omega) (by omega) (by omega))).trans (h.cel x hx), h.sp.same (o 1 (us9 (by omega)) (by omega) (by omega) (by omega)), (o 2 (us9 (by omega)) (by omega) (by omega) (by omega)).trans h.gr, h.sc.same (o 3 (us9 (by omega)) (by omega) (by omega) (by omega)), u.bk, h.fi.same (o 8 (us9 (by omega)) (by omega) (by omega) (by omega)), h.fo.same (o 6 (us9 (by omega)) (by omega) (by omega) (by omega)), h.pi.same (o 7 (us9 (by omega)) (by omega) (by omega) (by omega)),
    fun j hj jh => ?_, fun j hj jh => ?_,
    fun n hn hh => (h.tb n hn hh).same (o _ (Kn.us_t hn hh) (by omega) (by omega) (by omega)) (fun g eg => by have := o _ (Kn.us_r hn hh eg) (by omega) (by omega) (by omega); rwa [h.ro n hn hh g eg] at this), h.ro, fun i j hi hj => h.inj i j ((pu i).1 hi) ((pu j).1 hj), fun i hi => h.low i ((pu i).1 hi)⟩,
    ⟨⟨f.os, f.tape, f.output, f.size, fun b hb hc => f.block b hb (fun e => hc ⟨_, Kn.us_m hn hh, e⟩) (fun e => hc ⟨4, us9 (by omega), e⟩) (fun e => hc ⟨5, us9 (by omega), e⟩)⟩, fun b ⟨i, hi, e⟩ => .inl ⟨i, (pu i).1 hi, e⟩, rfl⟩⟩
  · by_cases c : j = n
    · subst c
      rw [show (Kn.memK s.k j m b).p j = { s.k.p j with mem := m } from Kn.put_same _ _ _]
      exact u.me
    · rw [show (Kn.memK s.k n m b).p j = s.k.p j from Kn.put_ne _ _ _ _ c] at jh ⊢
      exact (h.me j hj jh).same (o _ (Kn.us_m hj jh) (by omega) (by omega) (by omega))
  · by_cases c : j = n
    · subst c
      rw [show (Kn.memK s.k j m b).p j = { s.k.p j with mem := m } from Kn.put_same _ _ _]
      exact (h.bx j hj hh).same (o _ (Kn.us_b hj hh) (by omega) (by omega) (by omega))
    · rw [show (Kn.memK s.k n m b).p j = s.k.p j from Kn.put_ne _ _ _ _ c] at jh ⊢
      exact (h.bx j hj jh).same (o _ (Kn.us_b hj jh) (by omega) (by omega) (by omega))
end
end Go.Proofs.YtghogbngmcolmaaGreat
namespace Go.Proofs.YtghogbngmcolmaaGreat
open Go.RowKit
open Tr (Fo Nd)
open Mo (Wh Mt)
open Mv (Me Bk)
open Sg (S1)
open Fx (Fi)
open Pp (Pi)
open Kn (Pr Kp St us KB)
section
variable {w w' : World} {base : Nat} {s s' : St}
theorem KKt.setBk (h : KKt w base s) {b : Bk} (u : VAt w' (s.A 4) (s.A 5) b) (f : Two (s.A 4) (s.A 5) w w') : KKt w' base { s with k := { s.k with bk := b } } ∧ KF s w { s with k := { s.k with bk := b } } w' := by
  have o : ∀ i, us s i → i ≠ 4 → i ≠ 5 → w'.heap[s.A i]? = w.heap[s.A i]? := fun i hi a b => f.block _ (h.lt hi) (h.ne hi (us9 (by omega)) a) (h.ne hi (us9 (by omega)) b)
  refine ⟨⟨by rw [o 0 (us9 (by omega)) (by omega) (by omega)]; exact h.ker, fun x hx => (World.cell?_of_block (o 0 (us9 (by omega)) (by omega) (by omega))).trans (h.cel x hx), h.sp.same (o 1 (us9 (by omega)) (by omega) (by omega)), (o 2 (us9 (by omega)) (by omega) (by omega)).trans h.gr, h.sc.same (o 3 (us9 (by omega)) (by omega) (by omega)), u, h.fi.same (o 8 (us9 (by omega)) (by omega) (by omega)), h.fo.same (o 6 (us9 (by omega)) (by omega) (by omega)), h.pi.same (o 7 (us9 (by omega)) (by omega) (by omega)),
    fun n hn hh => (h.me n hn hh).same (o _ (Kn.us_m hn hh) (by omega) (by omega)), fun n hn hh => (h.bx n hn hh).same (o _ (Kn.us_b hn hh) (by omega) (by omega)),
    fun n hn hh => (h.tb n hn hh).same (o _ (Kn.us_t hn hh) (by omega) (by omega)) (fun g eg => by have := o _ (Kn.us_r hn hh eg) (by omega) (by omega); rwa [h.ro n hn hh g eg] at this), h.ro, h.inj, h.low⟩,
    ⟨⟨f.os, f.tape, f.output, f.size, fun b hb hc => f.block b hb (fun e => hc ⟨4, us9 (by omega), e⟩) (fun e => hc ⟨5, us9 (by omega), e⟩)⟩, fun b hb => .inl hb, rfl⟩⟩
theorem Kn.kc_put (s : St) (n : Nat) (x : Pr) (o : Nat) : Kn.kc { s with k := s.k.put n x } o = if o < 240 ∧ o / 12 = n then Kn.pcx (s.A (9 + n)) (s.A (29 + n)) x (o % 12) else Kn.kc s o := by
  unfold Kn.kc
  by_cases c : o < 240
  · rw [if_pos c, if_pos c]
    by_cases d : o / 12 = n
    · rw [if_pos ⟨c, d⟩]
      unfold Kn.pc
      rw [d]
      show Kn.pcx (s.A (9 + n)) (s.A (29 + n)) ((s.k.put n x).p n) _ = _
      rw [Kn.put_same]
    · rw [if_neg (fun e => d e.2)]
      unfold Kn.pc
      show Kn.pcx (s.A (9 + o / 12)) (s.A (29 + o / 12)) ((s.k.put n x).p (o / 12)) _ = _
      rw [Kn.put_ne _ _ _ _ d]
  · rw [if_neg c, if_neg (show ¬ (o < 240 ∧ o / 12 = n) from fun e => c e.1), if_neg c]
    rfl
theorem Kn.us_put1 {s : St} {n : Nat} {x : Pr} (hx : x.has = (s.k.p n).has) (i : Nat) : us { s with k := s.k.put n x } i ↔ us s i := Kn.us_put hx s.k.bk i
theorem KKt.turnP (h : KKt w base s) {n : Nat} {x : Pr} (hx : x.has = (s.k.p n).has) (hm : x.mem = (s.k.p n).mem) (hb : x.box = (s.k.p n).box) (f : Frm (s.A 0) w w') (hk : ∃ C, w'.heap[s.A 0]? = some (.cells C 77 (0, 0)) ∧ C.size = 253)
    (hc : ∀ o, o < 253 → w'.cell? ⟨s.A 0, o, none⟩ = some (Kn.kc { s with k := s.k.put n x } o)) : KKt w' base { s with k := s.k.put n x } ∧ KF s w { s with k := s.k.put n x } w' := by
  have o := h.others (us9 (by omega)) f
  have pu := Kn.us_put1 (s := s) hx
  refine ⟨⟨hk, hc, h.sp.same (o 1 (us9 (by omega)) (by omega)), (o 2 (us9 (by omega)) (by omega)).trans h.gr, h.sc.same (o 3 (us9 (by omega)) (by omega)), h.bk.same (o 4 (us9 (by omega)) (by omega)) (o 5 (us9 (by omega)) (by omega)), h.fi.same (o 8 (us9 (by omega)) (by omega)), h.fo.same (o 6 (us9 (by omega)) (by omega)), h.pi.same (o 7 (us9 (by omega)) (by omega)),
    fun j hj jh => ?_, fun j hj jh => ?_,
    fun n hn hh => (h.tb n hn hh).same (o _ (Kn.us_t hn hh) (by omega)) (fun g eg => by have := o _ (Kn.us_r hn hh eg) (by omega); rwa [h.ro n hn hh g eg] at this), h.ro, fun i j hi hj => h.inj i j ((pu i).1 hi) ((pu j).1 hj), fun i hi => h.low i ((pu i).1 hi)⟩, KF.one _ (us9 (by omega)) f rfl (fun i hi => (pu i).1 hi)⟩
  · by_cases c : j = n
    · subst c
      rw [show ((s.k.put j x).p j) = x from Kn.put_same _ _ _] at jh ⊢
      rw [hm]
      rw [hx] at jh
      exact (h.me j hj jh).same (o _ (Kn.us_m hj jh) (by omega))
    · rw [show ((s.k.put n x).p j) = s.k.p j from Kn.put_ne _ _ _ _ c] at jh ⊢
      exact (h.me j hj jh).same (o _ (Kn.us_m hj jh) (by omega))
  · by_cases c : j = n
    · subst c
      rw [show ((s.k.put j x).p j) = x from Kn.put_same _ _ _] at jh ⊢
      rw [hb]
      rw [hx] at jh
      exact (h.bx j hj jh).same (o _ (Kn.us_b hj jh) (by omega))
    · rw [show ((s.k.put n x).p j) = s.k.p j from Kn.put_ne _ _ _ _ c] at jh ⊢
      exact (h.bx j hj jh).same (o _ (Kn.us_b hj jh) (by omega))
theorem KKt.setC (h : KKt w base s) {n j : Nat} (hn : n < 20) (hj : j < 12) {x : Pr} (v : Value) (hx : x.has = (s.k.p n).has) (hm : x.mem = (s.k.p n).mem) (hb : x.box = (s.k.p n).box) (hv : ∀ a b i, i < 12 → Kn.pcx a b x i = if i = j then v else Kn.pcx a b (s.k.p n) i) :
    KKt (w.setCell ⟨s.A 0, n * 12 + j, none⟩ v) base { s with k := s.k.put n x } ∧ KF s w { s with k := s.k.put n x } (w.setCell ⟨s.A 0, n * 12 + j, none⟩ v) := by
  obtain ⟨C, e, sz⟩ := h.ker
  refine h.turnP hx hm hb ((Frm.refl _ _).setCell _ _) ⟨_, blk_set e _ v, by simpa using sz⟩ (fun o ho => ?_)
  rw [Kn.kc_put]
  by_cases c : o = n * 12 + j
  · subst c
    rw [cell_set_same e _ v (by omega), if_pos ⟨by omega, by omega⟩, show (n * 12 + j) % 12 = j by omega, hv _ _ j hj, if_pos rfl]
  · rw [cell_set_ne e _ _ v (Ne.symm c)]
    by_cases d : o < 240 ∧ o / 12 = n
    · rw [if_pos d, hv _ _ _ (by omega), if_neg (by omega), h.cel o ho]
      unfold Kn.kc Kn.pc
      rw [if_pos d.1, d.2]
    · rw [if_neg d]; exact h.cel o ho
theorem KKt.setSt (h : KKt w base s) {n : Nat} (hn : n < 20) (v : Nat) : KKt (w.setCell ⟨s.A 0, n * 12, none⟩ (.int .i64 (v : Int))) base { s with k := s.k.put n { s.k.p n with st := v } } ∧ KF s w { s with k := s.k.put n { s.k.p n with st := v } } (w.setCell ⟨s.A 0, n * 12, none⟩ (.int .i64 (v : Int))) :=
  h.setC hn (j := 0) (by omega) _ rfl rfl rfl (fun a b i hi => by
    match i, hi with
    | 0, _ => rfl
    | i + 1, _ => rw [if_neg (by omega)]; rfl)
theorem KKt.setPar (h : KKt w base s) {n : Nat} (hn : n < 20) (v : Int) : KKt (w.setCell ⟨s.A 0, n * 12 + 1, none⟩ (.int .i64 v)) base { s with k := s.k.put n { s.k.p n with par := v } } ∧ KF s w { s with k := s.k.put n { s.k.p n with par := v } } (w.setCell ⟨s.A 0, n * 12 + 1, none⟩ (.int .i64 v)) :=
  h.setC hn (j := 1) (by omega) _ rfl rfl rfl (fun a b i hi => by
    match i, hi with
    | 0, _ => rfl
    | 1, _ => rfl
    | i + 2, _ => rw [if_neg (by omega)]; rfl)
theorem KKt.setCode (h : KKt w base s) {n : Nat} (hn : n < 20) (v : Int) : KKt (w.setCell ⟨s.A 0, n * 12 + 3, none⟩ (.int .i64 v)) base { s with k := s.k.put n { s.k.p n with code := v } } ∧ KF s w { s with k := s.k.put n { s.k.p n with code := v } } (w.setCell ⟨s.A 0, n * 12 + 3, none⟩ (.int .i64 v)) :=
  h.setC hn (j := 3) (by omega) _ rfl rfl rfl (fun a b i hi => by
    match i, hi with
    | 0, _ => rfl
    | 1, _ => rfl
    | 2, _ => rfl
    | 3, _ => rfl
    | i + 4, _ => rw [if_neg (by omega)]; rfl)
def Kn.fdK (k : Kp) (n f : Nat) (v : Int) : Kp := k.put n { k.p n with fd := fun i => if i = f then v else (k.p n).fd i }
theorem KKt.setFd (h : KKt w base s) {n f : Nat} (hn : n < 20) (hf : f < 6) (v : Int) : KKt (w.setCell ⟨s.A 0, n * 12 + 6 + f, none⟩ (.int .i64 v)) base { s with k := Kn.fdK s.k n f v } ∧ KF s w { s with k := Kn.fdK s.k n f v } (w.setCell ⟨s.A 0, n * 12 + 6 + f, none⟩ (.int .i64 v)) := by
  rw [Nat.add_assoc]
  exact h.setC hn (j := 6 + f) (by omega) _ rfl rfl rfl (fun a b i hi => by
    unfold Kn.pcx
    by_cases c : i = 6 + f
    · rw [if_pos c, if_neg (by omega), if_neg (by omega), if_neg (by omega), if_neg (by omega), if_neg (by omega), if_neg (by omega)]
      simp [show i - 6 = f by omega]
    · rw [if_neg c]
      by_cases d : i < 6
      · have q : i = 0 ∨ i = 1 ∨ i = 2 ∨ i = 3 ∨ i = 4 ∨ i = 5 := by omega
        rcases q with rfl | rfl | rfl | rfl | rfl | rfl <;> rfl
      · rw [if_neg (by omega), if_neg (by omega), if_neg (by omega), if_neg (by omega), if_neg (by omega), if_neg (by omega)]
        simp [show i - 6 ≠ f by omega, show i ≠ 0 by omega, show i ≠ 1 by omega, show i ≠ 2 by omega, show i ≠ 3 by omega, show i ≠ 4 by omega, show i ≠ 5 by omega])
theorem KKt.setBx (h : KKt w base s) {n : Nat} (hn : n < 20) (hh : (s.k.p n).has = true) {X : Nat → S1} (u : CX w' (s.A (29 + n)) X) (f : Frm (s.A (29 + n)) w w') : KKt w' base { s with k := s.k.put n { s.k.p n with box := X } } ∧ KF s w { s with k := s.k.put n { s.k.p n with box := X } } w' := by
  have o := h.others (Kn.us_b hn hh) f
  have pu := Kn.us_put1 (s := s) (n := n) (x := { s.k.p n with box := X }) rfl
  have pk : ∀ x, Kn.kc { s with k := s.k.put n { s.k.p n with box := X } } x = Kn.kc s x := fun x => by
    rw [Kn.kc_put]
    by_cases c : x < 240 ∧ x / 12 = n
    · rw [if_pos c]
      unfold Kn.kc Kn.pc
      rw [if_pos c.1, c.2]
      rfl
    · rw [if_neg c]
  refine ⟨⟨by rw [show ({ s with k := s.k.put n { s.k.p n with box := X } } : St).A 0 = s.A 0 from rfl, o 0 (us9 (by omega)) (by omega)]; exact h.ker, fun x hx => by rw [pk]; exact (World.cell?_of_block (o 0 (us9 (by omega)) (by omega))).trans (h.cel x hx), h.sp.same (o 1 (us9 (by omega)) (by omega)), (o 2 (us9 (by omega)) (by omega)).trans h.gr, h.sc.same (o 3 (us9 (by omega)) (by omega)), h.bk.same (o 4 (us9 (by omega)) (by omega)) (o 5 (us9 (by omega)) (by omega)), h.fi.same (o 8 (us9 (by omega)) (by omega)), h.fo.same (o 6 (us9 (by omega)) (by omega)), h.pi.same (o 7 (us9 (by omega)) (by omega)),
    fun j hj jh => ?_, fun j hj jh => ?_,
    fun n hn hh => (h.tb n hn hh).same (o _ (Kn.us_t hn hh) (by omega)) (fun g eg => by have := o _ (Kn.us_r hn hh eg) (by omega); rwa [h.ro n hn hh g eg] at this), h.ro, fun i j hi hj => h.inj i j ((pu i).1 hi) ((pu j).1 hj), fun i hi => h.low i ((pu i).1 hi)⟩, KF.one _ (Kn.us_b hn hh) f rfl (fun i hi => (pu i).1 hi)⟩
  · by_cases c : j = n
    · subst c
      rw [show ((s.k.put j { s.k.p j with box := X }).p j) = { s.k.p j with box := X } from Kn.put_same _ _ _]
      exact (h.me j hj hh).same (o _ (Kn.us_m hj hh) (by omega))
    · rw [show ((s.k.put n { s.k.p n with box := X }).p j) = s.k.p j from Kn.put_ne _ _ _ _ c] at jh ⊢
      exact (h.me j hj jh).same (o _ (Kn.us_m hj jh) (by omega))
  · by_cases c : j = n
    · subst c
      rw [show ((s.k.put j { s.k.p j with box := X }).p j) = { s.k.p j with box := X } from Kn.put_same _ _ _]
      exact u
    · rw [show ((s.k.put n { s.k.p n with box := X }).p j) = s.k.p j from Kn.put_ne _ _ _ _ c] at jh ⊢
      exact (h.bx j hj jh).same (o _ (Kn.us_b hj jh) (by omega))
end
end Go.Proofs.YtghogbngmcolmaaGreat

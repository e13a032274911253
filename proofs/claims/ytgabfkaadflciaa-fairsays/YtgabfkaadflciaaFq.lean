/- What a run leaves, plain. -/
import Derived.Test.YtgabfkaadflciaaFp
namespace Go.Proofs.Ytgabfkaadflciaa
namespace Fr

/-- What is known while a run goes up, standing at v. -/
structure Going (m : M) (rk : Nat → Nat) (R v : Nat) : Prop where
  inv : Inv m
  rank : Rank m rk R
  path : Path m v
  lt : v < 30
  slack : ∀ x, x < 30 → rk x ≤ rk v → Slack m x
theorem Going.facts {m : M} {rk : Nat → Nat} {R v : Nat} (h : Going m rk R v) (h0 : 0 < v) : (m.u v).here = true ∧ (m.u v).was = true ∧ (∀ x, 0 < x → x < 30 → (m.u x).here = true → grp m x = grp m v → (m.u x).was = true → (m.u v).time ≤ (m.u x).time) ∧ Path m (grp m v) ∧ rk (grp m v) < rk v ∧ grp m v < 10 := by
  obtain ⟨hu, hh, hw, hl, p⟩ := h.path.inv h0
  obtain ⟨g, h1, h2, h3, h4⟩ := h.rank.up v h0 hu hh
  have e : grp m v = g := by unfold grp; rw [h2]; rfl
  exact ⟨hh, hw, hl, p, by rw [e]; exact h4, by rw [e]; exact h1⟩
theorem Going.next {m : M} {rk : Nat → Nat} {R v : Nat} (h : Going m rk R v) (h0 : 0 < v) : Going (payR m v) rk R (grp m v) := by
  obtain ⟨hh, hw, hl, p, hr, hg⟩ := h.facts h0
  refine ⟨h.inv.payR h0 h.lt hh hw hl (h.slack v h.lt (Nat.le_refl _)), h.rank.turn (payR_here m v) (payR_inn m v), ?_, by omega, fun x hx hrx => ?_⟩
  · exact p.keep h.rank (payR_here m v) (payR_inn m v) (fun x hx => ⟨(payR_tw hx).2.1, (payR_tw hx).1⟩) hr (Nat.le_refl _)
  · have hne : x ≠ v := fun e => by subst e; omega
    have s := h.slack x hx (by omega)
    have t := payR_tw (m := m) hne
    unfold Slack
    rw [t.1, t.2.2.1, t.2.2.2, payR_now]
    exact s
theorem Going.ranUp {m : M} {rk : Nat → Nat} {R v : Nat} (h : Going m rk R v) (h0 : 0 < v) : Inv (ranUp m v) := by
  have hh := (h.facts h0).1
  have t0 := Turn.of h.inv h.lt hh
  unfold Fr.ranUp
  split
  · exact h.inv.turn h.lt hh ⟨t0.here, t0.inn, t0.weight, t0.floor, t0.quo, t0.per, t0.fl, t0.tm.1, t0.tm.2.1, (h.slack v h.lt (Nat.le_refl _)).2.2⟩
  · exact h.inv
theorem Going.pays {m m' : M} {v : Nat} (k : Pays m v m') : ∀ {rk : Nat → Nat} {R : Nat}, Going m rk R v → Inv m' := by
  induction k using Pays.ind with
  | root m => exact fun h => h.inv
  | up h0 _ ih => exact fun h => ih (h.next (by omega))
theorem pays_now {m m' : M} {v : Nat} (k : Pays m v m') : m'.now = m.now := by
  induction k using Pays.ind with
  | root m => rfl
  | up h0 _ ih => rw [ih, payR_now]
theorem renew_now {m m' : M} {n : Nat} (k : Renew m n m') : m'.now = m.now := by
  induction k using Renew.ind with
  | done => rfl
  | step _ k _ ih =>
    rw [ih]
    rcases k with ⟨_, _, k⟩ | ⟨_, rfl⟩
    · exact (look_here k).1
    · rfl

theorem Inv.up1 {m : M} (h : Inv m) : Inv (up1 m) :=
  ⟨h.root, by obtain ⟨rk, R, hR⟩ := h.tree; exact ⟨rk, R, hR.le, hR.up⟩, h.no, h.quo, h.per, h.wt, h.fl, fun u hu => by
    have := h.tm u hu
    have k : m.now * 1048576 ≤ (m.now + 1) * 1048576 := Nat.mul_le_mul_right _ (Nat.le_succ _)
    exact ⟨Nat.le_trans this.1 k, Nat.le_trans this.2.1 k, Nat.le_succ_of_le this.2.2.1, Nat.le_succ_of_le this.2.2.2⟩⟩
theorem Inv.slack {m : M} (h : Inv m) (x : Nat) (hx : x < 30) : Slack (Fr.up1 m) x := by
  have := h.tm x hx
  have k : (m.now + 1) * 1048576 = m.now * 1048576 + 1048576 := Nat.succ_mul _ _
  unfold Slack
  refine ⟨?_, Nat.succ_le_succ this.2.2.1, Nat.succ_le_succ this.2.2.2⟩
  rw [show (Fr.up1 m).now = m.now + 1 from rfl, k]
  exact Nat.add_le_add_right this.1 _
/-- A group's used is none again. -/
def zeroU (m : M) (n : Nat) : M := m.set n { m.u n with used := 0 }
theorem Inv.zeroU {m : M} (h : Inv m) {n : Nat} (hn : n < 30) (hh : (m.u n).here = true) : Inv (zeroU m n) :=
  h.turn hn hh (by have t := Turn.of h hn hh; exact ⟨t.here, t.inn, t.weight, t.floor, t.quo, t.per, t.fl, t.tm.1, Nat.zero_le _, t.tm.2.2⟩)
theorem zeroU_here (m : M) (n v : Nat) : ((zeroU m n).u v).here = (m.u v).here := here_set (m := m) (x := { m.u n with used := 0 }) rfl v
theorem here_of_quota {m : M} (h : Inv m) {n : Nat} (hn : n < 30) (hq : 0 < (m.u n).quota) : (m.u n).here = true := by
  cases hh : (m.u n).here
  · rw [h.no n hn hh] at hq; exact absurd hq (by decide)
  · rfl
theorem Inv.rstep {m m1 : M} {n : Nat} (h : Inv m) (hn : n < 10) (k : RStep m n m1) : Inv m1 := by
  rcases k with ⟨hq, _, k⟩ | ⟨_, rfl⟩
  · have hh := here_of_quota h (by omega) hq
    exact Inv.look k (h.zeroU (by omega) hh) (by omega) (by rw [show (m.set n { m.u n with used := 0 }) = Fr.zeroU m n from rfl, zeroU_here]; exact hh)
  · exact h
theorem Inv.renew {m m' : M} {n : Nat} (k : Renew m n m') : Inv m → Inv m' := by
  induction k using Renew.ind with
  | done => exact fun h => h
  | step hn k _ ih => exact fun h => ih (h.rstep hn k)
theorem going_of {m : M} (h : Inv m) {t : Nat} (p : Pick (up1 m) 0 (some t)) : ∃ rk R, Going (up1 m) rk R t ∧ 10 ≤ t := by
  have hI := h.up1
  obtain ⟨p1, p2, p3⟩ := path_of_pick hI p t rfl .root (by omega)
  obtain ⟨rk, R, hR⟩ := hI.tree
  exact ⟨rk, R, ⟨hI, hR, p1, p2, fun x hx _ => h.slack x hx⟩, p3⟩
theorem Inv.tick {m m' : M} {r : Int} (h : Inv m) (k : Tick m r m') : Inv m' ∧ m'.now = m.now + 1 := by
  obtain ⟨m1, k1, k2⟩ := k
  have h1 := Inv.renew k1 h
  have e1 := renew_now k1
  rcases k2 with ⟨_, _, rfl⟩ | ⟨t, p, _, q⟩
  · exact ⟨h1.up1, by show m1.now + 1 = _; rw [e1]⟩
  · obtain ⟨rk, R, g, _⟩ := going_of h1 p
    exact ⟨Going.pays q g, by rw [pays_now q]; show m1.now + 1 = _; rw [e1]⟩

end Fr
end Go.Proofs.Ytgabfkaadflciaa

/- TopQuota, plain: nobody runs past a quota, frozen or asleep; if somebody may run, somebody does. -/
import Derived.Test.YtkbfmjdfhacikaaSy
namespace Go.Proofs.Ytkbfmjdfhacikaa
namespace Fr

/-- Two groups, one in the other; n tasks, by turns in the root and in them. -/
structure Qt (m : M) (n q p : Nat) (aw fz : Nat → Bool) (us : Nat) : Prop where
  inv : Inv m
  sync : Sync m
  n6 : n ≤ 6
  here : ∀ v, 0 < v → v < 30 → ((m.u v).here = true ↔ v = 1 ∨ v = 2 ∨ (10 ≤ v ∧ v < 10 + n))
  in1 : (m.u 1).inn = 0
  in2 : (m.u 2).inn = 1
  inT : ∀ i, i < n → (m.u (10 + i)).inn = ((i % 3 : Nat) : Int)
  q1 : (m.u 1).quota = q
  p1 : (m.u 1).period = p
  qn : ∀ u, u < 10 → u ≠ 1 → (m.u u).quota = 0
  awE : ∀ i, i < n → (m.u (10 + i)).awake = aw i
  f1 : (m.u 1).frozen = fz 1
  f2 : (m.u 2).frozen = fz 2
  us1 : (m.u 1).used = us
/-- What is asked of a task that runs. -/
def stop (q : Nat) (fz : Nat → Bool) (us i : Nat) : Bool := (decide (0 < i % 3) && (fz 1 || decide (q ≤ us))) || (decide (i % 3 = 2) && fz 2)

theorem renew_from {m m' : M} {n : Nat} (k : Renew m n m') : (∀ u, n ≤ u → u < 10 → (m.u u).quota = 0) → m' = m := by
  induction k using Renew.ind with
  | done => exact fun _ => rfl
  | step hn k _ ih =>
    intro h
    rcases k with ⟨hq, _, _⟩ | ⟨_, rfl⟩
    · rw [h _ (Nat.le_refl _) hn] at hq; omega
    · exact ih fun u hu => h u (by omega)
theorem renew_step {m m' : M} {n : Nat} (k : Renew m n m') (hn : n < 10) : ∃ a, RStep m n a ∧ Renew a (n + 1) m' := by
  rcases k.inv with ⟨e, _⟩ | ⟨_, a, k, r⟩
  · omega
  · exact ⟨a, k, r⟩
section
variable {m m' : M} {n q p us : Nat} {aw fz : Nat → Bool}

/-- What a look keeps. -/
theorem Qt.look (h : Qt m n q p aw fz us) {u : Nat} {x : Un} (hu : u < 30) (hh : (m.u u).here = true) (t : Turn m u x) (hw : x.was = (m.u u).was) (k : Look (m.set u x) u m') (aw' fz' : Nat → Bool) (us' q' p' : Nat)
    (ha : ∀ i, i < n → ((m.set u x).u (10 + i)).awake = aw' i) (h1 : ((m.set u x).u 1).frozen = fz' 1) (h2 : ((m.set u x).u 2).frozen = fz' 2) (h3 : ((m.set u x).u 1).used = us') (h4 : ((m.set u x).u 1).quota = q' ∧ ((m.set u x).u 1).period = p') (h5 : u ≠ 1 → x.quota = (m.u u).quota) : Qt m' n q' p' aw' fz' us' := by
  have hI := h.inv.turn hu hh t
  have hhs : ((m.set u x).u u).here = true := by rw [set_same]; exact t.here
  have hIn : ∀ v, ((m.set u x).u v).inn = (m.u v).inn := fun v => inn_set t.inn v
  have hHe : ∀ v, ((m.set u x).u v).here = (m.u v).here := fun v => here_set (t.here.trans hh.symm) v
  have lk := look_here k
  have kp := look_keep k
  refine ⟨Inv.look k hI hu hhs, SyncBut.look k hI hu hhs (SyncBut.set h.sync (t.here.trans hh.symm) t.inn hw), h.n6, fun v v0 hv => ?_, ?_, ?_, fun i hi => ?_, ?_, ?_, fun v hv hv1 => ?_, fun i hi => ?_, ?_, ?_, ?_⟩
  · rw [(lk.2 v).1, hHe]; exact h.here v v0 hv
  · rw [(lk.2 1).2, hIn]; exact h.in1
  · rw [(lk.2 2).2, hIn]; exact h.in2
  · rw [(lk.2 _).2, hIn]; exact h.inT i hi
  · rw [kp 1]; exact h4.1
  · rw [kp 1]; exact h4.2
  · rw [kp v]
    show ((m.set u x).u v).quota = 0
    by_cases e : v = u
    · subst e; rw [set_same, h5 hv1]; exact h.qn v hv hv1
    · rw [set_ne _ _ _ _ e]; exact h.qn v hv hv1
  · rw [kp (10 + i)]; exact ha i hi
  · rw [kp 1]; exact h1
  · rw [kp 2]; exact h2
  · rw [kp 1]; exact h3
theorem Qt.h1 (h : Qt m n q p aw fz us) : (m.u 1).here = true := (h.here 1 (by omega) (by omega)).2 (.inl rfl)
theorem Qt.h2 (h : Qt m n q p aw fz us) : (m.u 2).here = true := (h.here 2 (by omega) (by omega)).2 (.inr (.inl rfl))
theorem Qt.hT (h : Qt m n q p aw fz us) {i : Nat} (hi : i < n) : (m.u (10 + i)).here = true := (h.here (10 + i) (by omega) (by have := h.n6; omega)).2 (.inr (.inr ⟨by omega, by omega⟩))
theorem Qt.task (h : Qt m n q p aw fz us) {z : Int} (hz : taskE m z = 0) : ∃ x : Nat, z = x ∧ x < n := by
  obtain ⟨x, rfl, hx, hh⟩ := taskE_zero hz
  exact ⟨x, rfl, by have := (h.here (10 + x) (by omega) (by omega)).1 hh; omega⟩
theorem Qt.group (h : Qt m n q p aw fz us) {z : Int} (hz : lowerE m z = 0) : z = 1 ∨ z = 2 := by
  obtain ⟨x, rfl, h0, hx, hh⟩ := lowerE_zero hz
  have := (h.here x h0 (by omega)).1 hh; omega
def upB' (f : Nat → Bool) (i : Nat) (v : Bool) : Nat → Bool := fun j => if j = i then v else f j
theorem Qt.wake (h : Qt m n q p aw fz us) {x : Nat} (hx : x < n) {on : Bool} (k : WakeTo m x on m') : Qt m' n q p (upB' aw x on) fz us := by
  have hn := h.n6
  have hh := h.hT hx
  have hk : Look (m.set (10 + x) { m.u (10 + x) with awake := on }) (10 + x) m' := by
    rcases k with ⟨_, k⟩ | ⟨k, _⟩
    · exact k
    · exact absurd (taskE_nat (by omega) hh) k
  have t := Turn.of h.inv (show 10 + x < 30 by omega) hh
  refine h.look (x := { m.u (10 + x) with awake := on }) (by omega) hh ⟨t.here, t.inn, t.weight, t.floor, t.quo, t.per, t.fl, t.tm⟩ rfl hk _ _ _ _ _ (fun i hi => ?_) ?_ ?_ ?_ ?_ (fun _ => rfl)
  · by_cases e : i = x
    · rw [e, set_same]; simp [upB']
    · rw [set_ne _ _ _ _ (by omega), h.awE i hi]; simp [upB', e]
  · rw [set_ne _ _ _ _ (by omega)]; exact h.f1
  · rw [set_ne _ _ _ _ (by omega)]; exact h.f2
  · rw [set_ne _ _ _ _ (by omega)]; exact h.us1
  · rw [set_ne _ _ _ _ (by omega)]; exact ⟨h.q1, h.p1⟩
theorem Qt.freeze (h : Qt m n q p aw fz us) {g : Nat} (hg : g = 1 ∨ g = 2) {on : Bool} (k : FreezeTo m g on m') : Qt m' n q p aw (upB' fz g on) us := by
  have hh : (m.u g).here = true := by rcases hg with rfl | rfl; exact h.h1; exact h.h2
  have hk : Look (m.set g { m.u g with frozen := on }) g m' := by
    rcases k with ⟨_, k⟩ | ⟨k, _⟩
    · exact k
    · exact absurd (lowerE_nat (by omega) (by omega) hh) k
  have t := Turn.of h.inv (show g < 30 by omega) hh
  refine h.look (x := { m.u g with frozen := on }) (by omega) hh ⟨t.here, t.inn, t.weight, t.floor, t.quo, t.per, t.fl, t.tm⟩ rfl hk _ _ _ _ _ (fun i hi => ?_) ?_ ?_ ?_ ?_ (fun _ => rfl)
  · rw [set_ne _ _ _ _ (by omega)]; exact h.awE i hi
  · by_cases e : (1 : Nat) = g
    · rw [← e, set_same]; simp [upB']
    · rw [set_ne _ _ _ _ e, h.f1]; simp [upB', e]
  · by_cases e : (2 : Nat) = g
    · rw [← e, set_same]; simp [upB']
    · rw [set_ne _ _ _ _ e, h.f2]; simp [upB', e]
  · by_cases e : (1 : Nat) = g
    · rw [← e, set_same]; exact h.us1
    · rw [set_ne _ _ _ _ e]; exact h.us1
  · by_cases e : (1 : Nat) = g
    · rw [← e, set_same]; exact ⟨h.q1, h.p1⟩
    · rw [set_ne _ _ _ _ e]; exact ⟨h.q1, h.p1⟩

/-- Where a period begins, none is used. -/
theorem Qt.renew (h : Qt m n q p aw fz us) (hq : 0 < q) {m1 : M} (k : Renew m 0 m1) : Qt m1 n q p aw fz (if m.now % p = 0 then 0 else us) := by
  obtain ⟨a0, k0, r0⟩ := renew_step k (by omega)
  rcases k0 with ⟨k0, _, _⟩ | ⟨_, e0⟩
  · rw [h.qn 0 (by omega) (by omega)] at k0; omega
  · rw [e0] at r0
    obtain ⟨a1, k1, r1⟩ := renew_step r0 (by omega)
    rcases k1 with ⟨_, k1, k2⟩ | ⟨k1, e1⟩
    · rw [show (0 + 1 : Nat) = 1 from rfl, h.p1] at k1
      rw [if_pos k1]
      have hh := h.h1
      have t := Turn.of h.inv (show 1 < 30 by omega) hh
      have h1 := h.look (by omega) hh (x := { m.u 1 with used := 0 }) ⟨t.here, t.inn, t.weight, t.floor, t.quo, t.per, t.fl, t.tm.1, Nat.zero_le _, t.tm.2.2⟩ rfl k2 aw fz 0 q p (fun i hi => by rw [set_ne _ _ _ _ (by omega)]; exact h.awE i hi)
        (by rw [set_same]; exact h.f1) (by rw [set_ne _ _ _ _ (by omega)]; exact h.f2) (by rw [set_same]) (by rw [set_same]; exact ⟨h.q1, h.p1⟩) (fun e => absurd rfl e)
      rw [renew_from r1 (fun u hu hu' => h1.qn u hu' (by omega))]
      exact h1
    · rw [show (0 + 1 : Nat) = 1 from rfl, h.q1, h.p1] at k1
      rw [if_neg (fun e => k1 ⟨hq, e⟩)]
      rw [e1] at r1
      rw [renew_from r1 (fun u hu hu' => h.qn u hu' (by omega))]
      exact h

theorem Qt.r1 (h : Qt m n q p aw fz us) (hq : 0 < q) : ready m 1 = (hasKid m 1 && (!fz 1 && decide (us < q))) := by
  unfold ready mayB; rw [if_neg (by omega), h.f1, h.q1, h.us1, decide_eq_false (show ¬ q = 0 by omega), Bool.false_or]
theorem Qt.r2 (h : Qt m n q p aw fz us) : ready m 2 = (hasKid m 2 && !fz 2) := by
  unfold ready mayB; rw [if_neg (by omega), h.f2, h.qn 2 (by omega) (by omega)]; simp
theorem Qt.rT (h : Qt m n q p aw fz us) {i : Nat} (hi : i < n) : (m.u (10 + i)).was = aw i := by
  rw [h.sync (10 + i) (by omega) (by have := h.n6; omega) (h.hT hi)]; unfold ready; rw [if_pos (by omega)]; exact h.awE i hi
/-- Who may run is seen from the root. -/
theorem Qt.seen (h : Qt m n q p aw fz us) (hq : 0 < q) {x : Nat} (hx : x < n) (ha : aw x = true) (hs : stop q fz us x = false) : hasKid m 0 = true := by
  have hn := h.n6
  have k0 : kidB m (x % 3) (10 + x) = true := kidB_iff.2 ⟨by omega, h.hT hx, h.inT x hx, by rw [h.rT hx]; exact ha⟩
  have kk : hasKid m (x % 3) = true := hasKid_iff.2 ⟨10 + x, by omega, k0⟩
  have up1 : hasKid m 1 = true → (fz 1 || decide (q ≤ us)) = false → hasKid m 0 = true := fun hk hf => by
    rw [Bool.or_eq_false_iff, decide_eq_false_iff_not] at hf
    have w1 : (m.u 1).was = true := by
      rw [h.sync 1 (by omega) (by omega) h.h1, h.r1 hq, hk, hf.1, decide_eq_true (by omega)]; rfl
    exact hasKid_iff.2 ⟨1, by omega, kidB_iff.2 ⟨by omega, h.h1, h.in1, w1⟩⟩
  unfold stop at hs
  rw [Bool.or_eq_false_iff] at hs
  have h3 : x % 3 = 0 ∨ x % 3 = 1 ∨ x % 3 = 2 := by omega
  rcases h3 with e | e | e
  · rw [e] at kk; exact kk
  · rw [e] at kk hs
    exact up1 kk (by simpa using hs.1)
  · rw [e] at kk hs
    have f2 : fz 2 = false := by simpa using hs.2
    have w2 : (m.u 2).was = true := by rw [h.sync 2 (by omega) (by omega) h.h2, h.r2, kk, f2]; rfl
    exact up1 (hasKid_iff.2 ⟨2, by omega, kidB_iff.2 ⟨by omega, h.h2, h.in2, w2⟩⟩) (by simpa using hs.1)

theorem Qt.grT (h : Qt m n q p aw fz us) {i : Nat} (hi : i < n) : grp m (10 + i) = i % 3 := by unfold grp; rw [h.inT i hi]; rfl
theorem Qt.gr1 (h : Qt m n q p aw fz us) : grp m 1 = 0 := by unfold grp; rw [h.in1]; rfl
theorem Qt.gr2 (h : Qt m n q p aw fz us) : grp m 2 = 1 := by unfold grp; rw [h.in2]; rfl
theorem Path.was {u : Nat} (k : Path m u) (h0 : 0 < u) : (m.u u).here = true ∧ (m.u u).was = true ∧ Path m (grp m u) := by
  obtain ⟨_, hh, hw, _, p⟩ := k.inv h0
  exact ⟨hh, hw, p⟩
theorem Qt.up1 (h : Qt m n q p aw fz us) : Qt (up1 m) n q p aw fz us :=
  ⟨h.inv.up1, h.sync, h.n6, h.here, h.in1, h.in2, h.inT, h.q1, h.p1, h.qn, h.awE, h.f1, h.f2, h.us1⟩
/-- Who runs may run. -/
theorem Qt.may (h : Qt m n q p aw fz us) (hq : 0 < q) {t : Nat} (k : Path m t) (ht : 10 ≤ t) (hlt : t < 30) : ∃ y, t = 10 + y ∧ y < n ∧ aw y = true ∧ stop q fz us y = false := by
  obtain ⟨hh, hw, p1⟩ := k.was (by omega)
  have hv := (h.here t (by omega) hlt).1 hh
  obtain ⟨y, rfl⟩ : ∃ y, t = 10 + y := ⟨t - 10, by omega⟩
  have hy : y < n := by omega
  rw [h.rT hy] at hw
  rw [h.grT hy] at p1
  refine ⟨y, rfl, hy, hw, ?_⟩
  have ofp1 : Path m 1 → (fz 1 || decide (q ≤ us)) = false := fun k => by
    have w1 := (k.was (by omega)).2.1
    rw [h.sync 1 (by omega) (by omega) h.h1, h.r1 hq] at w1
    simp at w1
    rw [w1.2.1, decide_eq_false (by omega)]; rfl
  unfold stop
  have h3 : y % 3 = 0 ∨ y % 3 = 1 ∨ y % 3 = 2 := by omega
  rcases h3 with e | e | e
  · rw [e]; simp
  · rw [e] at p1 ⊢
    have := ofp1 p1
    rw [this]; simp
  · rw [e] at p1 ⊢
    obtain ⟨_, w2, p2⟩ := p1.was (by omega)
    rw [h.gr2] at p2
    rw [h.sync 2 (by omega) (by omega) h.h2, h.r2] at w2
    simp at w2
    rw [ofp1 p2, w2.2]; simp

/-- How many are used behind a tick. -/
def usedTo (us : Nat) (r : Int) : Nat := if 0 ≤ r ∧ 0 < r % 3 then us + 1 else us
theorem Qt.tick (h : Qt m n q p aw fz us) (hq : 0 < q) {r : Int} (k : Tick m r m') :
    Qt m' n q p aw fz (usedTo (if m.now % p = 0 then 0 else us) r) ∧ ((r = -1 ∧ ∀ x, x < n → aw x = true → stop q fz (if m.now % p = 0 then 0 else us) x = true) ∨ ∃ y, y < n ∧ r = (y : Int) ∧ aw y = true ∧ stop q fz (if m.now % p = 0 then 0 else us) y = false) := by
  have hIm := h.inv.tick k
  have hSm := h.sync.tick h.inv k
  obtain ⟨m1, k1, k2⟩ := k
  have h1 := h.renew hq k1
  generalize (if m.now % p = 0 then 0 else us) = us1 at *
  rcases k2 with ⟨pk, rfl, rfl⟩ | ⟨t, pk, rfl, q2⟩
  · refine ⟨h1.up1, .inl ⟨rfl, fun x hx ha => ?_⟩⟩
    cases hs : stop q fz us1 x
    · obtain ⟨t, e⟩ := pick_some h1.up1.sync pk (by omega) (h1.up1.seen hq hx ha hs)
      cases e
    · rfl
  · obtain ⟨rk, R, hG, h10⟩ := going_of h1.inv pk
    obtain ⟨y, rfl, hy, ha, hs⟩ := h1.up1.may hq hG.path h10 hG.lt
    have kp := pays_keep q2 hG
    have e : ((10 + y : Nat) : Int) - 10 = y := by omega
    rw [e]
    refine ⟨?_, .inr ⟨y, hy, rfl, ha, hs⟩⟩
    have h2 := h1.up1
    have hne : ∀ v, v ≠ 10 + y → ((Fr.payR (Fr.up1 m1) (10 + y)).u v).used = ((Fr.up1 m1).u v).used := fun v hv => (payR_tw hv).2.2.1
    have hus : (m'.u 1).used = usedTo us1 y := by
      have q3 := pays_up (by omega) q2
      rw [h2.grT hy] at q3
      unfold usedTo
      have ofp : ∀ x : M, (x.u 1).used = us1 → (x.u 1).quota = q → grp x 1 = 0 → Pays x 1 m' → (m'.u 1).used = us1 + 1 := fun x e1 e2 e3 k => by
        have k' := pays_up (by omega) k
        rw [e3] at k'
        rw [pays_root k', payR_self (by rw [e3]; omega)]
        show (if 0 < (x.u 1).quota then _ else _) = _
        rw [e2, if_pos hq, e1]
      have o1 := payR_other (m := Fr.up1 m1) (u := 10 + y) (v := 1) (by omega)
      have o2 := payR_other (m := Fr.up1 m1) (u := 10 + y) (v := 2) (by omega)
      have h3 : y % 3 = 0 ∨ y % 3 = 1 ∨ y % 3 = 2 := by omega
      rcases h3 with e | e | e
      · rw [if_neg (by omega)]
        rw [e] at q3
        rw [pays_root q3, o1]; exact h2.us1
      · rw [if_pos (by omega)]
        rw [e] at q3
        exact ofp _ (by rw [o1]; exact h2.us1) (by rw [o1]; exact h2.q1) (by rw [payR_grp]; exact h2.gr1) q3
      · rw [if_pos (by omega)]
        rw [e] at q3
        have q4 := pays_up (by omega) q3
        rw [payR_grp, h2.gr2] at q4
        have o3 := payR_other (m := Fr.payR (Fr.up1 m1) (10 + y)) (u := 2) (v := 1) (by omega)
        exact ofp _ (by rw [o3, o1]; exact h2.us1) (by rw [o3, o1]; exact h2.q1) (by rw [payR_grp, payR_grp]; exact h2.gr1) q4
    exact ⟨hIm.1, hSm, h2.n6, fun v v0 hv => by rw [(kp v).1]; exact h2.here v v0 hv, by rw [(kp 1).2.1]; exact h2.in1, by rw [(kp 2).2.1]; exact h2.in2, fun i hi => by rw [(kp _).2.1]; exact h2.inT i hi, by rw [(kp 1).2.2.2.2.2.1]; exact h2.q1, by rw [(kp 1).2.2.2.2.2.2]; exact h2.p1, fun v hv hv1 => by rw [(kp v).2.2.2.2.2.1]; exact h2.qn v hv hv1, fun i hi => by rw [(kp _).2.2.2.1]; exact h2.awE i hi, by rw [(kp 1).2.2.2.2.1]; exact h2.f1, by rw [(kp 2).2.2.2.2.1]; exact h2.f2, hus⟩

/-- The groups are there. -/
def mg : M := (m0.set 1 (Un.new 0 5)).set 2 (Un.new 1 5)
theorem qt_g1 : addGroupE m0 1 0 5 = 0 ∧ addGroupM m0 1 0 5 = m0.set 1 (Un.new 0 5) := ⟨by decide, by unfold addGroupM addM; rw [if_pos (by decide)]; rfl⟩
theorem qt_g2 : addGroupE (m0.set 1 (Un.new 0 5)) 2 1 5 = 0 ∧ addGroupM (m0.set 1 (Un.new 0 5)) 2 1 5 = mg := ⟨by decide, by unfold addGroupM addM; rw [if_pos (by decide)]; rfl⟩
theorem inv_g1 : Inv (m0.set 1 (Un.new 0 5)) := by rw [← qt_g1.2]; exact inv0.addGroup _ _ _
theorem inv_g2 : Inv mg := by rw [← qt_g2.2]; exact inv_g1.addGroup _ _ _
theorem mg_ne (v : Nat) (h1 : v ≠ 1) (h2 : v ≠ 2) : mg.u v = m0.u v := by unfold mg; rw [set_ne _ _ _ _ h2, set_ne _ _ _ _ h1]
theorem mg_1 : mg.u 1 = Un.new 0 5 := by unfold mg; rw [set_ne _ _ _ _ (by omega), set_same]
theorem mg_2 : mg.u 2 = Un.new 1 5 := by unfold mg; rw [set_same]
theorem qt_mg : Qt mg 0 0 0 (fun _ => false) (fun _ => false) 0 := by
  have s1 : Sync (m0.set 1 (Un.new ((0 : Nat) : Int) 5)) := Sync.add inv0 sync0 (by omega) rfl
  have s2 : Sync ((m0.set 1 (Un.new 0 5)).set 2 (Un.new ((1 : Nat) : Int) 5)) := Sync.add inv_g1 s1 (by omega) (by rw [set_ne _ _ _ _ (by omega), m0_ne _ (by omega)]; rfl)
  refine ⟨inv_g2, s2, by omega, fun v v0 hv => ?_, by rw [mg_1]; rfl, by rw [mg_2]; rfl, fun i hi => by omega, by rw [mg_1]; rfl, by rw [mg_1]; rfl, fun v hv hv1 => ?_, fun i hi => by omega, by rw [mg_1]; rfl, by rw [mg_2]; rfl, by rw [mg_1]; rfl⟩
  · by_cases e1 : v = 1
    · rw [e1, mg_1]; exact ⟨fun _ => .inl rfl, fun _ => rfl⟩
    · by_cases e2 : v = 2
      · rw [e2, mg_2]; exact ⟨fun _ => .inr (.inl rfl), fun _ => rfl⟩
      · rw [mg_ne v e1 e2, m0_ne v (by omega)]
        exact ⟨fun c => (by cases c), fun c => (by omega)⟩
  · by_cases e2 : v = 2
    · rw [e2, mg_2]; rfl
    · rw [mg_ne v hv1 e2]
      by_cases e0 : v = 0
      · rw [e0]; rfl
      · rw [m0_ne v e0]; rfl
theorem qt_quota {q p : Int} (k : QuotaTo mg 1 q p m') : (quotaE mg 1 q p = 0 ∧ 0 ≤ q ∧ q ≤ p ∧ 1 ≤ p ∧ p ≤ 100 ∧ Qt m' 0 q.toNat p.toNat (fun _ => false) (fun _ => false) 0 ∧ m'.now = 0) ∨ (quotaE mg 1 q p = 1 ∧ (q < 0 ∨ p < q ∨ p < 1 ∨ 100 < p)) := by
  have hl : lowerE mg 1 = 0 := lowerE_nat (n := 1) (by omega) (by omega) (by rw [mg_1]; rfl)
  rcases k with ⟨k1, k2⟩ | ⟨k1, _⟩
  · obtain ⟨_, hq⟩ := quotaE_zero k1
    refine .inl ⟨k1, hq.1, hq.2.1, hq.2.2.1, hq.2.2.2, ?_, (look_here k2).1⟩
    have hh := qt_mg.h1
    refine qt_mg.look (by omega) hh (quota_turn qt_mg.inv (by omega) (by omega) hh hq) rfl k2 _ _ _ _ _ (fun i hi => by omega) ?_ ?_ ?_ ?_ (fun e => absurd rfl e)
    · rw [set_same]; exact qt_mg.f1
    · rw [set_ne _ _ _ _ (by decide)]; exact qt_mg.f2
    · rw [set_same]
    · rw [set_same]; exact ⟨rfl, rfl⟩
  · right
    unfold quotaE at k1 ⊢
    rw [if_pos hl] at k1 ⊢
    by_cases c : q < 0 ∨ p < q ∨ p < 1 ∨ 100 < p
    · rw [if_pos c]; exact ⟨rfl, c⟩
    · rw [if_neg c] at k1; exact absurd rfl k1
/-- One more task. -/
theorem Qt.add (h : Qt m n q p (fun _ => false) fz us) (hn : n < 6) : addTaskE m n ((n % 3 : Nat) : Int) ((10 + n : Nat) : Int) = 0 ∧ Qt (addTaskM m n ((n % 3 : Nat) : Int) ((10 + n : Nat) : Int)) (n + 1) q p (fun _ => false) fz us ∧ (addTaskM m n ((n % 3 : Nat) : Int) ((10 + n : Nat) : Int)).now = m.now := by
  have hI := h.inv.addTask n ((n % 3 : Nat) : Int) ((10 + n : Nat) : Int)
  have hno : (m.u (10 + n)).here = false := by
    cases hc : (m.u (10 + n)).here
    · rfl
    · have := (h.here (10 + n) (by omega) (by omega)).1 hc; omega
  have hgh : (m.u (n % 3)).here = true := by
    have h3 : n % 3 = 0 ∨ n % 3 = 1 ∨ n % 3 = 2 := by omega
    rcases h3 with e | e | e
    · rw [e]; exact h.inv.root
    · rw [e]; exact h.h1
    · rw [e]; exact h.h2
  have he : addTaskE m n ((n % 3 : Nat) : Int) ((10 + n : Nat) : Int) = 0 := by
    unfold addTaskE addE
    rw [if_neg (by omega), if_neg (by omega), Int.toNat_natCast, hno]
    exact groupE_nat (by omega) hgh
  refine ⟨he, ?_, ?_⟩
  · unfold addTaskM addM at *
    rw [if_pos he, Int.toNat_natCast, Int.toNat_natCast] at *
    have hS : Sync (m.set (10 + n) (Un.new ((n % 3 : Nat) : Int) (10 + n))) := Sync.add h.inv h.sync (by omega) hno
    have hne : ∀ v, v ≠ 10 + n → (m.set (10 + n) (Un.new ((n % 3 : Nat) : Int) (10 + n))).u v = m.u v := fun v hv => set_ne _ _ _ _ hv
    have hsf : (m.set (10 + n) (Un.new ((n % 3 : Nat) : Int) (10 + n))).u (10 + n) = Un.new ((n % 3 : Nat) : Int) (10 + n) := set_same _ _ _
    refine ⟨hI, hS, by omega, fun v v0 hv => ?_, by rw [hne _ (by omega)]; exact h.in1, by rw [hne _ (by omega)]; exact h.in2, fun i hi => ?_, by rw [hne _ (by omega)]; exact h.q1, by rw [hne _ (by omega)]; exact h.p1, fun v hv hv1 => by rw [hne _ (by omega)]; exact h.qn v hv hv1, fun i hi => ?_, by rw [hne _ (by omega)]; exact h.f1, by rw [hne _ (by omega)]; exact h.f2, by rw [hne _ (by omega)]; exact h.us1⟩
    · by_cases e : v = 10 + n
      · rw [e, hsf]; exact ⟨fun _ => .inr (.inr ⟨by omega, by omega⟩), fun _ => rfl⟩
      · rw [hne v e, h.here v v0 hv]; omega
    · by_cases e : i = n
      · rw [e, hsf]; rfl
      · rw [hne _ (by omega)]; exact h.inT i (by omega)
    · by_cases e : i = n
      · rw [e, hsf]; rfl
      · rw [hne _ (by omega)]; exact h.awE i (by omega)
  · unfold addTaskM addM; rw [if_pos he]; rfl
end
end Fr
end Go.Proofs.Ytkbfmjdfhacikaa

import Derived.Below
import Derived.Deep.RegionHeld3
import Derived.Test.YtghogbngmcolmaaGreatSat
namespace Go.Proofs.YtghogbngmcolmaaGreat.Fa
namespace Fr
structure Un where
  here : Bool
  awake : Bool
  frozen : Bool
  was : Bool
  inn : Int
  weight : Nat
  ran : Nat
  time : Nat
  floor : Nat
  quota : Nat
  period : Nat
  used : Nat
def Un.no : Un := ⟨false, false, false, false, 0, 0, 0, 0, 0, 0, 0, 0⟩
def Un.new (g : Int) (wt : Nat) : Un := ⟨true, false, false, false, g, wt, 0, 0, 0, 0, 0, 0⟩
structure M where
  u : Nat → Un
  now : Nat
def M.set (m : M) (k : Nat) (x : Un) : M := { m with u := fun j => if j = k then x else m.u j }
theorem set_now (m : M) (k : Nat) (x : Un) : (m.set k x).now = m.now := rfl
theorem set_same (m : M) (k : Nat) (x : Un) : (m.set k x).u k = x := by simp [M.set]
theorem set_ne (m : M) (k j : Nat) (x : Un) (h : j ≠ k) : (m.set k x).u j = m.u j := by simp [M.set, h]
theorem set_set (m : M) (k : Nat) (x y : Un) : (m.set k x).set k y = m.set k y := by
  unfold M.set; congr 1; funext j; by_cases h : j = k <;> simp [h]
def kidB (m : M) (g i : Nat) : Bool := decide (0 < i) && (m.u i).here && decide ((m.u i).inn = (g : Int)) && (m.u i).was
def hasKid (m : M) (g : Nat) : Bool := (List.range 30).any (kidB m g)
def mayB (x : Un) : Bool := !x.frozen && (decide (x.quota = 0) || decide (x.used < x.quota))
def ready (m : M) (u : Nat) : Bool := if 10 ≤ u then (m.u u).awake else hasKid m u && mayB (m.u u)
def grp (m : M) (u : Nat) : Nat := (m.u u).inn.toNat
def lineU (m : M) (u : Nat) : Un := { m.u u with was := ready m u, time := if ready m u && !(m.u u).was then max (m.u u).time (m.u (grp m u)).floor else (m.u u).time }
def line (m : M) (u : Nat) : M := m.set u (lineU m u)
def LookN : Nat → M → Nat → M → Prop
  | 0, m, u, m' => u = 0 ∧ m' = m
  | n + 1, m, u, m' => (u = 0 ∧ m' = m) ∨ (u ≠ 0 ∧ LookN n (line m u) (grp m u) m')
def Look (m : M) (u : Nat) (m' : M) : Prop := ∃ n, LookN n m u m'
theorem Look.root (m : M) : Look m 0 m := ⟨0, rfl, rfl⟩
theorem Look.up {m m' : M} {u : Nat} (h : u ≠ 0) (k : Look (line m u) (grp m u) m') : Look m u m' := by
  obtain ⟨n, k⟩ := k
  exact ⟨n + 1, .inr ⟨h, k⟩⟩
theorem Look.ind {motive : (m : M) → (u : Nat) → (m' : M) → Look m u m' → Prop} (root : ∀ m, motive m 0 m (Look.root m))
    (up : ∀ {m m' : M} {u : Nat} (h : u ≠ 0) (k : Look (line m u) (grp m u) m'), motive _ _ _ k → motive m u m' (Look.up h k)) {m : M} {u : Nat} {m' : M} (k : Look m u m') : motive m u m' k := by
  obtain ⟨n, k⟩ := k
  induction n generalizing m u m' with
  | zero => obtain ⟨rfl, rfl⟩ := k; exact root m'
  | succ n ih =>
    rcases k with ⟨rfl, rfl⟩ | ⟨h, k⟩
    · exact root m'
    · exact up h ⟨n, k⟩ (ih k)
theorem kidB_iff {m : M} {g i : Nat} : kidB m g i = true ↔ 0 < i ∧ (m.u i).here = true ∧ (m.u i).inn = (g : Int) ∧ (m.u i).was = true := by
  simp [kidB, and_assoc]
theorem hasKid_iff {m : M} {g : Nat} : hasKid m g = true ↔ ∃ i, i < 30 ∧ kidB m g i = true := by
  simp [hasKid, List.any_eq_true]
def payF (m : M) (u : Nat) : M := m.set (grp m u) { m.u (grp m u) with floor := max (m.u (grp m u)).floor (m.u u).time }
def payU (u : Nat) (x : Un) : Un := { x with time := x.time + 1048576 / x.weight, used := if 0 < x.quota then x.used + 1 else x.used, ran := if u < 10 then x.ran + 1 else x.ran }
def payT (m : M) (u : Nat) : M := (payF m u).set u (payU u ((payF m u).u u))
def setWas (m : M) (u : Nat) (b : Bool) : M := m.set u { m.u u with was := b }
def payC (m : M) (u : Nat) : M := setWas (payT m u) u (ready (payT m u) u)
def ranUp (m : M) (u : Nat) : M := if 10 ≤ u then m.set u { m.u u with ran := (m.u u).ran + 1 } else m
def payR (m : M) (u : Nat) : M := payC (ranUp m u) u
def PaysN : Nat → M → Nat → M → Prop
  | 0, m, u, m' => u = 0 ∧ m' = m
  | n + 1, m, u, m' => (u = 0 ∧ m' = m) ∨ (u ≠ 0 ∧ PaysN n (payR m u) (grp m u) m')
def Pays (m : M) (u : Nat) (m' : M) : Prop := ∃ n, PaysN n m u m'
theorem Pays.root (m : M) : Pays m 0 m := ⟨0, rfl, rfl⟩
theorem Pays.up {m m' : M} {u : Nat} (h : u ≠ 0) (k : Pays (payR m u) (grp m u) m') : Pays m u m' := by
  obtain ⟨n, k⟩ := k
  exact ⟨n + 1, .inr ⟨h, k⟩⟩
theorem Pays.ind {motive : (m : M) → (u : Nat) → (m' : M) → Pays m u m' → Prop} (root : ∀ m, motive m 0 m (Pays.root m))
    (up : ∀ {m m' : M} {u : Nat} (h : u ≠ 0) (k : Pays (payR m u) (grp m u) m'), motive _ _ _ k → motive m u m' (Pays.up h k)) {m : M} {u : Nat} {m' : M} (k : Pays m u m') : motive m u m' k := by
  obtain ⟨n, k⟩ := k
  induction n generalizing m u m' with
  | zero => obtain ⟨rfl, rfl⟩ := k; exact root m'
  | succ n ih =>
    rcases k with ⟨rfl, rfl⟩ | ⟨h, k⟩
    · exact root m'
    · exact up h ⟨n, k⟩ (ih k)
theorem Pays.inv {m m' : M} {u : Nat} (k : Pays m u m') : (u = 0 ∧ m' = m) ∨ (u ≠ 0 ∧ Pays (payR m u) (grp m u) m') := by
  induction k using Pays.ind with
  | root m => exact .inl ⟨rfl, rfl⟩
  | up h k _ => exact .inr ⟨h, k⟩
structure Best (m : M) (g v : Nat) : Prop where
  lt : v < 30
  kid : kidB m g v = true
  least : ∀ i, i < 30 → kidB m g i = true → (m.u v).time < (m.u i).time ∨ ((m.u v).time = (m.u i).time ∧ v ≤ i)
def PickN (m : M) : Nat → Nat → Option Nat → Prop
  | 0, g, r => (g < 10 ∧ hasKid m g = false ∧ r = none) ∨ (10 ≤ g ∧ r = some g)
  | n + 1, g, r => (g < 10 ∧ hasKid m g = false ∧ r = none) ∨ (10 ≤ g ∧ r = some g) ∨ (g < 10 ∧ ∃ v, Best m g v ∧ PickN m n v r)
def Pick (m : M) (g : Nat) (r : Option Nat) : Prop := ∃ n, PickN m n g r
theorem Pick.none {m : M} {g : Nat} (h : g < 10) (k : hasKid m g = false) : Pick m g none := ⟨0, .inl ⟨h, k, rfl⟩⟩
theorem Pick.task {m : M} {u : Nat} (h : 10 ≤ u) : Pick m u (some u) := ⟨0, .inr ⟨h, rfl⟩⟩
theorem Pick.down {m : M} {g v : Nat} {r : Option Nat} (h : g < 10) (k : Best m g v) (p : Pick m v r) : Pick m g r := by
  obtain ⟨n, p⟩ := p
  exact ⟨n + 1, .inr (.inr ⟨h, v, k, p⟩)⟩
theorem Pick.ind {m : M} {motive : (g : Nat) → (r : Option Nat) → Pick m g r → Prop} (none : ∀ {g : Nat} (h : g < 10) (k : hasKid m g = false), motive g .none (Pick.none h k)) (task : ∀ {u : Nat} (h : 10 ≤ u), motive u (some u) (Pick.task h))
    (down : ∀ {g v : Nat} {r : Option Nat} (h : g < 10) (k : Best m g v) (p : Pick m v r), motive v r p → motive g r (Pick.down h k p)) {g : Nat} {r : Option Nat} (k : Pick m g r) : motive g r k := by
  obtain ⟨n, k⟩ := k
  induction n generalizing g r with
  | zero =>
    rcases k with ⟨h, k, rfl⟩ | ⟨h, rfl⟩
    · exact none h k
    · exact task h
  | succ n ih =>
    rcases k with ⟨h, k, rfl⟩ | ⟨h, rfl⟩ | ⟨h, v, b, k⟩
    · exact none h k
    · exact task h
    · exact down h b ⟨n, k⟩ (ih k)
theorem Pick.inv {m : M} {g : Nat} {r : Option Nat} (k : Pick m g r) : (g < 10 ∧ hasKid m g = false ∧ r = .none) ∨ (10 ≤ g ∧ r = some g) ∨ (g < 10 ∧ ∃ v, Best m g v ∧ Pick m v r) := by
  induction k using Pick.ind with
  | none h k => exact .inl ⟨h, k, rfl⟩
  | task h => exact .inr (.inl ⟨h, rfl⟩)
  | down h k p _ => exact .inr (.inr ⟨h, _, k, p⟩)
def RStep (m : M) (n : Nat) (m1 : M) : Prop := (0 < (m.u n).quota ∧ m.now % (m.u n).period = 0 ∧ Look (m.set n { m.u n with used := 0 }) n m1) ∨ (¬ (0 < (m.u n).quota ∧ m.now % (m.u n).period = 0) ∧ m1 = m)
def RenewN : Nat → M → Nat → M → Prop
  | 0, m, n, m' => n = 10 ∧ m' = m
  | k + 1, m, n, m' => (n = 10 ∧ m' = m) ∨ (n < 10 ∧ ∃ m1, RStep m n m1 ∧ RenewN k m1 (n + 1) m')
def Renew (m : M) (n : Nat) (m' : M) : Prop := ∃ k, RenewN k m n m'
theorem Renew.done (m : M) : Renew m 10 m := ⟨0, rfl, rfl⟩
theorem Renew.step {m m1 m' : M} {n : Nat} (h : n < 10) (k : RStep m n m1) (r : Renew m1 (n + 1) m') : Renew m n m' := by
  obtain ⟨i, r⟩ := r
  exact ⟨i + 1, .inr ⟨h, m1, k, r⟩⟩
theorem Renew.ind {motive : (m : M) → (n : Nat) → (m' : M) → Renew m n m' → Prop} (done : ∀ m, motive m 10 m (Renew.done m))
    (step : ∀ {m m1 m' : M} {n : Nat} (h : n < 10) (k : RStep m n m1) (r : Renew m1 (n + 1) m'), motive _ _ _ r → motive m n m' (Renew.step h k r)) {m : M} {n : Nat} {m' : M} (k : Renew m n m') : motive m n m' k := by
  obtain ⟨i, k⟩ := k
  induction i generalizing m n m' with
  | zero => obtain ⟨rfl, rfl⟩ := k; exact done m'
  | succ i ih =>
    rcases k with ⟨rfl, rfl⟩ | ⟨h, m1, k, r⟩
    · exact done m'
    · exact step h k ⟨i, r⟩ (ih r)
def up1 (m : M) : M := { m with now := m.now + 1 }
def Tick (m : M) (r : Int) (m' : M) : Prop := ∃ m1, Renew m 0 m1 ∧ ((Pick (up1 m1) 0 none ∧ r = -1 ∧ m' = up1 m1) ∨ ∃ t : Nat, Pick (up1 m1) 0 (some t) ∧ r = (t : Int) - 10 ∧ Pays (up1 m1) t m')
structure Rank (m : M) (rk : Nat → Nat) (R : Nat) : Prop where
  le : ∀ u, u < 30 → rk u ≤ R
  up : ∀ u, 0 < u → u < 30 → (m.u u).here = true → ∃ g : Nat, g < 10 ∧ (m.u u).inn = (g : Int) ∧ (m.u g).here = true ∧ rk g < rk u
structure Inv (m : M) : Prop where
  root : (m.u 0).here = true
  tree : ∃ rk R, Rank m rk R
  no : ∀ u, u < 30 → (m.u u).here = false → m.u u = Un.no
  quo : ∀ u, u < 30 → 0 < (m.u u).quota → 0 < u ∧ u < 10 ∧ 0 < (m.u u).period
  per : ∀ u, u < 30 → (m.u u).quota ≤ 100 ∧ (m.u u).period ≤ 100
  wt : ∀ u, 0 < u → u < 30 → (m.u u).here = true → 1 ≤ (m.u u).weight ∧ (m.u u).weight ≤ 1000
  fl : ∀ u, 0 < u → u < 30 → (m.u u).here = true → (m.u u).was = true → (m.u (grp m u)).floor ≤ (m.u u).time
  tm : ∀ u, u < 30 → (m.u u).time ≤ m.now * 1048576 ∧ (m.u u).floor ≤ m.now * 1048576 ∧ (m.u u).used ≤ m.now ∧ (m.u u).ran ≤ m.now
theorem Inv.grp {m : M} (h : Inv m) {u : Nat} (h0 : 0 < u) (hu : u < 30) (hh : (m.u u).here = true) : Fr.grp m u < 10 ∧ (m.u u).inn = (Fr.grp m u : Int) ∧ (m.u (Fr.grp m u)).here = true ∧ Fr.grp m u ≠ u := by
  obtain ⟨rk, R, hR⟩ := h.tree
  obtain ⟨g, h1, h2, h3, h4⟩ := hR.up u h0 hu hh
  have e : Fr.grp m u = g := by unfold Fr.grp; rw [h2]; rfl
  rw [e]
  exact ⟨h1, h2, h3, fun k => by rw [k] at h4; omega⟩
structure Turn (m : M) (u : Nat) (x : Un) : Prop where
  here : x.here = true
  inn : x.inn = (m.u u).inn
  weight : x.weight = (m.u u).weight
  floor : x.floor = (m.u u).floor
  quo : 0 < x.quota → 0 < u ∧ u < 10 ∧ 0 < x.period
  per : x.quota ≤ 100 ∧ x.period ≤ 100
  fl : 0 < u → x.was = true → (m.u (Fr.grp m u)).floor ≤ x.time
  tm : x.time ≤ m.now * 1048576 ∧ x.used ≤ m.now ∧ x.ran ≤ m.now
theorem grp_set {m : M} {u : Nat} {x : Un} (h : x.inn = (m.u u).inn) (v : Nat) : grp (m.set u x) v = grp m v := by
  unfold grp
  by_cases e : v = u
  · rw [e, set_same, h]
  · rw [set_ne _ _ _ _ e]
theorem here_set {m : M} {u : Nat} {x : Un} (h : x.here = (m.u u).here) (v : Nat) : ((m.set u x).u v).here = (m.u v).here := by
  by_cases e : v = u
  · rw [e, set_same, h]
  · rw [set_ne _ _ _ _ e]
theorem floor_set {m : M} {u : Nat} {x : Un} (h : x.floor = (m.u u).floor) (v : Nat) : ((m.set u x).u v).floor = (m.u v).floor := by
  by_cases e : v = u
  · rw [e, set_same, h]
  · rw [set_ne _ _ _ _ e]
theorem inn_set {m : M} {u : Nat} {x : Un} (h : x.inn = (m.u u).inn) (v : Nat) : ((m.set u x).u v).inn = (m.u v).inn := by
  by_cases e : v = u
  · rw [e, set_same, h]
  · rw [set_ne _ _ _ _ e]
theorem Rank.turn {m m' : M} {rk : Nat → Nat} {R : Nat} (h : Rank m rk R) (hh : ∀ v, (m'.u v).here = (m.u v).here) (hi : ∀ v, (m'.u v).inn = (m.u v).inn) : Rank m' rk R :=
  ⟨h.le, fun v h0 hv hv' => by
    rw [hh] at hv'
    obtain ⟨g, h1, h2, h3, h4⟩ := h.up v h0 hv hv'
    exact ⟨g, h1, by rw [hi]; exact h2, by rw [hh]; exact h3, h4⟩⟩
theorem Inv.turn {m : M} (h : Inv m) {u : Nat} (hu : u < 30) (hh : (m.u u).here = true) {x : Un} (t : Turn m u x) : Inv (m.set u x) := by
  have hhe : ∀ v, ((m.set u x).u v).here = (m.u v).here := here_set (t.here.trans hh.symm)
  have hg : ∀ v, Fr.grp (m.set u x) v = Fr.grp m v := grp_set t.inn
  have hf : ∀ v, ((m.set u x).u v).floor = (m.u v).floor := floor_set t.floor
  refine ⟨by rw [hhe]; exact h.root, ?_, fun v hv hn => ?_, fun v hv hq => ?_, fun v hv => ?_, fun v h0 hv hv' => ?_, fun v h0 hv hv' hw => ?_, fun v hv => ?_⟩
  · obtain ⟨rk, R, hR⟩ := h.tree
    exact ⟨rk, R, hR.turn hhe (inn_set t.inn)⟩
  · rw [hhe] at hn
    have : v ≠ u := fun e => by rw [e, hh] at hn; cases hn
    rw [set_ne _ _ _ _ this]; exact h.no v hv hn
  · by_cases e : v = u
    · subst e; rw [set_same] at hq ⊢; exact t.quo hq
    · rw [set_ne _ _ _ _ e] at hq ⊢; exact h.quo v hv hq
  · by_cases e : v = u
    · subst e; rw [set_same]; exact t.per
    · rw [set_ne _ _ _ _ e]; exact h.per v hv
  · rw [hhe] at hv'
    have := h.wt v h0 hv hv'
    by_cases e : v = u
    · subst e; rw [set_same, t.weight]; exact this
    · rw [set_ne _ _ _ _ e]; exact this
  · rw [hg, hf]
    rw [hhe] at hv'
    by_cases e : v = u
    · subst e; rw [set_same] at hw ⊢; exact t.fl h0 hw
    · rw [set_ne _ _ _ _ e] at hw ⊢; exact h.fl v h0 hv hv' hw
  · rw [set_now]
    by_cases e : v = u
    · subst e; rw [set_same]; exact ⟨t.tm.1, by rw [t.floor]; exact (h.tm v hv).2.1, t.tm.2.1, t.tm.2.2⟩
    · rw [set_ne _ _ _ _ e]; exact h.tm v hv
theorem Turn.of {m : M} (h : Inv m) {u : Nat} (hu : u < 30) (hh : (m.u u).here = true) : Turn m u (m.u u) :=
  ⟨hh, rfl, rfl, rfl, h.quo u hu, h.per u hu, fun h0 hw => h.fl u h0 hu hh hw, (h.tm u hu).1, (h.tm u hu).2.2⟩
theorem line_turn {m : M} (h : Inv m) {u : Nat} (h0 : 0 < u) (hu : u < 30) (hh : (m.u u).here = true) : Turn m u (lineU m u) := by
  have g := h.grp h0 hu hh
  have t := h.tm u hu
  have tg := h.tm (Fr.grp m u) (by omega)
  have f := h.fl u h0 hu hh
  refine ⟨hh, rfl, rfl, rfl, h.quo u hu, h.per u hu, fun _ hw => ?_, ?_, t.2.2.1, t.2.2.2⟩
  · have hw' : ready m u = true := hw
    show _ ≤ if ready m u && !(m.u u).was then max (m.u u).time (m.u (Fr.grp m u)).floor else (m.u u).time
    cases hb : (m.u u).was
    · simp [hw']; omega
    · simp; exact f hb
  · show (if ready m u && !(m.u u).was then max (m.u u).time (m.u (Fr.grp m u)).floor else (m.u u).time) ≤ _
    split <;> omega
theorem Inv.line {m : M} (h : Inv m) {u : Nat} (h0 : 0 < u) (hu : u < 30) (hh : (m.u u).here = true) : Inv (line m u) := h.turn hu hh (line_turn h h0 hu hh)
theorem line_here (m : M) (u v : Nat) : ((line m u).u v).here = (m.u v).here := here_set (m := m) (x := lineU m u) rfl v
theorem line_inn (m : M) (u v : Nat) : ((line m u).u v).inn = (m.u v).inn := inn_set (m := m) (x := lineU m u) rfl v
theorem line_grp (m : M) (u v : Nat) : grp (line m u) v = grp m v := grp_set (m := m) (x := lineU m u) rfl v
theorem look_here {m m' : M} {u : Nat} (k : Look m u m') : m'.now = m.now ∧ ∀ v, (m'.u v).here = (m.u v).here ∧ (m'.u v).inn = (m.u v).inn := by
  induction k using Look.ind with
  | root m => exact ⟨rfl, fun v => ⟨rfl, rfl⟩⟩
  | up h0 _ ih => exact ⟨ih.1, fun v => ⟨(ih.2 v).1.trans (line_here _ _ _), (ih.2 v).2.trans (line_inn _ _ _)⟩⟩
theorem Inv.look {m m' : M} {u : Nat} (k : Look m u m') : Inv m → u < 30 → (m.u u).here = true → Inv m' := by
  induction k using Look.ind with
  | root m => exact fun h _ _ => h
  | up h0 _ ih =>
    intro h hu hh
    have g := h.grp (by omega) hu hh
    exact ih (h.line (by omega) hu hh) (by omega) (by rw [line_here]; exact g.2.2.1)
theorem Inv.payF {m : M} (h : Inv m) {u : Nat} (h0 : 0 < u) (hu : u < 30) (hh : (m.u u).here = true)
    (hl : ∀ v, 0 < v → v < 30 → (m.u v).here = true → Fr.grp m v = Fr.grp m u → (m.u v).was = true → (m.u u).time ≤ (m.u v).time) : Inv (payF m u) := by
  have g := h.grp h0 hu hh
  obtain ⟨k, hk⟩ : ∃ k, Fr.grp m u = k := ⟨_, rfl⟩
  unfold Fr.payF
  rw [hk] at g hl ⊢
  obtain ⟨x, hx⟩ : ∃ x : Un, { m.u k with floor := max (m.u k).floor (m.u u).time } = x := ⟨_, rfl⟩
  rw [hx]
  have e1 : x.here = (m.u k).here := by rw [← hx]
  have e2 : x.inn = (m.u k).inn := by rw [← hx]
  have hhe := here_set (m := m) e1
  have hgr := grp_set (m := m) e2
  refine ⟨by rw [hhe]; exact h.root, ?_, fun v hv hn => ?_, fun v hv hq => ?_, fun v hv => ?_, fun v h0 hv hv' => ?_, fun v h0' hv hv' hw => ?_, fun v hv => ?_⟩
  · obtain ⟨rk, R, hR⟩ := h.tree
    exact ⟨rk, R, hR.turn hhe (inn_set e2)⟩
  · rw [hhe] at hn
    have : v ≠ k := fun e => by rw [e, g.2.2.1] at hn; cases hn
    rw [set_ne _ _ _ _ this]; exact h.no v hv hn
  · by_cases e : v = k
    · subst e; rw [set_same, ← hx] at hq ⊢; exact h.quo v hv hq
    · rw [set_ne _ _ _ _ e] at hq ⊢; exact h.quo v hv hq
  · by_cases e : v = k
    · subst e; rw [set_same, ← hx]; exact h.per v hv
    · rw [set_ne _ _ _ _ e]; exact h.per v hv
  · rw [hhe] at hv'
    by_cases e : v = k
    · subst e; rw [set_same, ← hx]; exact h.wt v h0 hv hv'
    · rw [set_ne _ _ _ _ e]; exact h.wt v h0 hv hv'
  · rw [hgr]
    rw [hhe] at hv'
    have hw' : (m.u v).was = true := by
      by_cases e : v = k
      · subst e; rw [set_same, ← hx] at hw; exact hw
      · rw [set_ne _ _ _ _ e] at hw; exact hw
    have ht : ((m.set k x).u v).time = (m.u v).time := by
      by_cases e : v = k
      · subst e; rw [set_same, ← hx]
      · rw [set_ne _ _ _ _ e]
    have hf := h.fl v h0' hv hv' hw'
    rw [ht]
    by_cases e : Fr.grp m v = k
    · rw [e, set_same, ← hx]
      have := hl v h0' hv hv' e hw'
      rw [e] at hf
      show max _ _ ≤ _
      omega
    · rw [set_ne _ _ _ _ e]; exact hf
  · rw [set_now]
    by_cases e : v = k
    · subst e; rw [set_same, ← hx]
      have tv := h.tm v hv
      have tu := h.tm u hu
      exact ⟨tv.1, Nat.max_le.2 ⟨tv.2.1, tu.1⟩, tv.2.2⟩
    · rw [set_ne _ _ _ _ e]; exact h.tm v hv
end Fr
end Go.Proofs.YtghogbngmcolmaaGreat.Fa
namespace Go.Proofs.YtghogbngmcolmaaGreat.Fa
open Go.RowKit
open Hp (Q)
open Fr (Un M)
structure Frm (b : Nat) (w w' : World) : Prop where
  os : w'.os = w.os
  tape : w'.tape = w.tape
  output : w'.output = w.output
  size : w.heap.size ≤ w'.heap.size
  block : ∀ k, k < w.heap.size → k ≠ b → w'.heap[k]? = w.heap[k]?
theorem Frm.of_below {b : Nat} {w w' : World} (h : Below w.heap.size w w') : Frm b w w' := ⟨h.os, h.tape, h.output, h.size, fun k hk _ => h.block k hk⟩
theorem Frm.refl (b : Nat) (w : World) : Frm b w w := ⟨rfl, rfl, rfl, Nat.le_refl _, fun _ _ _ => rfl⟩
theorem Frm.trans {b : Nat} {u v w : World} (h : Frm b u v) (k : Frm b v w) : Frm b u w :=
  ⟨k.os.trans h.os, k.tape.trans h.tape, k.output.trans h.output, Nat.le_trans h.size k.size, fun j hj hn => (k.block j (Nat.lt_of_lt_of_le hj h.size) hn).trans (h.block j hj hn)⟩
theorem setBlk {W : World} (b c o : Nat) (v : Value) (h : b ≠ c) : (W.setCell ⟨c, o, none⟩ v).heap[b]? = W.heap[b]? := Below.heap_setCell _ _ _ _ h
theorem Frm.setCell {b : Nat} {u w : World} (h : Frm b u w) (o : Nat) (v : Value) : Frm b u (w.setCell ⟨b, o, none⟩ v) :=
  ⟨h.os, h.tape, h.output, by simpa [World.setCell] using h.size, fun k hk hn => (setBlk _ _ _ _ hn).trans (h.block k hk hn)⟩
theorem Frm.drew {b : Nat} {u w : World} (h : Frm b u w) : Frm b u w.drew := ⟨h.os, h.tape, h.output, h.size, h.block⟩
theorem Frm.drewN {b : Nat} {u w : World} (h : Frm b u w) (n : Nat) : Frm b u (w.drewN n) := ⟨h.os, h.tape, h.output, h.size, h.block⟩
theorem Only.frm {b o : Nat} {w w' : World} (h : Only b o w w') : Frm b w w' := ⟨h.os, h.tape, h.output, by rw [h.size]; exact Nat.le_refl _, fun k _ hn => h.block k hn⟩
def unitC (u : Nat) (x : Un) : Nat → Value
  | 0 => .bool x.here
  | 1 => .int .i64 x.inn
  | 2 => .int .u64 ((if u = 0 then 0 else x.weight : Nat) : Int)
  | _ => .int .u64 (x.time : Int)
def grpC (x : Un) : Nat → Value
  | 0 => .int .u64 (x.floor : Int)
  | 1 => .bool x.frozen
  | 2 => .int .i64 (x.quota : Int)
  | 3 => .int .i64 (x.period : Int)
  | _ => .int .i64 (x.used : Int)
def taskC (x : Un) : Nat → Value
  | 0 => .bool x.awake
  | _ => .int .i64 (x.ran : Int)
structure SAt (w : World) (b : Nat) (m : M) (qs : Nat → Q) : Prop where
  blk : ∃ C, w.heap[b]? = some (.cells C 174 (0, 0)) ∧ C.size = 2141
  now : w.cell? ⟨b, 0, none⟩ = some (.int .i64 (m.now : Int))
  unit : ∀ u f, u < 30 → f < 4 → w.cell? ⟨b, 1 + u * 4 + f, none⟩ = some (unitC u (m.u u) f)
  que : ∀ g i, g < 10 → i < 193 → w.cell? ⟨b, 121 + g * 198 + i, none⟩ = (enc (qs g))[i]?
  grp : ∀ g f, g < 10 → f < 5 → w.cell? ⟨b, 121 + g * 198 + (193 + f), none⟩ = some (grpC (m.u g) f)
  task : ∀ n f, n < 20 → f < 2 → w.cell? ⟨b, 2101 + n * 2 + f, none⟩ = some (taskC (m.u (10 + n)) f)
theorem cell_blk {w : World} {b : Nat} {C : Array Value} {T : TypeId} (h : w.heap[b]? = some (.cells C T (0, 0))) (o : Nat) : w.cell? ⟨b, o, none⟩ = C[o]? := by simp [World.cell?, h]
theorem frozen_blk {w : World} {b : Nat} {C : Array Value} {T : TypeId} (h : w.heap[b]? = some (.cells C T (0, 0))) (o : Nat) : w.frozen? ⟨b, o, none⟩ = false := by simp [World.frozen?, h]
theorem cell_set_ne {w : World} {b : Nat} {C : Array Value} {T : TypeId} (h : w.heap[b]? = some (.cells C T (0, 0))) (i j : Nat) (v : Value) (e : i ≠ j) : (w.setCell ⟨b, i, none⟩ v).cell? ⟨b, j, none⟩ = w.cell? ⟨b, j, none⟩ := by
  rw [cell_blk (blk_set h i v), cell_blk h, Array.getElem?_setIfInBounds_ne e]
theorem cell_set_same {w : World} {b : Nat} {C : Array Value} {T : TypeId} (h : w.heap[b]? = some (.cells C T (0, 0))) (i : Nat) (v : Value) (hi : i < C.size) : (w.setCell ⟨b, i, none⟩ v).cell? ⟨b, i, none⟩ = some v := by
  rw [cell_blk (blk_set h i v), Array.getElem?_setIfInBounds_self_of_lt hi]
section
variable {w : World} {b : Nat} {m : M} {qs : Nat → Q}
theorem SAt.drew (h : SAt w b m qs) : SAt w.drew b m qs := ⟨h.blk, h.now, h.unit, h.que, h.grp, h.task⟩
theorem SAt.drewN (h : SAt w b m qs) (n : Nat) : SAt (w.drewN n) b m qs := ⟨h.blk, h.now, h.unit, h.que, h.grp, h.task⟩
theorem SAt.frozen (h : SAt w b m qs) (o : Nat) : w.frozen? ⟨b, o, none⟩ = false := by obtain ⟨C, h1, _⟩ := h.blk; exact frozen_blk h1 o
theorem SAt.lt (h : SAt w b m qs) : b < w.heap.size := by obtain ⟨C, h1, _⟩ := h.blk; exact (Array.getElem?_eq_some_iff.1 h1).1
theorem SAt.same {w' : World} (h : SAt w b m qs) (e : w'.heap[b]? = w.heap[b]?) : SAt w' b m qs := by
  have hc : ∀ o, w'.cell? ⟨b, o, none⟩ = w.cell? ⟨b, o, none⟩ := fun o => World.cell?_of_block e
  exact ⟨by rw [e]; exact h.blk, by rw [hc]; exact h.now, fun u f hu hf => by rw [hc]; exact h.unit u f hu hf, fun g i hg hi => by rw [hc]; exact h.que g i hg hi, fun g f hg hf => by rw [hc]; exact h.grp g f hg hf, fun n f hn hf => by rw [hc]; exact h.task n f hn hf⟩
theorem SAt.at_ (h : SAt w b m qs) (g : Nat) (hg : g < 10) : At w b (121 + g * 198) (qs g) := by
  obtain ⟨C, h1, _⟩ := h.blk
  refine ⟨C, _, h1, fun i hi => ?_⟩
  rw [← cell_blk h1]
  exact h.que g i hg hi
theorem SAt.queue {w' : World} {q' : Q} {g : Nat} (h : SAt w b m qs) (hg : g < 10) (o : Only b (121 + g * 198) w w') (ha : At w' b (121 + g * 198) q') : SAt w' b m (fun k => if k = g then q' else qs k) := by
  obtain ⟨C, h1, h2⟩ := h.blk
  obtain ⟨C', k1, k2, k3⟩ := o.rest C _ h1
  have hc : ∀ i, i < 121 + g * 198 ∨ 121 + g * 198 + 193 ≤ i → w'.cell? ⟨b, i, none⟩ = w.cell? ⟨b, i, none⟩ := fun i hi => by rw [cell_blk k1, cell_blk h1, k3 i hi]
  refine ⟨⟨C', k1, by omega⟩, by rw [hc 0 (by omega)]; exact h.now, fun u f hu hf => by rw [hc _ (by omega)]; exact h.unit u f hu hf, fun k i hk hi => ?_, fun k f hk hf => by rw [hc _ (by omega)]; exact h.grp k f hk hf, fun n f hn hf => by rw [hc _ (by omega)]; exact h.task n f hn hf⟩
  by_cases e : k = g
  · subst e; simp only [if_true]; exact ha.cell i hi
  · rw [hc _ (by omega)]; simp only [e, if_false]; exact h.que k i hk hi
theorem SAt.setUnit (h : SAt w b m qs) (u f : Nat) (hu : u < 30) (hf : f < 4) (v : Value) (x : Un) (hv : ∀ k, k < 4 → unitC u x k = if k = f then v else unitC u (m.u u) k) (hg : ∀ k, grpC x k = grpC (m.u u) k) (ht : ∀ k, taskC x k = taskC (m.u u) k) :
    SAt (w.setCell ⟨b, 1 + u * 4 + f, none⟩ v) b (m.set u x) qs := by
  obtain ⟨C, h1, h2⟩ := h.blk
  have hn : ∀ j, 1 + u * 4 + f ≠ j → (w.setCell ⟨b, 1 + u * 4 + f, none⟩ v).cell? ⟨b, j, none⟩ = w.cell? ⟨b, j, none⟩ := fun j e => cell_set_ne h1 _ _ v e
  refine ⟨⟨_, blk_set h1 _ v, by simpa using h2⟩, by rw [hn 0 (by omega)]; exact h.now, fun k i hk hi => ?_, fun g i hg hi => by rw [hn _ (by omega)]; exact h.que g i hg hi, fun g i hg' hi => ?_, fun n i hn' hi => ?_⟩
  · by_cases e : k = u
    · subst e
      rw [Fr.set_same, hv i hi]
      by_cases e2 : i = f
      · subst e2; rw [cell_set_same h1 _ v (by omega), if_pos rfl]
      · rw [hn _ (by omega), if_neg e2]; exact h.unit k i hk hi
    · rw [hn _ (by omega), Fr.set_ne _ _ _ _ e]; exact h.unit k i hk hi
  · rw [hn _ (by omega), h.grp g i hg' hi]
    by_cases e : g = u
    · subst e; rw [Fr.set_same, hg]
    · rw [Fr.set_ne _ _ _ _ e]
  · rw [hn _ (by omega), h.task n i hn' hi]
    by_cases e : 10 + n = u
    · subst e; rw [Fr.set_same, ht]
    · rw [Fr.set_ne _ _ _ _ e]
theorem SAt.setGrp (h : SAt w b m qs) (g f : Nat) (hg : g < 10) (hf : f < 5) (v : Value) (x : Un) (hv : ∀ k, k < 5 → grpC x k = if k = f then v else grpC (m.u g) k) (hx : ∀ k, unitC g x k = unitC g (m.u g) k) :
    SAt (w.setCell ⟨b, 121 + g * 198 + (193 + f), none⟩ v) b (m.set g x) qs := by
  obtain ⟨C, h1, h2⟩ := h.blk
  have hn : ∀ j, 121 + g * 198 + (193 + f) ≠ j → (w.setCell ⟨b, 121 + g * 198 + (193 + f), none⟩ v).cell? ⟨b, j, none⟩ = w.cell? ⟨b, j, none⟩ := fun j e => cell_set_ne h1 _ _ v e
  refine ⟨⟨_, blk_set h1 _ v, by simpa using h2⟩, by rw [hn 0 (by omega)]; exact h.now, fun k i hk hi => ?_, fun k i hk hi => by rw [hn _ (by omega)]; exact h.que k i hk hi, fun k i hk hi => ?_, fun n i hn' hi => ?_⟩
  · rw [hn _ (by omega), h.unit k i hk hi]
    by_cases e : k = g
    · subst e; rw [Fr.set_same, hx]
    · rw [Fr.set_ne _ _ _ _ e]
  · by_cases e : k = g
    · subst e
      rw [Fr.set_same, hv i hi]
      by_cases e2 : i = f
      · subst e2; rw [cell_set_same h1 _ v (by omega), if_pos rfl]
      · rw [hn _ (by omega), if_neg e2]; exact h.grp k i hk hi
    · rw [hn _ (by omega), Fr.set_ne _ _ _ _ e]; exact h.grp k i hk hi
  · rw [hn _ (by omega), h.task n i hn' hi, Fr.set_ne _ _ _ _ (by omega)]
theorem SAt.setTask (h : SAt w b m qs) (n f : Nat) (hn : n < 20) (hf : f < 2) (v : Value) (x : Un) (hv : ∀ k, k < 2 → taskC x k = if k = f then v else taskC (m.u (10 + n)) k) (hx : ∀ k, unitC (10 + n) x k = unitC (10 + n) (m.u (10 + n)) k) :
    SAt (w.setCell ⟨b, 2101 + n * 2 + f, none⟩ v) b (m.set (10 + n) x) qs := by
  obtain ⟨C, h1, h2⟩ := h.blk
  have hne : ∀ j, 2101 + n * 2 + f ≠ j → (w.setCell ⟨b, 2101 + n * 2 + f, none⟩ v).cell? ⟨b, j, none⟩ = w.cell? ⟨b, j, none⟩ := fun j e => cell_set_ne h1 _ _ v e
  refine ⟨⟨_, blk_set h1 _ v, by simpa using h2⟩, by rw [hne 0 (by omega)]; exact h.now, fun k i hk hi => ?_, fun k i hk hi => by rw [hne _ (by omega)]; exact h.que k i hk hi, fun k i hk hi => ?_, fun k i hk hi => ?_⟩
  · rw [hne _ (by omega), h.unit k i hk hi]
    by_cases e : k = 10 + n
    · subst e; rw [Fr.set_same, hx]
    · rw [Fr.set_ne _ _ _ _ e]
  · rw [hne _ (by omega), h.grp k i hk hi, Fr.set_ne _ _ _ _ (by omega)]
  · by_cases e : k = n
    · subst e
      rw [Fr.set_same, hv i hi]
      by_cases e2 : i = f
      · subst e2; rw [cell_set_same h1 _ v (by omega), if_pos rfl]
      · rw [hne _ (by omega), if_neg e2]; exact h.task k i hk hi
    · rw [hne _ (by omega), Fr.set_ne _ _ _ _ (by omega)]; exact h.task k i hk hi
theorem SAt.setNow (h : SAt w b m qs) (n : Nat) : SAt (w.setCell ⟨b, 0, none⟩ (.int .i64 (n : Int))) b { m with now := n } qs := by
  obtain ⟨C, h1, h2⟩ := h.blk
  have hne : ∀ j, 0 ≠ j → (w.setCell ⟨b, 0, none⟩ (.int .i64 (n : Int))).cell? ⟨b, j, none⟩ = w.cell? ⟨b, j, none⟩ := fun j e => cell_set_ne h1 _ _ _ e
  exact ⟨⟨_, blk_set h1 _ _, by simpa using h2⟩, cell_set_same h1 _ _ (by omega), fun k i hk hi => by rw [hne _ (by omega)]; exact h.unit k i hk hi, fun k i hk hi => by rw [hne _ (by omega)]; exact h.que k i hk hi, fun k i hk hi => by rw [hne _ (by omega)]; exact h.grp k i hk hi, fun k i hk hi => by rw [hne _ (by omega)]; exact h.task k i hk hi⟩
end
theorem four {P : Nat → Prop} (h0 : P 0) (h1 : P 1) (h2 : P 2) (h3 : P 3) : ∀ k, k < 4 → P k
  | 0, _ => h0 | 1, _ => h1 | 2, _ => h2 | 3, _ => h3 | k + 4, h => absurd h (by omega)
theorem five {P : Nat → Prop} (h0 : P 0) (h1 : P 1) (h2 : P 2) (h3 : P 3) (h4 : P 4) : ∀ k, k < 5 → P k
  | 0, _ => h0 | 1, _ => h1 | 2, _ => h2 | 3, _ => h3 | 4, _ => h4 | k + 5, h => absurd h (by omega)
theorem two {P : Nat → Prop} (h0 : P 0) (h1 : P 1) : ∀ k, k < 2 → P k
  | 0, _ => h0 | 1, _ => h1 | k + 2, h => absurd h (by omega)
section
variable {w : World} {b : Nat} {m : M} {qs : Nat → Q}
theorem SAt.setTime (h : SAt w b m qs) (u n : Nat) (hu : u < 30) : SAt (w.setCell ⟨b, 1 + u * 4 + 3, none⟩ (.int .u64 (n : Int))) b (m.set u { m.u u with time := n }) qs :=
  h.setUnit u 3 hu (by omega) _ _ (four rfl rfl rfl rfl) (fun _ => rfl) (fun _ => rfl)
theorem SAt.setFloor (h : SAt w b m qs) (g n : Nat) (hg : g < 10) : SAt (w.setCell ⟨b, 121 + g * 198 + 193, none⟩ (.int .u64 (n : Int))) b (m.set g { m.u g with floor := n }) qs :=
  h.setGrp g 0 hg (by omega) _ _ (five rfl rfl rfl rfl rfl) (fun _ => rfl)
theorem SAt.setFrozen (h : SAt w b m qs) (g : Nat) (x : Bool) (hg : g < 10) : SAt (w.setCell ⟨b, 121 + g * 198 + 194, none⟩ (.bool x)) b (m.set g { m.u g with frozen := x }) qs :=
  h.setGrp g 1 hg (by omega) _ _ (five rfl rfl rfl rfl rfl) (fun _ => rfl)
theorem SAt.setQuota (h : SAt w b m qs) (g n : Nat) (hg : g < 10) : SAt (w.setCell ⟨b, 121 + g * 198 + 195, none⟩ (.int .i64 (n : Int))) b (m.set g { m.u g with quota := n }) qs :=
  h.setGrp g 2 hg (by omega) _ _ (five rfl rfl rfl rfl rfl) (fun _ => rfl)
theorem SAt.setPeriod (h : SAt w b m qs) (g n : Nat) (hg : g < 10) : SAt (w.setCell ⟨b, 121 + g * 198 + 196, none⟩ (.int .i64 (n : Int))) b (m.set g { m.u g with period := n }) qs :=
  h.setGrp g 3 hg (by omega) _ _ (five rfl rfl rfl rfl rfl) (fun _ => rfl)
theorem SAt.setUsed (h : SAt w b m qs) (g n : Nat) (hg : g < 10) : SAt (w.setCell ⟨b, 121 + g * 198 + 197, none⟩ (.int .i64 (n : Int))) b (m.set g { m.u g with used := n }) qs :=
  h.setGrp g 4 hg (by omega) _ _ (five rfl rfl rfl rfl rfl) (fun _ => rfl)
theorem SAt.setAwake (h : SAt w b m qs) (n : Nat) (x : Bool) (hn : n < 20) : SAt (w.setCell ⟨b, 2101 + n * 2, none⟩ (.bool x)) b (m.set (10 + n) { m.u (10 + n) with awake := x }) qs :=
  h.setTask n 0 hn (by omega) _ _ (two rfl rfl) (fun _ => rfl)
theorem SAt.setRan (h : SAt w b m qs) (n k : Nat) (hn : n < 20) : SAt (w.setCell ⟨b, 2101 + n * 2 + 1, none⟩ (.int .i64 (k : Int))) b (m.set (10 + n) { m.u (10 + n) with ran := k }) qs :=
  h.setTask n 1 hn (by omega) _ _ (two rfl rfl) (fun _ => rfl)
theorem SAt.setHere (h : SAt w b m qs) (u : Nat) (x : Bool) (hu : u < 30) : SAt (w.setCell ⟨b, 1 + u * 4, none⟩ (.bool x)) b (m.set u { m.u u with here := x }) qs :=
  h.setUnit u 0 hu (by omega) _ _ (four rfl rfl rfl rfl) (fun _ => rfl) (fun _ => rfl)
theorem SAt.setIn (h : SAt w b m qs) (u : Nat) (x : Int) (hu : u < 30) : SAt (w.setCell ⟨b, 1 + u * 4 + 1, none⟩ (.int .i64 x)) b (m.set u { m.u u with inn := x }) qs :=
  h.setUnit u 1 hu (by omega) _ _ (four rfl rfl rfl rfl) (fun _ => rfl) (fun _ => rfl)
theorem SAt.setWeight (h : SAt w b m qs) (u n : Nat) (h0 : 0 < u) (hu : u < 30) : SAt (w.setCell ⟨b, 1 + u * 4 + 2, none⟩ (.int .u64 (n : Int))) b (m.set u { m.u u with weight := n }) qs :=
  h.setUnit u 2 hu (by omega) _ _ (four rfl rfl (by show Value.int .u64 ((if u = 0 then 0 else n : Nat) : Int) = _; rw [if_neg (by omega)]; rfl) rfl) (fun _ => rfl) (fun _ => rfl)
theorem SAt.cHere (h : SAt w b m qs) (u : Nat) (hu : u < 30) : w.cell? ⟨b, 1 + u * 4, none⟩ = some (.bool (m.u u).here) := h.unit u 0 hu (by omega)
theorem SAt.cIn (h : SAt w b m qs) (u : Nat) (hu : u < 30) : w.cell? ⟨b, 1 + u * 4 + 1, none⟩ = some (.int .i64 (m.u u).inn) := h.unit u 1 hu (by omega)
theorem SAt.cWeight (h : SAt w b m qs) (u : Nat) (h0 : 0 < u) (hu : u < 30) : w.cell? ⟨b, 1 + u * 4 + 2, none⟩ = some (.int .u64 ((m.u u).weight : Int)) := by
  have := h.unit u 2 hu (by omega); rw [unitC, if_neg (by omega)] at this; exact this
theorem SAt.cTime (h : SAt w b m qs) (u : Nat) (hu : u < 30) : w.cell? ⟨b, 1 + u * 4 + 3, none⟩ = some (.int .u64 ((m.u u).time : Int)) := h.unit u 3 hu (by omega)
theorem SAt.cFloor (h : SAt w b m qs) (g : Nat) (hg : g < 10) : w.cell? ⟨b, 121 + g * 198 + 193, none⟩ = some (.int .u64 ((m.u g).floor : Int)) := h.grp g 0 hg (by omega)
theorem SAt.cFrozen (h : SAt w b m qs) (g : Nat) (hg : g < 10) : w.cell? ⟨b, 121 + g * 198 + 194, none⟩ = some (.bool (m.u g).frozen) := h.grp g 1 hg (by omega)
theorem SAt.cQuota (h : SAt w b m qs) (g : Nat) (hg : g < 10) : w.cell? ⟨b, 121 + g * 198 + 195, none⟩ = some (.int .i64 ((m.u g).quota : Int)) := h.grp g 2 hg (by omega)
theorem SAt.cPeriod (h : SAt w b m qs) (g : Nat) (hg : g < 10) : w.cell? ⟨b, 121 + g * 198 + 196, none⟩ = some (.int .i64 ((m.u g).period : Int)) := h.grp g 3 hg (by omega)
theorem SAt.cUsed (h : SAt w b m qs) (g : Nat) (hg : g < 10) : w.cell? ⟨b, 121 + g * 198 + 197, none⟩ = some (.int .i64 ((m.u g).used : Int)) := h.grp g 4 hg (by omega)
theorem SAt.cAwake (h : SAt w b m qs) (n : Nat) (hn : n < 20) : w.cell? ⟨b, 2101 + n * 2, none⟩ = some (.bool (m.u (10 + n)).awake) := h.task n 0 hn (by omega)
theorem SAt.cRan (h : SAt w b m qs) (n : Nat) (hn : n < 20) : w.cell? ⟨b, 2101 + n * 2 + 1, none⟩ = some (.int .i64 ((m.u (10 + n)).ran : Int)) := h.task n 1 hn (by omega)
end
structure Cpl (m : M) (qs : Nat → Q) : Prop where
  ok : ∀ g, g < 10 → Hp.Okp (qs g) ∧ Hp.Full (qs g)
  has : ∀ g u, g < 10 → u < 64 → (0 < (qs g).place u ↔ u < 30 ∧ Fr.kidB m g u = true)
  key : ∀ g u, g < 10 → u < 30 → Fr.kidB m g u = true → (qs g).keys u = (m.u u).time
def Fair (w : World) (b : Nat) (m : M) : Prop := ∃ qs, SAt w b m qs ∧ Cpl m qs
theorem Fair.drewN {w : World} {b : Nat} {m : M} (h : Fair w b m) (n : Nat) : Fair (w.drewN n) b m := by obtain ⟨qs, h1, h2⟩ := h; exact ⟨qs, h1.drewN n, h2⟩
theorem Fair.same {w w' : World} {b : Nat} {m : M} (h : Fair w b m) (e : w'.heap[b]? = w.heap[b]?) : Fair w' b m := by obtain ⟨qs, h1, h2⟩ := h; exact ⟨qs, h1.same e, h2⟩
theorem Fair.lt {w : World} {b : Nat} {m : M} (h : Fair w b m) : b < w.heap.size := by obtain ⟨qs, h1, _⟩ := h; exact h1.lt
theorem Cpl.turn {m m' : M} {qs : Nat → Q} (h : Cpl m qs) (hk : ∀ g u, g < 10 → u < 30 → Fr.kidB m' g u = Fr.kidB m g u) (ht : ∀ g u, g < 10 → u < 30 → Fr.kidB m g u = true → (m'.u u).time = (m.u u).time) : Cpl m' qs :=
  ⟨h.ok, fun g u hg hu => by
    rw [h.has g u hg hu]
    constructor
    · rintro ⟨h1, h2⟩; exact ⟨h1, by rw [hk g u hg h1]; exact h2⟩
    · rintro ⟨h1, h2⟩; exact ⟨h1, by rw [hk g u hg h1] at h2; exact h2⟩, fun g u hg hu hu' => by
    rw [hk g u hg hu] at hu'
    rw [ht g u hg hu hu']; exact h.key g u hg hu hu'⟩
theorem Cpl.many {m : M} {qs : Nat → Q} (h : Cpl m qs) (g : Nat) (hg : g < 10) : decide (0 < (qs g).many) = Fr.hasKid m g := by
  rw [Bool.eq_iff_iff, decide_eq_true_eq, Fr.hasKid_iff]
  have ok := (h.ok g hg).1
  constructor
  · intro hm
    have a := ok.at_ 0 hm
    exact ⟨(qs g).heap 0, ((h.has g _ hg a.1).1 (by omega))⟩
  · rintro ⟨i, hi, hk⟩
    have := (h.has g i hg (by omega)).2 ⟨hi, hk⟩
    have := (ok.of_ i (by omega)).1
    omega
end Go.Proofs.YtghogbngmcolmaaGreat.Fa
namespace Go.Proofs.YtghogbngmcolmaaGreat.Fa
open Go.RowKit
open Hp (Q)
open Fr (Un M)
theorem Hid.intro {p : Prop} (h : p) : Hid p := h
set_option maxRecDepth 100000 in
set_option maxHeartbeats 400000 in
theorem ready_task (b u : Nat) (m : M) (w : World) (h : Fair w b m) (h0 : 10 ≤ u) (hu : u < 30) :
    Calls Tryz.prog 157 #[.pointer (some ⟨b, 0, none⟩), .int .i64 u] w fun e w' => e = .returned (.bool (Fr.ready m u)) ∧ w' = w := by
  obtain ⟨n, rfl⟩ : ∃ n, u = 10 + n := ⟨u - 10, by omega⟩
  obtain ⟨qs, hS, _⟩ := h
  have c := hS.cAwake n (by omega)
  have k : (10 : Int) ≤ ((10 + n : Nat) : Int) := by omega
  have e : Hid (Fr.ready m (10 + n) = (m.u (10 + n)).awake) := Hid.intro (by unfold Fr.ready; rw [if_pos (by omega)])
  clear hS
  go_enter Tryz.func157, Tryz.ntmps157
  go_wp2
  go_ret
  exact ⟨ret_bool e.out.symm, rfl⟩
theorem len_i (b o : Nat) (q : Q) (w : World) (h : At w b o q) (k : Nat) (hk : q.many = k) :
    Calls Tryz.prog 165 #[.pointer (some ⟨b, o, none⟩)] w fun e w' => e = .returned (.int .i64 k) ∧ w' = w := by
  subst hk; exact len_any b o q w h
theorem ready_grp {m : M} {g : Nat} (hg : g < 10) (a c d e : Bool) (ha : Fr.hasKid m g = a) (hc : (m.u g).frozen = c) (hd : decide ((m.u g).quota = 0) = d) (he : decide ((m.u g).used < (m.u g).quota) = e) : Fr.ready m g = (a && (!c && (d || e))) := by
  unfold Fr.ready Fr.mayB
  rw [if_neg (by omega), ha, hc, hd, he]
set_option maxRecDepth 100000 in
set_option maxHeartbeats 400000 in
theorem ready_group (b g : Nat) (m : M) (w : World) (h : Fair w b m) (hg : g < 10) :
    Calls Tryz.prog 157 #[.pointer (some ⟨b, 0, none⟩), .int .i64 g] w fun e w' => e = .returned (.bool (Fr.ready m g)) ∧ ∃ n, w' = w.drewN n := by
  obtain ⟨qs, hS, hC⟩ := h
  have c1 := hS.cFrozen g hg
  have c2 := hS.cQuota g hg
  have c3 := hS.cUsed g hg
  have HA : Hid (At w b (121 + g * 198) (qs g)) := hS.at_ g hg
  have hm := hC.many g hg
  have k : ¬ (10 : Int) ≤ (g : Int) := by omega
  have hgI : (g : Int) < 10 := by omega
  have HR : Hid (∀ a c d e, Fr.hasKid m g = a → (m.u g).frozen = c → decide ((m.u g).quota = 0) = d → decide ((m.u g).used < (m.u g).quota) = e → Fr.ready m g = (a && (!c && (d || e)))) := fun a c d e => ready_grp hg a c d e
  clear hS hC
  obtain ⟨M1, hM1⟩ : ∃ k, (qs g).many = k := ⟨_, rfl⟩
  rw [hM1] at hm
  have HM : Hid ((qs g).many = M1) := hM1
  clear hM1
  have HE : Hid (decide (0 < M1) = Fr.hasKid m g) := hm
  generalize hfz : (m.u g).frozen = fz at *
  generalize hqu : (m.u g).quota = qu at *
  generalize hus : (m.u g).used = us at *
  clear hfz hqu hus hm
  by_cases a : 0 < M1
  · have a' : decide ((0 : Int) < (M1 : Int)) = true := by simp; omega
    have E1 : Hid (Fr.hasKid m g = true) := Hid.intro (by rw [← HE.out]; exact decide_eq_true a)
    cases fz
    · by_cases d : qu = 0
      · have d' : ((qu : Int) == 0) = true := by simp; omega
        have E3 : Hid (decide (qu = 0) = true) := Hid.intro (decide_eq_true d)
        go_enter Tryz.func157, Tryz.ntmps157
        go_wp2
        go_quiet ((go_at_call 165; exact Calls.quiet_of_same (len_i b (121 + g * 198) (qs g) _ (HA.out.drewN _) M1 HM.out)))
        go_wp2
        go_ret
        exact ⟨ret_bool (by rw [HR.out _ _ _ _ E1.out rfl E3.out rfl]; rfl), _, rfl⟩
      · have d' : ((qu : Int) == 0) = false := by simp; omega
        have E3 : Hid (decide (qu = 0) = false) := Hid.intro (decide_eq_false d)
        go_enter Tryz.func157, Tryz.ntmps157
        go_wp2
        go_quiet ((go_at_call 165; exact Calls.quiet_of_same (len_i b (121 + g * 198) (qs g) _ (HA.out.drewN _) M1 HM.out)))
        go_wp2
        go_ret
        exact ⟨ret_bool (by rw [HR.out _ _ _ _ E1.out rfl E3.out rfl]; simp), _, rfl⟩
    · go_enter Tryz.func157, Tryz.ntmps157
      go_wp2
      go_quiet ((go_at_call 165; exact Calls.quiet_of_same (len_i b (121 + g * 198) (qs g) _ (HA.out.drewN _) M1 HM.out)))
      go_wp2
      go_ret
      exact ⟨ret_bool (by rw [HR.out _ _ _ _ E1.out rfl rfl rfl]; simp), _, rfl⟩
  · have a' : decide ((0 : Int) < (M1 : Int)) = false := by simp; omega
    have E1 : Hid (Fr.hasKid m g = false) := Hid.intro (by rw [← HE.out]; exact decide_eq_false a)
    go_enter Tryz.func157, Tryz.ntmps157
    go_wp2
    go_quiet ((go_at_call 165; exact Calls.quiet_of_same (len_i b (121 + g * 198) (qs g) _ (HA.out.drewN _) M1 HM.out)))
    go_wp2
    go_ret
    exact ⟨ret_bool (by rw [HR.out _ _ _ _ E1.out rfl rfl rfl]; simp), _, rfl⟩
end Go.Proofs.YtghogbngmcolmaaGreat.Fa
namespace Go.Proofs.YtghogbngmcolmaaGreat.Fa
open Go.RowKit
open Hp (Q)
open Fr (Un M)
namespace Fr
theorem set_self (m : M) (u : Nat) : m.set u (m.u u) = m := by
  unfold M.set; cases m; congr 1; funext j; by_cases h : j = u <;> simp [h]
theorem kid_was {m : M} {g u : Nat} (h0 : 0 < u) (hh : (m.u u).here = true) (hi : (m.u u).inn = (g : Int)) : kidB m g u = (m.u u).was := by
  rw [Bool.eq_iff_iff, kidB_iff]; exact ⟨fun h => h.2.2.2, fun h => ⟨h0, hh, hi, h⟩⟩
theorem line_in {m : M} {u : Nat} (hr : ready m u = true) (hw : (m.u u).was = false) :
    line m u = setWas (m.set u { m.u u with time := max (m.u u).time (m.u (grp m u)).floor }) u true := by
  unfold line setWas; rw [set_set, set_same]
  congr 1
  unfold lineU; rw [hr, hw]; rfl
theorem line_out {m : M} {u : Nat} (hr : ready m u = false) : line m u = setWas m u false := by
  unfold line setWas lineU; rw [hr]; rfl
theorem line_same {m : M} {u : Nat} (hr : ready m u = (m.u u).was) : line m u = m := by
  have e : lineU m u = m.u u := by
    unfold lineU; rw [hr]; cases h : m.u u; cases ‹Bool› <;> simp
  unfold line; rw [e, set_self]
theorem kid_ne {m : M} {g u v : Nat} {x : Un} (h : v ≠ u) : kidB (m.set u x) g v = kidB m g v := by
  unfold kidB; rw [set_ne _ _ _ _ h]
theorem kid_set {m : M} {g u v : Nat} {x : Un} (h1 : x.here = (m.u u).here) (h2 : x.inn = (m.u u).inn) (h3 : x.was = (m.u u).was) : kidB (m.set u x) g v = kidB m g v := by
  by_cases e : v = u
  · subst e; unfold kidB; rw [set_same, h1, h2, h3]
  · exact kid_ne e
end Fr
theorem Cpl.set {m : M} {qs : Nat → Q} (h : Cpl m qs) {u : Nat} {x : Un} (h1 : x.here = (m.u u).here) (h2 : x.inn = (m.u u).inn) (h3 : x.was = (m.u u).was) (h4 : x.time = (m.u u).time ∨ (m.u u).was = false) : Cpl (m.set u x) qs :=
  h.turn (fun g v _ _ => Fr.kid_set h1 h2 h3) (fun g v _ _ hk => by
    by_cases e : v = u
    · subst e; rw [Fr.set_same]
      rcases h4 with h4 | h4
      · exact h4
      · have := (Fr.kidB_iff.1 hk).2.2.2; rw [h4] at this; cases this
    · rw [Fr.set_ne _ _ _ _ e])
theorem kid_setWas {m : M} {g u v : Nat} (b : Bool) (h0 : 0 < u) (hh : (m.u u).here = true) {k : Nat} (hi : (m.u u).inn = (k : Int)) :
    Fr.kidB (Fr.setWas m u b) g v = if v = u then (decide (g = k) && b) else Fr.kidB m g v := by
  unfold Fr.setWas
  by_cases e : v = u
  · subst e
    rw [if_pos rfl, Bool.eq_iff_iff, Fr.kidB_iff, Fr.set_same]
    simp only [hh, hi, h0, true_and, Bool.and_eq_true, decide_eq_true_eq]
    constructor
    · rintro ⟨a, c⟩; exact ⟨by omega, c⟩
    · rintro ⟨a, c⟩; exact ⟨by omega, c⟩
  · rw [if_neg e, Fr.kid_ne e]
theorem Cpl.put {m : M} {qs : Nat → Q} (h : Cpl m qs) {u g : Nat} {q' : Q} (h0 : 0 < u) (hu : u < 30) (hg : g < 10) (hh : (m.u u).here = true) (hi : (m.u u).inn = (g : Int))
    (ok : Hp.Okp q' ∧ Hp.Full q') (hk : q'.keys = Hp.upd (qs g).keys u (m.u u).time) (hp : ∀ i, 0 < q'.place i ↔ (0 < (qs g).place i ∨ i = u)) : Cpl (Fr.setWas m u true) (fun k => if k = g then q' else qs k) := by
  have ht : ∀ v, ((Fr.setWas m u true).u v).time = (m.u v).time := fun v => by
    unfold Fr.setWas
    by_cases e : v = u
    · subst e; rw [Fr.set_same]
    · rw [Fr.set_ne _ _ _ _ e]
  refine ⟨fun k hk => ?_, fun k v hk' hv => ?_, fun k v hk' hv hv' => ?_⟩
  · by_cases e : k = g
    · simp only [e, if_true]; exact ok
    · simp only [e, if_false]; exact h.ok k hk
  · rw [kid_setWas true h0 hh hi]
    by_cases e : k = g
    · subst e
      simp only [if_true]
      rw [hp v, h.has k v hk' hv]
      by_cases e2 : v = u
      · subst e2; simp [hu]
      · simp [e2]
    · simp only [e, if_false, decide_false, Bool.false_and]
      rw [h.has k v hk' hv]
      by_cases e2 : v = u
      · subst e2
        have : Fr.kidB m k v = false := by
          cases hc : Fr.kidB m k v
          · rfl
          · have := (Fr.kidB_iff.1 hc).2.2.1; rw [hi] at this; omega
        simp [this]
      · simp [e2]
  · rw [ht]
    rw [kid_setWas true h0 hh hi] at hv'
    by_cases e : k = g
    · subst e
      simp only [if_true]
      rw [hk]
      by_cases e2 : v = u
      · subst e2; rw [Hp.upd_same]
      · rw [Hp.upd_ne _ _ _ _ e2]
        rw [if_neg e2] at hv'
        exact h.key k v hk' hv hv'
    · simp only [e, if_false]
      by_cases e2 : v = u
      · subst e2; simp [e] at hv'
      · rw [if_neg e2] at hv'
        exact h.key k v hk' hv hv'
theorem Cpl.cut {m : M} {qs : Nat → Q} (h : Cpl m qs) {u g : Nat} {q' : Q} (h0 : 0 < u) (hg : g < 10) (hh : (m.u u).here = true) (hi : (m.u u).inn = (g : Int))
    (ok : Hp.Okp q' ∧ Hp.Full q') (hk : q'.keys = Hp.upd (qs g).keys u 0) (hp : ∀ i, 0 < q'.place i ↔ (0 < (qs g).place i ∧ i ≠ u)) : Cpl (Fr.setWas m u false) (fun k => if k = g then q' else qs k) := by
  have ht : ∀ v, ((Fr.setWas m u false).u v).time = (m.u v).time := fun v => by
    unfold Fr.setWas
    by_cases e : v = u
    · subst e; rw [Fr.set_same]
    · rw [Fr.set_ne _ _ _ _ e]
  refine ⟨fun k hk => ?_, fun k v hk' hv => ?_, fun k v hk' hv hv' => ?_⟩
  · by_cases e : k = g
    · simp only [e, if_true]; exact ok
    · simp only [e, if_false]; exact h.ok k hk
  · rw [kid_setWas false h0 hh hi, Bool.and_false]
    by_cases e : k = g
    · subst e
      simp only [if_true]
      rw [hp v, h.has k v hk' hv]
      by_cases e2 : v = u
      · subst e2; simp
      · simp [e2]
    · simp only [e, if_false]
      rw [h.has k v hk' hv]
      by_cases e2 : v = u
      · subst e2
        have : Fr.kidB m k v = false := by
          cases hc : Fr.kidB m k v
          · rfl
          · have := (Fr.kidB_iff.1 hc).2.2.1; rw [hi] at this; omega
        simp [this]
      · simp [e2]
  · rw [ht]
    rw [kid_setWas false h0 hh hi, Bool.and_false] at hv'
    by_cases e2 : v = u
    · rw [if_pos e2] at hv'; cases hv'
    · rw [if_neg e2] at hv'
      by_cases e : k = g
      · subst e
        simp only [if_true]
        rw [hk, Hp.upd_ne _ _ _ _ e2]
        exact h.key k v hk' hv hv'
      · simp only [e, if_false]
        exact h.key k v hk' hv hv'
theorem SAt.setWas {w : World} {b : Nat} {m : M} {qs : Nat → Q} (h : SAt w b m qs) (u : Nat) (x : Bool) : SAt w b (Fr.setWas m u x) qs := by
  have e : ∀ v, ((Fr.setWas m u x).u v) = m.u v ∨ (v = u ∧ (Fr.setWas m u x).u v = { m.u u with was := x }) := fun v => by
    unfold Fr.setWas
    by_cases e : v = u
    · subst e; rw [Fr.set_same]; exact .inr ⟨rfl, rfl⟩
    · rw [Fr.set_ne _ _ _ _ e]; exact .inl rfl
  refine ⟨h.blk, h.now, fun v f hv hf => ?_, h.que, fun v f hv hf => ?_, fun n f hn hf => ?_⟩
  · rw [h.unit v f hv hf]
    rcases e v with e | ⟨rfl, e⟩ <;> rw [e] <;> rfl
  · rw [h.grp v f hv hf]
    rcases e v with e | ⟨rfl, e⟩ <;> rw [e] <;> rfl
  · rw [h.task n f hn hf]
    rcases e (10 + n) with e | ⟨k, e⟩ <;> rw [e]
    rw [← k]; rfl
structure InG (m : M) (u g : Nat) : Prop where
  pos : 0 < u
  lt : u < 30
  here : (m.u u).here = true
  glt : g < 10
  inn : (m.u u).inn = (g : Int)
theorem InG.grp {m : M} {u g : Nat} (h : InG m u g) : Fr.grp m u = g := by unfold Fr.grp; rw [h.inn]; rfl
theorem ready_any (b u : Nat) (m : M) (w : World) (h : Fair w b m) (hu : u < 30) :
    Calls Tryz.prog 157 #[.pointer (some ⟨b, 0, none⟩), .int .i64 u] w fun e w' => e = .returned (.bool (Fr.ready m u)) ∧ ∃ n, w' = w.drewN n := by
  by_cases k : 10 ≤ u
  · exact (ready_task b u m w h k hu).mono fun e w' ⟨h1, h2⟩ => ⟨h1, 0, h2⟩
  · exact ready_group b u m w h (by omega)
theorem key_is (b u g : Nat) (m : M) (qs : Nat → Q) (w : World) (hS : SAt w b m qs) (hC : Cpl m qs) (hI : InG m u g) (hw : (m.u u).was = true) :
    Calls Tryz.prog 156 #[.pointer (some ⟨b, 121 + g * 198, none⟩), .int .i64 u] w fun e w' => e = .returned (.tuple #[.int .u64 ((qs g).keys u), .nilIface]) ∧ w' = w :=
  key_has b _ u (qs g) w (hS.at_ g hI.glt) (by have := hI.lt; omega) ((hC.has g u hI.glt (by have := hI.lt; omega)).2 ⟨hI.lt, (Fr.kid_was hI.pos hI.here hI.inn).trans hw⟩)
theorem place_no {m : M} {qs : Nat → Q} {u g : Nat} (hC : Cpl m qs) (hI : InG m u g) (hw : (m.u u).was = false) : (qs g).place u = 0 := by
  have h1 := hC.has g u hI.glt (by have := hI.lt; omega)
  rw [(Fr.kid_was hI.pos hI.here hI.inn).trans hw] at h1
  simp at h1
  exact h1
theorem place_yes {m : M} {qs : Nat → Q} {u g : Nat} (hC : Cpl m qs) (hI : InG m u g) (hw : (m.u u).was = true) : 0 < (qs g).place u :=
  (hC.has g u hI.glt (by have := hI.lt; omega)).2 ⟨hI.lt, (Fr.kid_was hI.pos hI.here hI.inn).trans hw⟩
theorem key_not (b u g : Nat) (m : M) (qs : Nat → Q) (w : World) (hS : SAt w b m qs) (hC : Cpl m qs) (hI : InG m u g) (hw : (m.u u).was = false) :
    Calls Tryz.prog 156 #[.pointer (some ⟨b, 121 + g * 198, none⟩), .int .i64 u] w fun e w' => e = .returned (.tuple #[.int .u64 0, .iface 60 (.int .i64 2)]) ∧ w' = w :=
  key_none b _ u (qs g) w (hS.at_ g hI.glt) (by have := hI.lt; omega) (place_no hC hI hw)
end Go.Proofs.YtghogbngmcolmaaGreat.Fa

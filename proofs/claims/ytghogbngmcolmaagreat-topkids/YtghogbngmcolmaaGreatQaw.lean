import Derived.Below
namespace Go.Proofs.YtghogbngmcolmaaGreat.Fa
namespace Fr
structure Un where
  here : Bool
  awake : Bool
  frozen : Bool
  was : Bool
  inn : Int
  weight : Nat
  ran : Nat
  time : Nat
  floor : Nat
  quota : Nat
  period : Nat
  used : Nat
def Un.no : Un := ⟨false, false, false, false, 0, 0, 0, 0, 0, 0, 0, 0⟩
def Un.new (g : Int) (wt : Nat) : Un := ⟨true, false, false, false, g, wt, 0, 0, 0, 0, 0, 0⟩
structure M where
  u : Nat → Un
  now : Nat
def M.set (m : M) (k : Nat) (x : Un) : M := { m with u := fun j => if j = k then x else m.u j }
theorem set_now (m : M) (k : Nat) (x : Un) : (m.set k x).now = m.now := rfl
theorem set_same (m : M) (k : Nat) (x : Un) : (m.set k x).u k = x := by simp [M.set]
theorem set_ne (m : M) (k j : Nat) (x : Un) (h : j ≠ k) : (m.set k x).u j = m.u j := by simp [M.set, h]
theorem set_set (m : M) (k : Nat) (x y : Un) : (m.set k x).set k y = m.set k y := by
  unfold M.set; congr 1; funext j; by_cases h : j = k <;> simp [h]
def kidB (m : M) (g i : Nat) : Bool := decide (0 < i) && (m.u i).here && decide ((m.u i).inn = (g : Int)) && (m.u i).was
def hasKid (m : M) (g : Nat) : Bool := (List.range 30).any (kidB m g)
def mayB (x : Un) : Bool := !x.frozen && (decide (x.quota = 0) || decide (x.used < x.quota))
def ready (m : M) (u : Nat) : Bool := if 10 ≤ u then (m.u u).awake else hasKid m u && mayB (m.u u)
def grp (m : M) (u : Nat) : Nat := (m.u u).inn.toNat
def lineU (m : M) (u : Nat) : Un := { m.u u with was := ready m u, time := if ready m u && !(m.u u).was then max (m.u u).time (m.u (grp m u)).floor else (m.u u).time }
def line (m : M) (u : Nat) : M := m.set u (lineU m u)
def LookN : Nat → M → Nat → M → Prop
  | 0, m, u, m' => u = 0 ∧ m' = m
  | n + 1, m, u, m' => (u = 0 ∧ m' = m) ∨ (u ≠ 0 ∧ LookN n (line m u) (grp m u) m')
def Look (m : M) (u : Nat) (m' : M) : Prop := ∃ n, LookN n m u m'
theorem Look.root (m : M) : Look m 0 m := ⟨0, rfl, rfl⟩
theorem Look.up {m m' : M} {u : Nat} (h : u ≠ 0) (k : Look (line m u) (grp m u) m') : Look m u m' := by
  obtain ⟨n, k⟩ := k
  exact ⟨n + 1, .inr ⟨h, k⟩⟩
theorem Look.ind {motive : (m : M) → (u : Nat) → (m' : M) → Look m u m' → Prop} (root : ∀ m, motive m 0 m (Look.root m))
    (up : ∀ {m m' : M} {u : Nat} (h : u ≠ 0) (k : Look (line m u) (grp m u) m'), motive _ _ _ k → motive m u m' (Look.up h k)) {m : M} {u : Nat} {m' : M} (k : Look m u m') : motive m u m' k := by
  obtain ⟨n, k⟩ := k
  induction n generalizing m u m' with
  | zero => obtain ⟨rfl, rfl⟩ := k; exact root m'
  | succ n ih =>
    rcases k with ⟨rfl, rfl⟩ | ⟨h, k⟩
    · exact root m'
    · exact up h ⟨n, k⟩ (ih k)
theorem kidB_iff {m : M} {g i : Nat} : kidB m g i = true ↔ 0 < i ∧ (m.u i).here = true ∧ (m.u i).inn = (g : Int) ∧ (m.u i).was = true := by
  simp [kidB, and_assoc]
theorem hasKid_iff {m : M} {g : Nat} : hasKid m g = true ↔ ∃ i, i < 30 ∧ kidB m g i = true := by
  simp [hasKid, List.any_eq_true]
def payF (m : M) (u : Nat) : M := m.set (grp m u) { m.u (grp m u) with floor := max (m.u (grp m u)).floor (m.u u).time }
def payU (u : Nat) (x : Un) : Un := { x with time := x.time + 1048576 / x.weight, used := if 0 < x.quota then x.used + 1 else x.used, ran := if u < 10 then x.ran + 1 else x.ran }
def payT (m : M) (u : Nat) : M := (payF m u).set u (payU u ((payF m u).u u))
def setWas (m : M) (u : Nat) (b : Bool) : M := m.set u { m.u u with was := b }
def payC (m : M) (u : Nat) : M := setWas (payT m u) u (ready (payT m u) u)
def ranUp (m : M) (u : Nat) : M := if 10 ≤ u then m.set u { m.u u with ran := (m.u u).ran + 1 } else m
def payR (m : M) (u : Nat) : M := payC (ranUp m u) u
def PaysN : Nat → M → Nat → M → Prop
  | 0, m, u, m' => u = 0 ∧ m' = m
  | n + 1, m, u, m' => (u = 0 ∧ m' = m) ∨ (u ≠ 0 ∧ PaysN n (payR m u) (grp m u) m')
def Pays (m : M) (u : Nat) (m' : M) : Prop := ∃ n, PaysN n m u m'
theorem Pays.root (m : M) : Pays m 0 m := ⟨0, rfl, rfl⟩
theorem Pays.up {m m' : M} {u : Nat} (h : u ≠ 0) (k : Pays (payR m u) (grp m u) m') : Pays m u m' := by
  obtain ⟨n, k⟩ := k
  exact ⟨n + 1, .inr ⟨h, k⟩⟩
theorem Pays.ind {motive : (m : M) → (u : Nat) → (m' : M) → Pays m u m' → Prop} (root : ∀ m, motive m 0 m (Pays.root m))
    (up : ∀ {m m' : M} {u : Nat} (h : u ≠ 0) (k : Pays (payR m u) (grp m u) m'), motive _ _ _ k → motive m u m' (Pays.up h k)) {m : M} {u : Nat} {m' : M} (k : Pays m u m') : motive m u m' k := by
  obtain ⟨n, k⟩ := k
  induction n generalizing m u m' with
  | zero => obtain ⟨rfl, rfl⟩ := k; exact root m'
  | succ n ih =>
    rcases k with ⟨rfl, rfl⟩ | ⟨h, k⟩
    · exact root m'
    · exact up h ⟨n, k⟩ (ih k)
theorem Pays.inv {m m' : M} {u : Nat} (k : Pays m u m') : (u = 0 ∧ m' = m) ∨ (u ≠ 0 ∧ Pays (payR m u) (grp m u) m') := by
  induction k using Pays.ind with
  | root m => exact .inl ⟨rfl, rfl⟩
  | up h k _ => exact .inr ⟨h, k⟩
structure Best (m : M) (g v : Nat) : Prop where
  lt : v < 30
  kid : kidB m g v = true
  least : ∀ i, i < 30 → kidB m g i = true → (m.u v).time < (m.u i).time ∨ ((m.u v).time = (m.u i).time ∧ v ≤ i)
def PickN (m : M) : Nat → Nat → Option Nat → Prop
  | 0, g, r => (g < 10 ∧ hasKid m g = false ∧ r = none) ∨ (10 ≤ g ∧ r = some g)
  | n + 1, g, r => (g < 10 ∧ hasKid m g = false ∧ r = none) ∨ (10 ≤ g ∧ r = some g) ∨ (g < 10 ∧ ∃ v, Best m g v ∧ PickN m n v r)
def Pick (m : M) (g : Nat) (r : Option Nat) : Prop := ∃ n, PickN m n g r
theorem Pick.none {m : M} {g : Nat} (h : g < 10) (k : hasKid m g = false) : Pick m g none := ⟨0, .inl ⟨h, k, rfl⟩⟩
theorem Pick.task {m : M} {u : Nat} (h : 10 ≤ u) : Pick m u (some u) := ⟨0, .inr ⟨h, rfl⟩⟩
theorem Pick.down {m : M} {g v : Nat} {r : Option Nat} (h : g < 10) (k : Best m g v) (p : Pick m v r) : Pick m g r := by
  obtain ⟨n, p⟩ := p
  exact ⟨n + 1, .inr (.inr ⟨h, v, k, p⟩)⟩
theorem Pick.ind {m : M} {motive : (g : Nat) → (r : Option Nat) → Pick m g r → Prop} (none : ∀ {g : Nat} (h : g < 10) (k : hasKid m g = false), motive g .none (Pick.none h k)) (task : ∀ {u : Nat} (h : 10 ≤ u), motive u (some u) (Pick.task h))
    (down : ∀ {g v : Nat} {r : Option Nat} (h : g < 10) (k : Best m g v) (p : Pick m v r), motive v r p → motive g r (Pick.down h k p)) {g : Nat} {r : Option Nat} (k : Pick m g r) : motive g r k := by
  obtain ⟨n, k⟩ := k
  induction n generalizing g r with
  | zero =>
    rcases k with ⟨h, k, rfl⟩ | ⟨h, rfl⟩
    · exact none h k
    · exact task h
  | succ n ih =>
    rcases k with ⟨h, k, rfl⟩ | ⟨h, rfl⟩ | ⟨h, v, b, k⟩
    · exact none h k
    · exact task h
    · exact down h b ⟨n, k⟩ (ih k)
theorem Pick.inv {m : M} {g : Nat} {r : Option Nat} (k : Pick m g r) : (g < 10 ∧ hasKid m g = false ∧ r = .none) ∨ (10 ≤ g ∧ r = some g) ∨ (g < 10 ∧ ∃ v, Best m g v ∧ Pick m v r) := by
  induction k using Pick.ind with
  | none h k => exact .inl ⟨h, k, rfl⟩
  | task h => exact .inr (.inl ⟨h, rfl⟩)
  | down h k p _ => exact .inr (.inr ⟨h, _, k, p⟩)
def RStep (m : M) (n : Nat) (m1 : M) : Prop := (0 < (m.u n).quota ∧ m.now % (m.u n).period = 0 ∧ Look (m.set n { m.u n with used := 0 }) n m1) ∨ (¬ (0 < (m.u n).quota ∧ m.now % (m.u n).period = 0) ∧ m1 = m)
def RenewN : Nat → M → Nat → M → Prop
  | 0, m, n, m' => n = 10 ∧ m' = m
  | k + 1, m, n, m' => (n = 10 ∧ m' = m) ∨ (n < 10 ∧ ∃ m1, RStep m n m1 ∧ RenewN k m1 (n + 1) m')
def Renew (m : M) (n : Nat) (m' : M) : Prop := ∃ k, RenewN k m n m'
theorem Renew.done (m : M) : Renew m 10 m := ⟨0, rfl, rfl⟩
theorem Renew.step {m m1 m' : M} {n : Nat} (h : n < 10) (k : RStep m n m1) (r : Renew m1 (n + 1) m') : Renew m n m' := by
  obtain ⟨i, r⟩ := r
  exact ⟨i + 1, .inr ⟨h, m1, k, r⟩⟩
theorem Renew.ind {motive : (m : M) → (n : Nat) → (m' : M) → Renew m n m' → Prop} (done : ∀ m, motive m 10 m (Renew.done m))
    (step : ∀ {m m1 m' : M} {n : Nat} (h : n < 10) (k : RStep m n m1) (r : Renew m1 (n + 1) m'), motive _ _ _ r → motive m n m' (Renew.step h k r)) {m : M} {n : Nat} {m' : M} (k : Renew m n m') : motive m n m' k := by
  obtain ⟨i, k⟩ := k
  induction i generalizing m n m' with
  | zero => obtain ⟨rfl, rfl⟩ := k; exact done m'
  | succ i ih =>
    rcases k with ⟨rfl, rfl⟩ | ⟨h, m1, k, r⟩
    · exact done m'
    · exact step h k ⟨i, r⟩ (ih r)
def up1 (m : M) : M := { m with now := m.now + 1 }
def Tick (m : M) (r : Int) (m' : M) : Prop := ∃ m1, Renew m 0 m1 ∧ ((Pick (up1 m1) 0 none ∧ r = -1 ∧ m' = up1 m1) ∨ ∃ t : Nat, Pick (up1 m1) 0 (some t) ∧ r = (t : Int) - 10 ∧ Pays (up1 m1) t m')
structure Rank (m : M) (rk : Nat → Nat) (R : Nat) : Prop where
  le : ∀ u, u < 30 → rk u ≤ R
  up : ∀ u, 0 < u → u < 30 → (m.u u).here = true → ∃ g : Nat, g < 10 ∧ (m.u u).inn = (g : Int) ∧ (m.u g).here = true ∧ rk g < rk u
structure Inv (m : M) : Prop where
  root : (m.u 0).here = true
  tree : ∃ rk R, Rank m rk R
  no : ∀ u, u < 30 → (m.u u).here = false → m.u u = Un.no
  quo : ∀ u, u < 30 → 0 < (m.u u).quota → 0 < u ∧ u < 10 ∧ 0 < (m.u u).period
  per : ∀ u, u < 30 → (m.u u).quota ≤ 100 ∧ (m.u u).period ≤ 100
  wt : ∀ u, 0 < u → u < 30 → (m.u u).here = true → 1 ≤ (m.u u).weight ∧ (m.u u).weight ≤ 1000
  fl : ∀ u, 0 < u → u < 30 → (m.u u).here = true → (m.u u).was = true → (m.u (grp m u)).floor ≤ (m.u u).time
  tm : ∀ u, u < 30 → (m.u u).time ≤ m.now * 1048576 ∧ (m.u u).floor ≤ m.now * 1048576 ∧ (m.u u).used ≤ m.now ∧ (m.u u).ran ≤ m.now
theorem Inv.grp {m : M} (h : Inv m) {u : Nat} (h0 : 0 < u) (hu : u < 30) (hh : (m.u u).here = true) : Fr.grp m u < 10 ∧ (m.u u).inn = (Fr.grp m u : Int) ∧ (m.u (Fr.grp m u)).here = true ∧ Fr.grp m u ≠ u := by
  obtain ⟨rk, R, hR⟩ := h.tree
  obtain ⟨g, h1, h2, h3, h4⟩ := hR.up u h0 hu hh
  have e : Fr.grp m u = g := by unfold Fr.grp; rw [h2]; rfl
  rw [e]
  exact ⟨h1, h2, h3, fun k => by rw [k] at h4; omega⟩
structure Turn (m : M) (u : Nat) (x : Un) : Prop where
  here : x.here = true
  inn : x.inn = (m.u u).inn
  weight : x.weight = (m.u u).weight
  floor : x.floor = (m.u u).floor
  quo : 0 < x.quota → 0 < u ∧ u < 10 ∧ 0 < x.period
  per : x.quota ≤ 100 ∧ x.period ≤ 100
  fl : 0 < u → x.was = true → (m.u (Fr.grp m u)).floor ≤ x.time
  tm : x.time ≤ m.now * 1048576 ∧ x.used ≤ m.now ∧ x.ran ≤ m.now
theorem grp_set {m : M} {u : Nat} {x : Un} (h : x.inn = (m.u u).inn) (v : Nat) : grp (m.set u x) v = grp m v := by
  unfold grp
  by_cases e : v = u
  · rw [e, set_same, h]
  · rw [set_ne _ _ _ _ e]
theorem here_set {m : M} {u : Nat} {x : Un} (h : x.here = (m.u u).here) (v : Nat) : ((m.set u x).u v).here = (m.u v).here := by
  by_cases e : v = u
  · rw [e, set_same, h]
  · rw [set_ne _ _ _ _ e]
theorem floor_set {m : M} {u : Nat} {x : Un} (h : x.floor = (m.u u).floor) (v : Nat) : ((m.set u x).u v).floor = (m.u v).floor := by
  by_cases e : v = u
  · rw [e, set_same, h]
  · rw [set_ne _ _ _ _ e]
theorem inn_set {m : M} {u : Nat} {x : Un} (h : x.inn = (m.u u).inn) (v : Nat) : ((m.set u x).u v).inn = (m.u v).inn := by
  by_cases e : v = u
  · rw [e, set_same, h]
  · rw [set_ne _ _ _ _ e]
theorem Rank.turn {m m' : M} {rk : Nat → Nat} {R : Nat} (h : Rank m rk R) (hh : ∀ v, (m'.u v).here = (m.u v).here) (hi : ∀ v, (m'.u v).inn = (m.u v).inn) : Rank m' rk R :=
  ⟨h.le, fun v h0 hv hv' => by
    rw [hh] at hv'
    obtain ⟨g, h1, h2, h3, h4⟩ := h.up v h0 hv hv'
    exact ⟨g, h1, by rw [hi]; exact h2, by rw [hh]; exact h3, h4⟩⟩
theorem Inv.turn {m : M} (h : Inv m) {u : Nat} (hu : u < 30) (hh : (m.u u).here = true) {x : Un} (t : Turn m u x) : Inv (m.set u x) := by
  have hhe : ∀ v, ((m.set u x).u v).here = (m.u v).here := here_set (t.here.trans hh.symm)
  have hg : ∀ v, Fr.grp (m.set u x) v = Fr.grp m v := grp_set t.inn
  have hf : ∀ v, ((m.set u x).u v).floor = (m.u v).floor := floor_set t.floor
  refine ⟨by rw [hhe]; exact h.root, ?_, fun v hv hn => ?_, fun v hv hq => ?_, fun v hv => ?_, fun v h0 hv hv' => ?_, fun v h0 hv hv' hw => ?_, fun v hv => ?_⟩
  · obtain ⟨rk, R, hR⟩ := h.tree
    exact ⟨rk, R, hR.turn hhe (inn_set t.inn)⟩
  · rw [hhe] at hn
    have : v ≠ u := fun e => by rw [e, hh] at hn; cases hn
    rw [set_ne _ _ _ _ this]; exact h.no v hv hn
  · by_cases e : v = u
    · subst e; rw [set_same] at hq ⊢; exact t.quo hq
    · rw [set_ne _ _ _ _ e] at hq ⊢; exact h.quo v hv hq
  · by_cases e : v = u
    · subst e; rw [set_same]; exact t.per
    · rw [set_ne _ _ _ _ e]; exact h.per v hv
  · rw [hhe] at hv'
    have := h.wt v h0 hv hv'
    by_cases e : v = u
    · subst e; rw [set_same, t.weight]; exact this
    · rw [set_ne _ _ _ _ e]; exact this
  · rw [hg, hf]
    rw [hhe] at hv'
    by_cases e : v = u
    · subst e; rw [set_same] at hw ⊢; exact t.fl h0 hw
    · rw [set_ne _ _ _ _ e] at hw ⊢; exact h.fl v h0 hv hv' hw
  · rw [set_now]
    by_cases e : v = u
    · subst e; rw [set_same]; exact ⟨t.tm.1, by rw [t.floor]; exact (h.tm v hv).2.1, t.tm.2.1, t.tm.2.2⟩
    · rw [set_ne _ _ _ _ e]; exact h.tm v hv
theorem Turn.of {m : M} (h : Inv m) {u : Nat} (hu : u < 30) (hh : (m.u u).here = true) : Turn m u (m.u u) :=
  ⟨hh, rfl, rfl, rfl, h.quo u hu, h.per u hu, fun h0 hw => h.fl u h0 hu hh hw, (h.tm u hu).1, (h.tm u hu).2.2⟩
theorem line_turn {m : M} (h : Inv m) {u : Nat} (h0 : 0 < u) (hu : u < 30) (hh : (m.u u).here = true) : Turn m u (lineU m u) := by
  have g := h.grp h0 hu hh
  have t := h.tm u hu
  have tg := h.tm (Fr.grp m u) (by omega)
  have f := h.fl u h0 hu hh
  refine ⟨hh, rfl, rfl, rfl, h.quo u hu, h.per u hu, fun _ hw => ?_, ?_, t.2.2.1, t.2.2.2⟩
  · have hw' : ready m u = true := hw
    show _ ≤ if ready m u && !(m.u u).was then max (m.u u).time (m.u (Fr.grp m u)).floor else (m.u u).time
    cases hb : (m.u u).was
    · simp [hw']; omega
    · simp; exact f hb
  · show (if ready m u && !(m.u u).was then max (m.u u).time (m.u (Fr.grp m u)).floor else (m.u u).time) ≤ _
    split <;> omega
theorem Inv.line {m : M} (h : Inv m) {u : Nat} (h0 : 0 < u) (hu : u < 30) (hh : (m.u u).here = true) : Inv (line m u) := h.turn hu hh (line_turn h h0 hu hh)
theorem line_here (m : M) (u v : Nat) : ((line m u).u v).here = (m.u v).here := here_set (m := m) (x := lineU m u) rfl v
theorem line_inn (m : M) (u v : Nat) : ((line m u).u v).inn = (m.u v).inn := inn_set (m := m) (x := lineU m u) rfl v
theorem line_grp (m : M) (u v : Nat) : grp (line m u) v = grp m v := grp_set (m := m) (x := lineU m u) rfl v
theorem look_here {m m' : M} {u : Nat} (k : Look m u m') : m'.now = m.now ∧ ∀ v, (m'.u v).here = (m.u v).here ∧ (m'.u v).inn = (m.u v).inn := by
  induction k using Look.ind with
  | root m => exact ⟨rfl, fun v => ⟨rfl, rfl⟩⟩
  | up h0 _ ih => exact ⟨ih.1, fun v => ⟨(ih.2 v).1.trans (line_here _ _ _), (ih.2 v).2.trans (line_inn _ _ _)⟩⟩
theorem Inv.look {m m' : M} {u : Nat} (k : Look m u m') : Inv m → u < 30 → (m.u u).here = true → Inv m' := by
  induction k using Look.ind with
  | root m => exact fun h _ _ => h
  | up h0 _ ih =>
    intro h hu hh
    have g := h.grp (by omega) hu hh
    exact ih (h.line (by omega) hu hh) (by omega) (by rw [line_here]; exact g.2.2.1)
theorem Inv.payF {m : M} (h : Inv m) {u : Nat} (h0 : 0 < u) (hu : u < 30) (hh : (m.u u).here = true)
    (hl : ∀ v, 0 < v → v < 30 → (m.u v).here = true → Fr.grp m v = Fr.grp m u → (m.u v).was = true → (m.u u).time ≤ (m.u v).time) : Inv (payF m u) := by
  have g := h.grp h0 hu hh
  obtain ⟨k, hk⟩ : ∃ k, Fr.grp m u = k := ⟨_, rfl⟩
  unfold Fr.payF
  rw [hk] at g hl ⊢
  obtain ⟨x, hx⟩ : ∃ x : Un, { m.u k with floor := max (m.u k).floor (m.u u).time } = x := ⟨_, rfl⟩
  rw [hx]
  have e1 : x.here = (m.u k).here := by rw [← hx]
  have e2 : x.inn = (m.u k).inn := by rw [← hx]
  have hhe := here_set (m := m) e1
  have hgr := grp_set (m := m) e2
  refine ⟨by rw [hhe]; exact h.root, ?_, fun v hv hn => ?_, fun v hv hq => ?_, fun v hv => ?_, fun v h0 hv hv' => ?_, fun v h0' hv hv' hw => ?_, fun v hv => ?_⟩
  · obtain ⟨rk, R, hR⟩ := h.tree
    exact ⟨rk, R, hR.turn hhe (inn_set e2)⟩
  · rw [hhe] at hn
    have : v ≠ k := fun e => by rw [e, g.2.2.1] at hn; cases hn
    rw [set_ne _ _ _ _ this]; exact h.no v hv hn
  · by_cases e : v = k
    · subst e; rw [set_same, ← hx] at hq ⊢; exact h.quo v hv hq
    · rw [set_ne _ _ _ _ e] at hq ⊢; exact h.quo v hv hq
  · by_cases e : v = k
    · subst e; rw [set_same, ← hx]; exact h.per v hv
    · rw [set_ne _ _ _ _ e]; exact h.per v hv
  · rw [hhe] at hv'
    by_cases e : v = k
    · subst e; rw [set_same, ← hx]; exact h.wt v h0 hv hv'
    · rw [set_ne _ _ _ _ e]; exact h.wt v h0 hv hv'
  · rw [hgr]
    rw [hhe] at hv'
    have hw' : (m.u v).was = true := by
      by_cases e : v = k
      · subst e; rw [set_same, ← hx] at hw; exact hw
      · rw [set_ne _ _ _ _ e] at hw; exact hw
    have ht : ((m.set k x).u v).time = (m.u v).time := by
      by_cases e : v = k
      · subst e; rw [set_same, ← hx]
      · rw [set_ne _ _ _ _ e]
    have hf := h.fl v h0' hv hv' hw'
    rw [ht]
    by_cases e : Fr.grp m v = k
    · rw [e, set_same, ← hx]
      have := hl v h0' hv hv' e hw'
      rw [e] at hf
      show max _ _ ≤ _
      omega
    · rw [set_ne _ _ _ _ e]; exact hf
  · rw [set_now]
    by_cases e : v = k
    · subst e; rw [set_same, ← hx]
      have tv := h.tm v hv
      have tu := h.tm u hu
      exact ⟨tv.1, Nat.max_le.2 ⟨tv.2.1, tu.1⟩, tv.2.2⟩
    · rw [set_ne _ _ _ _ e]; exact h.tm v hv
end Fr
end Go.Proofs.YtghogbngmcolmaaGreat.Fa

import Derived.Deep.CutRange
import Derived.Deep.CutBlock
import Derived.Handy
import Derived.OpenShut
import Derived.ProofKit
import Derived.Deep.Slices
import Derived.Deep.MidRow
import Derived.Laws.Rows
import Derived.Deep.RegionHeld3
import Derived.Test.YtghogbngmcolmaaGreatQba
import Derived.Test.YtghogbngmcolmaaGreatQay
namespace Go.Proofs.YtghogbngmcolmaaGreat.Fa
open Go.RowKit
open Hp (Q)
open Fr (Un M)
def q0 : Q := ⟨0, fun _ => 0, fun _ => 0, fun _ => 0⟩
theorem q0_ok : Hp.Okp q0 := ⟨by show (0 : Nat) ≤ 64; omega, fun i hi => absurd hi (by show ¬ i < 0; omega), fun j _ => ⟨Nat.le_refl _, fun h => absurd h (by show ¬ (0 : Nat) < 0; omega)⟩⟩
theorem q0_full : Hp.Full q0 := fun i _ hi => absurd hi (by show ¬ i < 0; omega)
def zeroF (i : Nat) : Value := if i = 0 then .int .i64 0 else if i < 121 then unitC 1 Un.no ((i - 1) % 4) else if i < 2101 then (if (i - 121) % 198 < 193 then (if (i - 121) % 198 < 129 then .int .i64 0 else .int .u64 0) else grpC Un.no ((i - 121) % 198 - 193)) else taskC Un.no ((i - 2101) % 2)
def zeroA : Array Value := ((List.range 2141).map zeroF).toArray
theorem zeroA_at (i : Nat) (h : i < 2141) : zeroA[i]? = some (zeroF i) := by simp [zeroA, h]
theorem encq0 (i : Nat) (h : i < 193) : (enc q0)[i]? = some (if i < 129 then .int .i64 0 else .int .u64 0) := by
  rcases Nat.lt_or_ge i 1 with hj | hj
  · obtain rfl : i = 0 := by omega
    rw [enc_many]; rfl
  · rcases Nat.lt_or_ge i 65 with hj1 | hj1
    · obtain ⟨j, rfl⟩ : ∃ j, i = 1 + j := ⟨i - 1, by omega⟩
      rw [enc_heap q0 j (by omega), if_pos (by omega)]; rfl
    · rcases Nat.lt_or_ge i 129 with hj2 | hj2
      · obtain ⟨j, rfl⟩ : ∃ j, i = 65 + j := ⟨i - 65, by omega⟩
        rw [enc_place q0 j (by omega), if_pos (by omega)]; rfl
      · obtain ⟨j, rfl⟩ : ∃ j, i = 129 + j := ⟨i - 129, by omega⟩
        rw [enc_keys q0 j (by omega), if_neg (by omega)]; rfl
theorem zero_eq : Tryz.zeroCells174 = zeroA := by kernel_rfl
def mz : M := ⟨fun _ => Un.no, 0⟩
theorem unit_no (u f : Nat) (hf : f < 4) : unitC u Un.no f = unitC 1 Un.no f := by
  refine four (P := fun f => unitC u Un.no f = unitC 1 Un.no f) rfl rfl ?_ rfl f hf
  show Value.int .u64 ((if u = 0 then 0 else Un.no.weight : Nat) : Int) = _
  split <;> rfl
theorem sat_zero {w : World} {b : Nat} (h : w.heap[b]? = some (.cells zeroA 174 (0, 0))) : SAt w b mz (fun _ => q0) := by
  refine ⟨⟨_, h, by simp [zeroA]⟩, ?_, fun u f hu hf => ?_, fun g i hg hi => ?_, fun g f hg hf => ?_, fun n f hn hf => ?_⟩
  · rw [cell_blk h, zeroA_at 0 (by omega)]; rfl
  · rw [cell_blk h, zeroA_at _ (by omega)]
    unfold zeroF
    rw [if_neg (by omega), if_pos (by omega), show (1 + u * 4 + f - 1) % 4 = f by omega]
    rw [show mz.u u = Un.no from rfl, unit_no u f hf]
  · rw [cell_blk h, zeroA_at _ (by omega), encq0 i hi]
    unfold zeroF
    rw [if_neg (by omega), if_neg (by omega), if_pos (by omega), show (121 + g * 198 + i - 121) % 198 = i by omega, if_pos hi]
  · rw [cell_blk h, zeroA_at _ (by omega)]
    unfold zeroF
    rw [if_neg (by omega), if_neg (by omega), if_pos (by omega), show (121 + g * 198 + (193 + f) - 121) % 198 = 193 + f by omega, if_neg (by omega), show 193 + f - 193 = f by omega]
    rfl
  · rw [cell_blk h, zeroA_at _ (by omega)]
    unfold zeroF
    rw [if_neg (by omega), if_neg (by omega), if_neg (by omega), show (2101 + n * 2 + f - 2101) % 2 = f by omega]
    rfl
theorem SAt.root {w : World} {b : Nat} (h : SAt w b mz (fun _ => q0)) : SAt ((((w.setCell ⟨b, 1, none⟩ (.bool true)).setCell ⟨b, 2, none⟩ (.int .i64 (-1))).setCell ⟨b, 3, none⟩ (.int .u64 0)).setCell ⟨b, 4, none⟩ (.int .u64 0)) b Fr.m0 (fun _ => q0) := by
  have h1 := (h.setHere 0 true (by omega)).setIn 0 (-1) (by omega)
  have h2 := h1.setUnit 0 2 (by omega) (by omega) (.int .u64 0) ((({ Un.no with here := true, inn := -1, weight := 1 } : Un))) (four (by rw [Fr.set_same]; rfl) (by rw [Fr.set_same]; rfl) rfl (by rw [Fr.set_same]; rfl)) (fun k => by rw [Fr.set_same]; rfl) (fun k => by rw [Fr.set_same]; rfl)
  have h3 := h2.setTime 0 0 (by omega)
  simp only [Fr.set_same, Fr.set_set] at h3
  have e : Fr.M.set mz 0 { here := true, awake := Un.no.awake, frozen := Un.no.frozen, was := Un.no.was, inn := -1, weight := 1, ran := Un.no.ran, time := 0, floor := Un.no.floor, quota := Un.no.quota, period := Un.no.period, used := Un.no.used } = Fr.m0 := rfl
  rw [e] at h3
  exact h3
theorem fair_new {w : World} {b : Nat} (h : SAt w b Fr.m0 (fun _ => q0)) : Fair w b Fr.m0 := by
  have hk : ∀ g u, Fr.kidB Fr.m0 g u = false := fun g u => by
    cases k : Fr.kidB Fr.m0 g u
    · rfl
    · have := Fr.kidB_iff.1 k
      rw [Fr.m0_ne u (by omega)] at this
      exact absurd this.2.1 (by decide)
  refine ⟨_, h, fun g hg => ⟨q0_ok, q0_full⟩, fun g u hg hu => ?_, fun g u hg hu k => ?_⟩
  · rw [hk]; simp [q0]
  · rw [hk] at k; cases k
set_option maxRecDepth 100000 in
set_option maxHeartbeats 1000000 in
theorem new_any (w : World) : Calls Tryz.prog 54 #[] w fun e w' => e = .returned (.pointer (some ⟨w.heap.size, 0, none⟩)) ∧ Fair w' w.heap.size Fr.m0 ∧ Below w.heap.size w w' ∧ w.heap.size < w'.heap.size := by
  have Z : (w.alloc (.cells Tryz.zeroCells174 174)).heap[w.heap.size]? = some (.cells zeroA 174 (0, 0)) := by
    rw [zero_eq]; exact heap_alloc_new w _
  have Z2 : (w.alloc (.cells ((((Tryz.zeroCells174.setIfInBounds 1 (Value.bool true)).setIfInBounds 2 (Value.int IntKind.i64 (-1))).setIfInBounds 3 (Value.int IntKind.u64 0)).setIfInBounds 4 (Value.int IntKind.u64 0)) 174)).heap[w.heap.size]? = some (.cells ((((zeroA.setIfInBounds 1 (Value.bool true)).setIfInBounds 2 (Value.int IntKind.i64 (-1))).setIfInBounds 3 (Value.int IntKind.u64 0)).setIfInBounds 4 (Value.int IntKind.u64 0)) 174 (0, 0)) := by
    rw [zero_eq]; exact heap_alloc_new w _
  have FIN : Hid (Fair (w.alloc (.cells ((((Tryz.zeroCells174.setIfInBounds 1 (Value.bool true)).setIfInBounds 2 (Value.int IntKind.i64 (-1))).setIfInBounds 3 (Value.int IntKind.u64 0)).setIfInBounds 4 (Value.int IntKind.u64 0)) 174)) w.heap.size Fr.m0) := Hid.intro (by
    have h := (sat_zero Z).root
    refine (fair_new h).same ?_
    rw [Z2, blk_set (blk_set (blk_set (blk_set Z 1 _) 2 _) 3 _) 4 _])
  clear Z Z2
  go_enter Tryz.func54, Tryz.ntmps54
  go_wp2_with fail
  go_ret
  exact ⟨rfl, FIN.out, (Below.refl _ _).alloc (Nat.le_refl _) _, by simp⟩
end Go.Proofs.YtghogbngmcolmaaGreat.Fa
namespace Go.Proofs.YtghogbngmcolmaaGreat.Fa
namespace Fr
def SyncBut (m : M) (x : Nat) : Prop := ∀ v, v ≠ x → 0 < v → v < 30 → (m.u v).here = true → (m.u v).was = ready m v
def Sync (m : M) : Prop := ∀ v, 0 < v → v < 30 → (m.u v).here = true → (m.u v).was = ready m v
theorem Sync.but {m : M} (h : Sync m) (x : Nat) : SyncBut m x := fun v _ => h v
theorem SyncBut.root {m : M} (h : SyncBut m 0) : Sync m := fun v v0 => h v (by omega) v0
theorem kid_grp {m : M} {g v : Nat} (h : kidB m g v = true) : grp m v = g := by unfold grp; rw [(kidB_iff.1 h).2.2.1]; rfl
theorem ready_other {m m' : M} {u v : Nat} (hvu : v ≠ u) (hvg : v ≠ grp m u) (hi : ∀ x, (m'.u x).inn = (m.u x).inn) (hh : ∀ x, (m'.u x).here = (m.u x).here) (hw : ∀ x, x ≠ u → (m'.u x).was = (m.u x).was)
    (ha : (m'.u v).awake = (m.u v).awake ∧ (m'.u v).frozen = (m.u v).frozen ∧ (m'.u v).quota = (m.u v).quota ∧ (m'.u v).used = (m.u v).used) : ready m' v = ready m v := by
  refine ready_of (fun _ => ha.1) (fun _ => ha.2) (fun _ x _ => ?_)
  by_cases e : x = u
  · subst e
    have e1 : kidB m v x = false := by
      cases hk : kidB m v x
      · rfl
      · exact absurd (kid_grp hk).symm hvg
    have e2 : kidB m' v x = false := by
      cases hk : kidB m' v x
      · rfl
      · have := kid_grp hk
        unfold grp at this; rw [hi] at this
        exact absurd this.symm hvg
    rw [e1, e2]
  · unfold kidB; rw [hh, hi, hw x e]
theorem line_keep (m : M) (u v : Nat) : (line m u).u v = { m.u v with was := ((line m u).u v).was, time := ((line m u).u v).time } := by
  unfold line
  by_cases e : v = u
  · subst e; rw [set_same]; rfl
  · rw [set_ne _ _ _ _ e]
theorem line_was {m : M} {u v : Nat} (h : v ≠ u) : ((line m u).u v).was = (m.u v).was := by unfold line; rw [set_ne _ _ _ _ h]
theorem line_self {m : M} {u : Nat} (hg : grp m u ≠ u) : ((line m u).u u).was = ready (line m u) u := by
  have e : ((line m u).u u).was = ready m u := by unfold line; rw [set_same]; rfl
  rw [e]
  refine (ready_of (fun _ => ?_) (fun _ => ?_) (fun _ x _ => ?_)).symm
  · rw [line_keep]
  · rw [line_keep]; exact ⟨rfl, rfl, rfl⟩
  · by_cases k : x = u
    · subst k
      rw [kid_self hg, kid_self (by rw [line_grp]; exact hg)]
    · unfold kidB; rw [line_here, line_inn, line_was k]
theorem SyncBut.line {m : M} {u : Nat} (h : SyncBut m u) (hg : grp m u ≠ u) : SyncBut (line m u) (grp m u) := by
  intro v hv v0 hv' hh
  by_cases e : v = u
  · subst e; exact line_self hg
  · rw [line_was e, ready_other (m' := Fr.line m u) e hv (fun x => line_inn m u x) (fun x => line_here m u x) (fun x hx => line_was hx) (by rw [line_keep]; exact ⟨rfl, rfl, rfl, rfl⟩)]
    rw [line_here] at hh
    exact h v e v0 hv' hh
theorem SyncBut.look {m m' : M} {u : Nat} (k : Look m u m') : Inv m → u < 30 → (m.u u).here = true → SyncBut m u → Sync m' := by
  induction k using Look.ind with
  | root m => exact fun _ _ _ h => h.root
  | up h0 _ ih =>
    intro hI hu hh h
    have g := hI.grp (by omega) hu hh
    exact ih (hI.line (by omega) hu hh) (by omega) (by rw [line_here]; exact g.2.2.1) (h.line g.2.2.2)
theorem look_keep {m m' : M} {u : Nat} (k : Look m u m') (v : Nat) : m'.u v = { m.u v with was := (m'.u v).was, time := (m'.u v).time } := by
  induction k using Look.ind with
  | root m => rfl
  | up h0 _ ih => rw [ih, line_keep]
theorem payR_self {m : M} {u : Nat} (hg : grp m u ≠ u) : (payR m u).u u = { m.u u with time := (m.u u).time + 1048576 / (m.u u).weight, used := if 0 < (m.u u).quota then (m.u u).used + 1 else (m.u u).used, ran := (m.u u).ran + 1, was := ((payR m u).u u).was } := by
  have hg' : grp (ranUp m u) u ≠ u := by rw [ranUp_grp]; exact hg
  unfold payR
  rw [payC_eq, set_same, payF_u hg', ranUp_u]
  unfold payU
  by_cases k : 10 ≤ u
  · rw [if_pos k, if_neg (by omega)]
  · rw [if_neg k, if_pos (by omega)]
theorem payR_other {m : M} {u v : Nat} (hv : v ≠ u) : (payR m u).u v = { m.u v with floor := if v = grp m u then max (m.u v).floor (m.u u).time else (m.u v).floor } := by
  unfold payR
  rw [payC_ne hv]
  unfold payF
  rw [ranUp_grp]
  by_cases e : v = grp m u
  · rw [if_pos e]
    subst e
    rw [set_same, ranUp_ne hv, (ranUp_here m u u).2.2.2.1]
  · rw [if_neg e, set_ne _ _ _ _ e, ranUp_ne hv]
theorem payR_was {m : M} {u : Nat} (hg : grp m u ≠ u) : ((payR m u).u u).was = ready (payR m u) u := by
  have hg' : grp (ranUp m u) u ≠ u := by rw [ranUp_grp]; exact hg
  have e : ((payR m u).u u).was = ready (payT (ranUp m u) u) u := by unfold payR payC setWas; rw [set_same]
  rw [e]
  have hT : grp (payT (ranUp m u) u) u ≠ u := by unfold grp; rw [payT_u hg']; exact hg'
  unfold payR payC
  refine (ready_of (fun _ => ?_) (fun _ => ?_) (fun _ x _ => ?_)).symm
  · unfold setWas; rw [set_same]
  · unfold setWas; rw [set_same]; exact ⟨rfl, rfl, rfl⟩
  · by_cases k : x = u
    · subst k
      rw [kid_self hT, kid_self]
      unfold grp setWas; rw [set_same]; exact hT
    · unfold setWas; exact kid_ne k
theorem SyncBut.pay {m : M} {u : Nat} (h : SyncBut m u) (hg : grp m u ≠ u) : SyncBut (payR m u) (grp m u) := by
  intro v hv v0 hv' hh
  by_cases e : v = u
  · subst e; exact payR_was hg
  · have o := payR_other (m := m) e
    rw [(payR_tw e).2.1, ready_other (m' := payR m u) e hv (fun x => payR_inn m u x) (fun x => payR_here m u x) (fun x hx => (payR_tw hx).2.1) (by rw [o]; exact ⟨rfl, rfl, rfl, rfl⟩)]
    rw [payR_here] at hh
    exact h v e v0 hv' hh
theorem SyncBut.pays {m m' : M} {u : Nat} (k : Pays m u m') : ∀ {rk : Nat → Nat} {R : Nat}, Going m rk R u → SyncBut m u → Sync m' := by
  induction k using Pays.ind with
  | root m => exact fun _ h => h.root
  | up h0 _ ih =>
    intro rk R g h
    have f := g.facts (by omega)
    exact ih (g.next (by omega)) (h.pay (fun e => by have := f.2.2.2.2.1; rw [e] at this; omega))
theorem pays_root {m m' : M} (k : Pays m 0 m') : m' = m := by
  rcases k.inv with ⟨_, e⟩ | ⟨h, _⟩
  · exact e
  · exact absurd rfl h
theorem pays_up {m m' : M} {u : Nat} (h0 : u ≠ 0) (k : Pays m u m') : Pays (payR m u) (grp m u) m' := by
  rcases k.inv with ⟨e, _⟩ | ⟨_, k⟩
  · exact absurd e h0
  · exact k
theorem pays_keep {m m' : M} {u : Nat} (k : Pays m u m') : ∀ {rk : Nat → Nat} {R : Nat}, Going m rk R u → ∀ v, (m'.u v).here = (m.u v).here ∧ (m'.u v).inn = (m.u v).inn ∧ (m'.u v).weight = (m.u v).weight ∧ (m'.u v).awake = (m.u v).awake ∧ (m'.u v).frozen = (m.u v).frozen ∧ (m'.u v).quota = (m.u v).quota ∧ (m'.u v).period = (m.u v).period := by
  induction k using Pays.ind with
  | root m => exact fun _ v => ⟨rfl, rfl, rfl, rfl, rfl, rfl, rfl⟩
  | @up m m' u h0 _ ih =>
    intro rk R g v
    have f := g.facts (by omega)
    have hg : grp m u ≠ u := fun e => by have := f.2.2.2.2.1; rw [e] at this; omega
    have i := ih (g.next (by omega)) v
    by_cases e : v = u
    · subst e
      rw [payR_self hg] at i; exact i
    · rw [payR_other e] at i; exact i
theorem renew_none {m m' : M} {n : Nat} (k : Renew m n m') : (∀ u, u < 10 → (m.u u).quota = 0) → m' = m := by
  induction k using Renew.ind with
  | done => exact fun _ => rfl
  | step hn k _ ih =>
    intro h
    rcases k with ⟨hq, _, _⟩ | ⟨_, rfl⟩
    · rw [h _ hn] at hq; omega
    · exact ih h
theorem pick_some {m : M} (hS : Sync m) {g : Nat} {r : Option Nat} (k : Pick m g r) : g < 10 → hasKid m g = true → ∃ t, r = some t := by
  induction k using Pick.ind with
  | none h hk => intro _ h'; rw [hk] at h'; cases h'
  | task h => intro h'; omega
  | @down g v r h b p ih =>
    intro _ _
    by_cases e : v < 10
    · have kb := kidB_iff.1 b.kid
      have := hS v kb.1 b.lt kb.2.1
      rw [kb.2.2.2] at this
      unfold ready at this
      rw [if_neg (by omega)] at this
      have := this.symm
      rw [Bool.and_eq_true] at this
      exact ih e this.1
    · rcases p.inv with ⟨h, _⟩ | ⟨_, e⟩ | ⟨h, _⟩
      · omega
      · exact ⟨_, e⟩
      · omega
theorem SyncBut.set {m : M} (hS : Sync m) {u : Nat} {x : Un} (h1 : x.here = (m.u u).here) (h2 : x.inn = (m.u u).inn) (h3 : x.was = (m.u u).was) : SyncBut (m.set u x) u := by
  intro v hv v0 hv' hh
  rw [set_ne _ _ _ _ hv] at hh ⊢
  rw [hS v v0 hv' hh]
  refine (ready_of (fun _ => ?_) (fun _ => ?_) (fun _ y _ => kid_set h1 h2 h3)).symm
  · rw [set_ne _ _ _ _ hv]
  · rw [set_ne _ _ _ _ hv]; exact ⟨rfl, rfl, rfl⟩
theorem Sync.wake {m m' : M} {z : Int} {on : Bool} (hI : Inv m) (hS : Sync m) (k : WakeTo m z on m') : Sync m' := by
  rcases k with ⟨k1, k2⟩ | ⟨_, rfl⟩
  · obtain ⟨n, rfl, hn, hh⟩ := taskE_zero k1
    rw [Int.toNat_natCast] at k2
    have t := Turn.of hI (show 10 + n < 30 by omega) hh
    exact SyncBut.look k2 (hI.turn (by omega) hh ⟨t.here, t.inn, t.weight, t.floor, t.quo, t.per, t.fl, t.tm⟩) (by omega) (by rw [set_same]; exact hh) (SyncBut.set hS rfl rfl rfl)
  · exact hS
theorem Sync.quota {m m' : M} {z q p : Int} (hI : Inv m) (hS : Sync m) (k : QuotaTo m z q p m') : Sync m' := by
  rcases k with ⟨k1, k2⟩ | ⟨_, rfl⟩
  · obtain ⟨l, hq⟩ := quotaE_zero k1
    obtain ⟨n, rfl, h0, hn, hh⟩ := lowerE_zero l
    rw [Int.toNat_natCast] at k2
    exact SyncBut.look k2 (hI.turn (by omega) hh (quota_turn hI h0 hn hh hq)) (by omega) (by rw [set_same]; exact hh) (SyncBut.set hS rfl rfl rfl)
  · exact hS
theorem Sync.rstep {m m1 : M} {n : Nat} (hI : Inv m) (hS : Sync m) (hn : n < 10) (k : RStep m n m1) : Sync m1 := by
  rcases k with ⟨hq, _, k⟩ | ⟨_, rfl⟩
  · have hh := here_of_quota hI (by omega) hq
    exact SyncBut.look k (hI.zeroU (by omega) hh) (by omega) (by rw [set_same]; exact hh) (SyncBut.set hS rfl rfl rfl)
  · exact hS
theorem Sync.renew {m m' : M} {n : Nat} (k : Renew m n m') : Inv m → Sync m → Sync m' := by
  induction k using Renew.ind with
  | done => exact fun _ h => h
  | step hn k _ ih => exact fun hI h => ih (hI.rstep hn k) (h.rstep hI hn k)
theorem Sync.up1 {m : M} (h : Sync m) : Sync (up1 m) := h
theorem Sync.tick {m m' : M} {r : Int} (hI : Inv m) (hS : Sync m) (k : Tick m r m') : Sync m' := by
  obtain ⟨m1, k1, k2⟩ := k
  have h1 := Inv.renew k1 hI
  have s1 := Sync.renew k1 hI hS
  rcases k2 with ⟨_, _, rfl⟩ | ⟨t, p, _, q⟩
  · exact s1.up1
  · obtain ⟨rk, R, g, _⟩ := going_of h1 p
    exact SyncBut.pays q g (s1.up1.but t)
theorem sync0 : Sync m0 := fun v v0 _ hh => by rw [m0_ne v (by omega)] at hh; cases hh
theorem Sync.add {m : M} (hI : Inv m) (hS : Sync m) {u g wt : Nat} (hu : u < 30) (hn : (m.u u).here = false) : Sync (m.set u (Un.new g wt)) := by
  have hw : (m.u u).was = false := by rw [hI.no u hu hn]; rfl
  have hk : ∀ k x, kidB (m.set u (Un.new g wt)) k x = kidB m k x := fun k x => by
    by_cases e : x = u
    · subst e
      unfold kidB
      rw [set_same, hn]
      simp [Un.new]
    · exact kid_ne e
  intro v v0 hv hh
  by_cases e : v = u
  · subst e
    rw [set_same]
    show false = _
    unfold ready
    by_cases k : 10 ≤ v
    · rw [if_pos k, set_same]; rfl
    · rw [if_neg k]
      have : hasKid (m.set v (Un.new g wt)) v = false := by
        cases hc : hasKid (m.set v (Un.new g wt)) v
        · rfl
        · obtain ⟨x, hx, kx⟩ := hasKid_iff.1 hc
          rw [hk] at kx
          have kb := kidB_iff.1 kx
          exact absurd (kid_grp kx) (no_kid hI hn x kb.1 hx kb.2.1)
      rw [this]; rfl
  · rw [set_ne _ _ _ _ e] at hh ⊢
    rw [hS v v0 hv hh]
    refine (ready_of (fun _ => ?_) (fun _ => ?_) (fun _ x _ => hk v x)).symm
    · rw [set_ne _ _ _ _ e]
    · rw [set_ne _ _ _ _ e]; exact ⟨rfl, rfl, rfl⟩
end Fr
end Go.Proofs.YtghogbngmcolmaaGreat.Fa
namespace Go.Proofs.YtghogbngmcolmaaGreat.Fa
open Go.RowKit
open Fr (Un M)
theorem taskE_cases (m : M) (z : Int) : Fr.taskE m z = 0 ∨ 0 < Fr.taskE m z := by unfold Fr.taskE; split; exact .inr (by omega); split; exact .inl rfl; exact .inr (by omega)
end Go.Proofs.YtghogbngmcolmaaGreat.Fa
namespace Go.Proofs.YtghogbngmcolmaaGreat.Fa
namespace Fr
def DropTo (m : M) (z : Int) (m' : M) : Prop := (taskE m z = 0 ∧ ∃ m1, Look (m.set (10 + z.toNat) { m.u (10 + z.toNat) with awake := false }) (10 + z.toNat) m1 ∧ m' = m1.set (10 + z.toNat) Un.no) ∨ (taskE m z ≠ 0 ∧ m' = m)
theorem Inv.drop {m : M} (h : Inv m) {u : Nat} (h0 : 0 < u) (nk : ∀ v, 0 < v → v < 30 → (m.u v).here = true → Fr.grp m v ≠ u) : Inv (m.set u Un.no) := by
  have hgr : ∀ v, v ≠ u → Fr.grp (m.set u Un.no) v = Fr.grp m v := fun v hv => by unfold Fr.grp; rw [set_ne _ _ _ _ hv]
  refine ⟨?_, ?_, fun v hv hn' => ?_, fun v hv hq => ?_, fun v hv => ?_, fun v v0 hv hv' => ?_, fun v v0 hv hv' hw' => ?_, fun v hv => ?_⟩
  · rw [set_ne _ _ _ _ (by omega)]; exact h.root
  · obtain ⟨rk, R, hR⟩ := h.tree
    refine ⟨rk, R, hR.le, fun v v0 hv hv' => ?_⟩
    by_cases e : v = u
    · subst e; rw [set_same] at hv'; cases hv'
    · rw [set_ne _ _ _ _ e] at hv' ⊢
      obtain ⟨k, k1, k2, k3, k4⟩ := hR.up v v0 hv hv'
      have ku : k ≠ u := fun ek => nk v v0 hv hv' (by unfold Fr.grp; rw [k2, ek]; rfl)
      exact ⟨k, k1, k2, by rw [set_ne _ _ _ _ ku]; exact k3, k4⟩
  · by_cases e : v = u
    · subst e; rw [set_same]
    · rw [set_ne _ _ _ _ e] at hn' ⊢; exact h.no v hv hn'
  · by_cases e : v = u
    · subst e; rw [set_same] at hq; exact absurd hq (by decide)
    · rw [set_ne _ _ _ _ e] at hq ⊢; exact h.quo v hv hq
  · by_cases e : v = u
    · subst e; rw [set_same]; exact ⟨by decide, by decide⟩
    · rw [set_ne _ _ _ _ e]; exact h.per v hv
  · by_cases e : v = u
    · subst e; rw [set_same] at hv'; cases hv'
    · rw [set_ne _ _ _ _ e] at hv' ⊢; exact h.wt v v0 hv hv'
  · by_cases e : v = u
    · subst e; rw [set_same] at hv'; cases hv'
    · rw [hgr v e]
      rw [set_ne _ _ _ _ e] at hv' hw' ⊢
      rw [set_ne _ _ _ _ (nk v v0 hv hv')]
      exact h.fl v v0 hv hv' hw'
  · rw [set_now]
    by_cases e : v = u
    · subst e; rw [set_same]; exact ⟨Nat.zero_le _, Nat.zero_le _, Nat.zero_le _, Nat.zero_le _⟩
    · rw [set_ne _ _ _ _ e]; exact h.tm v hv
theorem kids_same {m : M} {u : Nat} {x : Un} (h1 : (m.u u).was = false) (h2 : x.was = false) (g v : Nat) : kidB (m.set u x) g v = kidB m g v := by
  by_cases e : v = u
  · subst e
    have a : kidB m g v = false := by
      cases hk : kidB m g v
      · rfl
      · have := (kidB_iff.1 hk).2.2.2; rw [h1] at this; cases this
    have b : kidB (m.set v x) g v = false := by
      cases hk : kidB (m.set v x) g v
      · rfl
      · have := (kidB_iff.1 hk).2.2.2; rw [set_same, h2] at this; cases this
    rw [a, b]
  · exact kid_ne e
theorem Sync.lay {m : M} (hS : Sync m) {u : Nat} {x : Un} (h1 : (m.u u).was = false) (h2 : x.was = false) (h3 : x.here = true → ready (m.set u x) u = false) : Sync (m.set u x) := by
  intro v v0 hv hh
  by_cases e : v = u
  · subst e
    rw [set_same] at hh ⊢
    rw [h2, h3 hh]
  · rw [set_ne _ _ _ _ e] at hh ⊢
    rw [hS v v0 hv hh]
    refine (ready_of (fun _ => ?_) (fun _ => ?_) (fun _ y _ => kids_same h1 h2 v y)).symm
    · rw [set_ne _ _ _ _ e]
    · rw [set_ne _ _ _ _ e]; exact ⟨rfl, rfl, rfl⟩
theorem asleep {m m1 : M} (hI : Inv m) (hS : Sync m) {n : Nat} (hn : n < 20) (hh : (m.u (10 + n)).here = true) (k : Look (m.set (10 + n) { m.u (10 + n) with awake := false }) (10 + n) m1) :
    Inv m1 ∧ Sync m1 ∧ m1.now = m.now ∧ (m1.u (10 + n)).here = true ∧ (m1.u (10 + n)).was = false ∧ (m1.u (10 + n)).awake = false ∧ (m1.u (10 + n)).weight = (m.u (10 + n)).weight ∧ (m1.u (10 + n)).ran = (m.u (10 + n)).ran ∧ ∀ v, (m1.u v).here = (m.u v).here := by
  have W : WakeTo m n false m1 := .inl ⟨taskE_nat hn hh, k⟩
  have i1 := hI.wake W
  have s1 := Sync.wake hI hS W
  have kp := look_keep k (10 + n)
  rw [set_same] at kp
  have lk := look_here k
  have hhe : ∀ v, (m1.u v).here = (m.u v).here := fun v => (lk.2 v).1.trans (here_set (m := m) (x := { m.u (10 + n) with awake := false }) rfl v)
  have ha : (m1.u (10 + n)).awake = false := by rw [kp]
  refine ⟨i1, s1, lk.1, by rw [hhe]; exact hh, ?_, ha, by rw [kp], by rw [kp], hhe⟩
  rw [s1 (10 + n) (by omega) (by omega) (by rw [hhe]; exact hh)]
  unfold ready; rw [if_pos (by omega)]; exact ha
theorem no_task {m : M} (h : Inv m) {n : Nat} : ∀ v, 0 < v → v < 30 → (m.u v).here = true → Fr.grp m v ≠ 10 + n := fun v v0 hv hh => by have := (h.grp v0 hv hh).1; omega
theorem Inv.dropTask {m m' : M} {z : Int} (h : Inv m) (hS : Sync m) (k : DropTo m z m') : Inv m' ∧ Sync m' ∧ m'.now = m.now := by
  rcases k with ⟨k1, m1, k2, rfl⟩ | ⟨_, rfl⟩
  · obtain ⟨n, rfl, hn, hh⟩ := taskE_zero k1
    rw [Int.toNat_natCast] at *
    have a := asleep h hS hn hh k2
    exact ⟨a.1.drop (by omega) (no_task a.1), a.2.1.lay a.2.2.2.2.1 rfl (fun c => by cases c), a.2.2.1⟩
  · exact ⟨h, hS, rfl⟩
end Fr
end Go.Proofs.YtghogbngmcolmaaGreat.Fa
namespace Go.Proofs.YtghogbngmcolmaaGreat.Fa
open Go.RowKit
open Hp (Q)
open Fr (Un M)
theorem SAt.task_like {w : World} {b : Nat} {m : M} {qs : Nat → Q} {n : Nat} {x y : Un} (h : SAt w b (m.set (10 + n) x) qs) (e1 : ∀ k, k < 4 → unitC (10 + n) y k = unitC (10 + n) x k) (e2 : ∀ k, k < 2 → taskC y k = taskC x k) : SAt w b (m.set (10 + n) y) qs := by
  refine ⟨h.blk, h.now, fun u f hu hf => ?_, h.que, fun g f hg hf => ?_, fun k f hk hf => ?_⟩
  · rw [h.unit u f hu hf]
    by_cases e : u = 10 + n
    · subst e; rw [Fr.set_same, Fr.set_same, e1 f hf]
    · rw [Fr.set_ne _ _ _ _ e, Fr.set_ne _ _ _ _ e]
  · rw [h.grp g f hg hf, Fr.set_ne _ _ _ _ (by omega), Fr.set_ne _ _ _ _ (by omega)]
  · rw [h.task k f hk hf]
    by_cases e : k = n
    · subst e; rw [Fr.set_same, Fr.set_same, e2 f hf]
    · rw [Fr.set_ne _ _ _ _ (by omega), Fr.set_ne _ _ _ _ (by omega)]
theorem SAt.noTask {w : World} {b : Nat} {m : M} {qs : Nat → Q} (h : SAt w b m qs) (n : Nat) (hn : n < 20) :
    SAt ((((((w.setCell ⟨b, 1 + (10 + n) * 4, none⟩ (.bool false)).setCell ⟨b, 1 + (10 + n) * 4 + 1, none⟩ (.int .i64 0)).setCell ⟨b, 1 + (10 + n) * 4 + 2, none⟩ (.int .u64 0)).setCell ⟨b, 1 + (10 + n) * 4 + 3, none⟩ (.int .u64 0)).setCell ⟨b, 2101 + n * 2, none⟩ (.bool false)).setCell ⟨b, 2101 + n * 2 + 1, none⟩ (.int .i64 0)) b (m.set (10 + n) Un.no) qs := by
  have := (((((h.setHere (10 + n) false (by omega)).setIn (10 + n) 0 (by omega)).setWeight (10 + n) 0 (by omega) (by omega)).setTime (10 + n) 0 (by omega)).setAwake n false hn).setRan n 0 hn
  simp only [Fr.set_same, Fr.set_set] at this
  exact this.task_like (four rfl rfl rfl rfl) (two rfl rfl)
set_option maxRecDepth 100000 in
set_option maxHeartbeats 1000000 in
theorem dropTask_any (b : Nat) (z : Int) (m : M) (w : World) (h : Fair w b m) (hI : Fr.Inv m) (hS : Fr.Sync m) :
    Calls Tryz.prog 124 #[.pointer (some ⟨b, 0, none⟩), .int .i64 z] w fun e w' => e = .returned (errV (Fr.taskE m z)) ∧ ∃ m', Fr.DropTo m z m' ∧ Fair w' b m' ∧ Frm b w w' := by
  have HF := Hid.intro h
  have HI := Hid.intro hI
  have HS := Hid.intro hS
  clear h hI hS
  rcases taskE_cases m z with k | k
  · have HK := Hid.intro k
    obtain ⟨n, rfl, hn, hh⟩ := Fr.taskE_zero k
    have HH := Hid.intro hh
    have hnI : (n : Int) < 20 := by omega
    clear k hh
    go_enter Tryz.func124, Tryz.ntmps124
    go_wp2_with fail
    refine (wrongTask_any b n m _ HF.out).mono ?_
    rintro e w1 ⟨rfl, hw⟩
    subst w1
    rw [HK.out, errV_zero]
    go_wp2_with fail
    refine (rouse_any b n false m _ HF.out HI.out hn HH.out).mono ?_
    rintro e w1 ⟨rfl, m1, k1, f1, r1⟩
    have A1 := Hid.intro f1
    have R1 := Hid.intro r1
    have K1 : Hid (Fr.Look (m.set (10 + n) { m.u (10 + n) with awake := false }) (10 + n) m1) := k1
    have WS : Hid ((m1.u (10 + n)).was = false) := (Fr.asleep HI.out HS.out hn HH.out K1.out).2.2.2.2.1
    obtain ⟨qs, hS, hC⟩ := f1
    have c0 := hS.cHere (10 + n) (by omega)
    have c1 := hS.cIn (10 + n) (by omega)
    have c2 := hS.cWeight (10 + n) (by omega) (by omega)
    have c3 := hS.cTime (10 + n) (by omega)
    have c4 := hS.cAwake n hn
    have c5 := hS.cRan n hn
    have cf := hS.frozen
    have HS1 := Hid.intro hS
    have HC1 := Hid.intro hC
    clear k1 r1 hS hC
    go_wp2_with fail
    go_region
    generalize hW2 : World.drew _ = W2
    have F2 : Hid (Fair W2 b (m1.set (10 + n) Un.no) ∧ Frm b w W2) := Hid.intro (by rw [← hW2]; exact ⟨⟨qs, (HS1.out.noTask n hn).drew, HC1.out.fresh WS.out rfl⟩, ((((((R1.out.setCell _ _).setCell _ _).setCell _ _).setCell _ _).setCell _ _).setCell _ _).drew⟩)
    clear hW2 c0 c1 c2 c3 c4 c5 cf
    go_wp2_with fail
    go_ret
    rw [HK.out]
    exact ⟨rfl, _, .inl ⟨HK.out, m1, by rw [Int.toNat_natCast]; exact K1.out, rfl⟩, by rw [Int.toNat_natCast]; exact F2.out⟩
  · obtain ⟨E, hE⟩ : ∃ E, Fr.taskE m z = E := ⟨_, rfl⟩
    have HE := Hid.intro hE
    rw [hE] at k
    have E0 : E ≠ 0 := by omega
    clear hE
    go_enter Tryz.func124, Tryz.ntmps124
    go_wp2_with fail
    refine (wrongTask_any b z m _ HF.out).mono ?_
    rintro e w1 ⟨rfl, hw⟩
    subst w1
    rw [HE.out, errV_ne E0]
    go_wp2
    go_ret
    rw [HE.out, errV_ne E0]
    exact ⟨rfl, m, .inr ⟨by rw [HE.out]; exact E0, rfl⟩, HF.out, Frm.refl b w⟩
end Go.Proofs.YtghogbngmcolmaaGreat.Fa
namespace Go.Proofs.YtghogbngmcolmaaGreat.Fa
open Go.RowKit
open Hp (Q)
open Fr (Un M)
theorem Frm.setCells {b : Nat} : ∀ (vs : List Value) (o : Nat) {u w : World}, Frm b u w → Frm b u (w.setCells b o vs)
  | [], _, _, _, h => h
  | v :: r, o, u, w, h => by rw [World.setCells]; exact Frm.setCells r (o + 1) (h.setCell o v)
end Go.Proofs.YtghogbngmcolmaaGreat.Fa

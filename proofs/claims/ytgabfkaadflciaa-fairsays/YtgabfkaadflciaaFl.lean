/- The walk of line. -/
import Derived.Test.YtgabfkaadflciaaFw
import Derived.Deep.RegionHeld3
namespace Go.Proofs.Ytgabfkaadflciaa
open Go.RowKit
open Hp (Q)
open Fr (Un M)

namespace Fr
theorem set_self (m : M) (u : Nat) : m.set u (m.u u) = m := by
  unfold M.set; cases m; congr 1; funext j; by_cases h : j = u <;> simp [h]
theorem kid_was {m : M} {g u : Nat} (h0 : 0 < u) (hh : (m.u u).here = true) (hi : (m.u u).inn = (g : Int)) : kidB m g u = (m.u u).was := by
  rw [Bool.eq_iff_iff, kidB_iff]; exact ⟨fun h => h.2.2.2, fun h => ⟨h0, hh, hi, h⟩⟩
theorem line_in {m : M} {u : Nat} (hr : ready m u = true) (hw : (m.u u).was = false) :
    line m u = setWas (m.set u { m.u u with time := max (m.u u).time (m.u (grp m u)).floor }) u true := by
  unfold line setWas; rw [set_set, set_same]
  congr 1
  unfold lineU; rw [hr, hw]; rfl
theorem line_out {m : M} {u : Nat} (hr : ready m u = false) : line m u = setWas m u false := by
  unfold line setWas lineU; rw [hr]; rfl
theorem line_same {m : M} {u : Nat} (hr : ready m u = (m.u u).was) : line m u = m := by
  have e : lineU m u = m.u u := by
    unfold lineU; rw [hr]; cases h : m.u u; cases ‹Bool› <;> simp
  unfold line; rw [e, set_self]
theorem kid_ne {m : M} {g u v : Nat} {x : Un} (h : v ≠ u) : kidB (m.set u x) g v = kidB m g v := by
  unfold kidB; rw [set_ne _ _ _ _ h]
theorem kid_set {m : M} {g u v : Nat} {x : Un} (h1 : x.here = (m.u u).here) (h2 : x.inn = (m.u u).inn) (h3 : x.was = (m.u u).was) : kidB (m.set u x) g v = kidB m g v := by
  by_cases e : v = u
  · subst e; unfold kidB; rw [set_same, h1, h2, h3]
  · exact kid_ne e
end Fr

/-- A unit is turned, its place, time and readiness stay. -/
theorem Cpl.set {m : M} {qs : Nat → Q} (h : Cpl m qs) {u : Nat} {x : Un} (h1 : x.here = (m.u u).here) (h2 : x.inn = (m.u u).inn) (h3 : x.was = (m.u u).was) (h4 : x.time = (m.u u).time ∨ (m.u u).was = false) : Cpl (m.set u x) qs :=
  h.turn (fun g v _ _ => Fr.kid_set h1 h2 h3) (fun g v _ _ hk => by
    by_cases e : v = u
    · subst e; rw [Fr.set_same]
      rcases h4 with h4 | h4
      · exact h4
      · have := (Fr.kidB_iff.1 hk).2.2.2; rw [h4] at this; cases this
    · rw [Fr.set_ne _ _ _ _ e])
theorem kid_setWas {m : M} {g u v : Nat} (b : Bool) (h0 : 0 < u) (hh : (m.u u).here = true) {k : Nat} (hi : (m.u u).inn = (k : Int)) :
    Fr.kidB (Fr.setWas m u b) g v = if v = u then (decide (g = k) && b) else Fr.kidB m g v := by
  unfold Fr.setWas
  by_cases e : v = u
  · subst e
    rw [if_pos rfl, Bool.eq_iff_iff, Fr.kidB_iff, Fr.set_same]
    simp only [hh, hi, h0, true_and, Bool.and_eq_true, decide_eq_true_eq]
    constructor
    · rintro ⟨a, c⟩; exact ⟨by omega, c⟩
    · rintro ⟨a, c⟩; exact ⟨by omega, c⟩
  · rw [if_neg e, Fr.kid_ne e]
theorem Cpl.put {m : M} {qs : Nat → Q} (h : Cpl m qs) {u g : Nat} {q' : Q} (h0 : 0 < u) (hu : u < 30) (hg : g < 10) (hh : (m.u u).here = true) (hi : (m.u u).inn = (g : Int))
    (ok : Hp.Okp q' ∧ Hp.Full q') (hk : q'.keys = Hp.upd (qs g).keys u (m.u u).time) (hp : ∀ i, 0 < q'.place i ↔ (0 < (qs g).place i ∨ i = u)) : Cpl (Fr.setWas m u true) (fun k => if k = g then q' else qs k) := by
  have ht : ∀ v, ((Fr.setWas m u true).u v).time = (m.u v).time := fun v => by
    unfold Fr.setWas
    by_cases e : v = u
    · subst e; rw [Fr.set_same]
    · rw [Fr.set_ne _ _ _ _ e]
  refine ⟨fun k hk => ?_, fun k v hk' hv => ?_, fun k v hk' hv hv' => ?_⟩
  · by_cases e : k = g
    · simp only [e, if_true]; exact ok
    · simp only [e, if_false]; exact h.ok k hk
  · rw [kid_setWas true h0 hh hi]
    by_cases e : k = g
    · subst e
      simp only [if_true]
      rw [hp v, h.has k v hk' hv]
      by_cases e2 : v = u
      · subst e2; simp [hu]
      · simp [e2]
    · simp only [e, if_false, decide_false, Bool.false_and]
      rw [h.has k v hk' hv]
      by_cases e2 : v = u
      · subst e2
        have : Fr.kidB m k v = false := by
          cases hc : Fr.kidB m k v
          · rfl
          · have := (Fr.kidB_iff.1 hc).2.2.1; rw [hi] at this; omega
        simp [this]
      · simp [e2]
  · rw [ht]
    rw [kid_setWas true h0 hh hi] at hv'
    by_cases e : k = g
    · subst e
      simp only [if_true]
      rw [hk]
      by_cases e2 : v = u
      · subst e2; rw [Hp.upd_same]
      · rw [Hp.upd_ne _ _ _ _ e2]
        rw [if_neg e2] at hv'
        exact h.key k v hk' hv hv'
    · simp only [e, if_false]
      by_cases e2 : v = u
      · subst e2; simp [e] at hv'
      · rw [if_neg e2] at hv'
        exact h.key k v hk' hv hv'
theorem Cpl.cut {m : M} {qs : Nat → Q} (h : Cpl m qs) {u g : Nat} {q' : Q} (h0 : 0 < u) (hg : g < 10) (hh : (m.u u).here = true) (hi : (m.u u).inn = (g : Int))
    (ok : Hp.Okp q' ∧ Hp.Full q') (hk : q'.keys = Hp.upd (qs g).keys u 0) (hp : ∀ i, 0 < q'.place i ↔ (0 < (qs g).place i ∧ i ≠ u)) : Cpl (Fr.setWas m u false) (fun k => if k = g then q' else qs k) := by
  have ht : ∀ v, ((Fr.setWas m u false).u v).time = (m.u v).time := fun v => by
    unfold Fr.setWas
    by_cases e : v = u
    · subst e; rw [Fr.set_same]
    · rw [Fr.set_ne _ _ _ _ e]
  refine ⟨fun k hk => ?_, fun k v hk' hv => ?_, fun k v hk' hv hv' => ?_⟩
  · by_cases e : k = g
    · simp only [e, if_true]; exact ok
    · simp only [e, if_false]; exact h.ok k hk
  · rw [kid_setWas false h0 hh hi, Bool.and_false]
    by_cases e : k = g
    · subst e
      simp only [if_true]
      rw [hp v, h.has k v hk' hv]
      by_cases e2 : v = u
      · subst e2; simp
      · simp [e2]
    · simp only [e, if_false]
      rw [h.has k v hk' hv]
      by_cases e2 : v = u
      · subst e2
        have : Fr.kidB m k v = false := by
          cases hc : Fr.kidB m k v
          · rfl
          · have := (Fr.kidB_iff.1 hc).2.2.1; rw [hi] at this; omega
        simp [this]
      · simp [e2]
  · rw [ht]
    rw [kid_setWas false h0 hh hi, Bool.and_false] at hv'
    by_cases e2 : v = u
    · rw [if_pos e2] at hv'; cases hv'
    · rw [if_neg e2] at hv'
      by_cases e : k = g
      · subst e
        simp only [if_true]
        rw [hk, Hp.upd_ne _ _ _ _ e2]
        exact h.key k v hk' hv hv'
      · simp only [e, if_false]
        exact h.key k v hk' hv hv'
theorem SAt.setWas {w : World} {b : Nat} {m : M} {qs : Nat → Q} (h : SAt w b m qs) (u : Nat) (x : Bool) : SAt w b (Fr.setWas m u x) qs := by
  have e : ∀ v, ((Fr.setWas m u x).u v) = m.u v ∨ (v = u ∧ (Fr.setWas m u x).u v = { m.u u with was := x }) := fun v => by
    unfold Fr.setWas
    by_cases e : v = u
    · subst e; rw [Fr.set_same]; exact .inr ⟨rfl, rfl⟩
    · rw [Fr.set_ne _ _ _ _ e]; exact .inl rfl
  refine ⟨h.blk, h.now, fun v f hv hf => ?_, h.que, fun v f hv hf => ?_, fun n f hn hf => ?_⟩
  · rw [h.unit v f hv hf]
    rcases e v with e | ⟨rfl, e⟩ <;> rw [e] <;> rfl
  · rw [h.grp v f hv hf]
    rcases e v with e | ⟨rfl, e⟩ <;> rw [e] <;> rfl
  · rw [h.task n f hn hf]
    rcases e (10 + n) with e | ⟨k, e⟩ <;> rw [e]
    rw [← k]; rfl

/-- What a unit's own group is, all told. -/
structure InG (m : M) (u g : Nat) : Prop where
  pos : 0 < u
  lt : u < 30
  here : (m.u u).here = true
  glt : g < 10
  inn : (m.u u).inn = (g : Int)
theorem InG.grp {m : M} {u g : Nat} (h : InG m u g) : Fr.grp m u = g := by unfold Fr.grp; rw [h.inn]; rfl

theorem ready_any (b u : Nat) (m : M) (w : World) (h : Fair w b m) (hu : u < 30) :
    Calls Try.prog 171 #[.pointer (some ⟨b, 0, none⟩), .int .i64 u] w fun e w' => e = .returned (.bool (Fr.ready m u)) ∧ ∃ n, w' = w.drewN n := by
  by_cases k : 10 ≤ u
  · exact (ready_task b u m w h k hu).mono fun e w' ⟨h1, h2⟩ => ⟨h1, 0, h2⟩
  · exact ready_group b u m w h (by omega)

/-- Key, by whether the unit is in the queue. -/
theorem key_is (b u g : Nat) (m : M) (qs : Nat → Q) (w : World) (hS : SAt w b m qs) (hC : Cpl m qs) (hI : InG m u g) (hw : (m.u u).was = true) :
    Calls Try.prog 20 #[.pointer (some ⟨b, 121 + g * 198, none⟩), .int .i64 u] w fun e w' => e = .returned (.tuple #[.int .u64 ((qs g).keys u), .nilIface]) ∧ w' = w :=
  key_has b _ u (qs g) w (hS.at_ g hI.glt) (by have := hI.lt; omega) ((hC.has g u hI.glt (by have := hI.lt; omega)).2 ⟨hI.lt, (Fr.kid_was hI.pos hI.here hI.inn).trans hw⟩)
theorem place_no {m : M} {qs : Nat → Q} {u g : Nat} (hC : Cpl m qs) (hI : InG m u g) (hw : (m.u u).was = false) : (qs g).place u = 0 := by
  have h1 := hC.has g u hI.glt (by have := hI.lt; omega)
  rw [(Fr.kid_was hI.pos hI.here hI.inn).trans hw] at h1
  simp at h1
  exact h1
theorem place_yes {m : M} {qs : Nat → Q} {u g : Nat} (hC : Cpl m qs) (hI : InG m u g) (hw : (m.u u).was = true) : 0 < (qs g).place u :=
  (hC.has g u hI.glt (by have := hI.lt; omega)).2 ⟨hI.lt, (Fr.kid_was hI.pos hI.here hI.inn).trans hw⟩
theorem key_not (b u g : Nat) (m : M) (qs : Nat → Q) (w : World) (hS : SAt w b m qs) (hC : Cpl m qs) (hI : InG m u g) (hw : (m.u u).was = false) :
    Calls Try.prog 20 #[.pointer (some ⟨b, 121 + g * 198, none⟩), .int .i64 u] w fun e w' => e = .returned (.tuple #[.int .u64 0, .iface 110 (.int .i64 2)]) ∧ w' = w :=
  key_none b _ u (qs g) w (hS.at_ g hI.glt) (by have := hI.lt; omega) (place_no hC hI hw)

end Go.Proofs.Ytgabfkaadflciaa

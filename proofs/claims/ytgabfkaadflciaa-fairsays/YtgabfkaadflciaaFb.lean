/- The walks of Quota, add, AddGroup, AddTask, New. -/
import Derived.Test.YtgabfkaadflciaaFa
namespace Go.Proofs.Ytgabfkaadflciaa
open Go.RowKit
open Hp (Q)
open Fr (Un M)

set_option maxRecDepth 100000 in
set_option maxHeartbeats 400000 in
theorem quota_wrong (b : Nat) (z q p : Int) (m : M) (w : World) (h : Fair w b m) (hE : Fr.lowerE m z ≠ 0) :
    Calls Try.prog 59 #[.pointer (some ⟨b, 0, none⟩), .int .i64 z, .int .i64 q, .int .i64 p] w fun e w' => e = .returned (errV (Fr.lowerE m z)) ∧ w' = w := by
  have HF : Hid (Fair w b m) := h
  have HW := Hid.intro (errV_ne hE)
  clear h hE
  go_enter Try.func59, Try.ntmps59
  go_wp2_with fail
  refine (wrongLower_any b z m _ HF.out).mono ?_
  rintro e w1 ⟨rfl, hw⟩
  subst w1
  rw [HW.out]
  go_wp2
  go_ret
  rw [HW.out]; exact ⟨rfl, rfl⟩

set_option maxRecDepth 100000 in
set_option maxHeartbeats 1000000 in
theorem quota_bound (b : Nat) (z q p : Int) (m : M) (w : World) (h : Fair w b m) (hE : Fr.lowerE m z = 0) (hq : q < 0 ∨ p < q ∨ p < 1 ∨ 100 < p) :
    Calls Try.prog 59 #[.pointer (some ⟨b, 0, none⟩), .int .i64 z, .int .i64 q, .int .i64 p] w fun e w' => e = .returned (errV 1) ∧ w' = w := by
  have HF : Hid (Fair w b m) := h
  have HE : Hid (Fr.lowerE m z = 0) := hE
  clear h hE
  go_enter Try.func59, Try.ntmps59
  go_wp2_with fail
  refine (wrongLower_any b z m _ HF.out).mono ?_
  rintro e w1 ⟨rfl, hw⟩
  subst w1
  rw [HE.out, errV_zero]
  by_cases h1 : q < 0
  · go_wp2
    go_ret
    exact ⟨rfl, rfl⟩
  · have d1 : decide (q < 0) = false := by simp; omega
    by_cases h2 : p < q
    · clear hq
      go_wp2
      go_ret
      exact ⟨rfl, rfl⟩
    · have d2 : decide (p < q) = false := by simp; omega
      by_cases h3 : p < 1
      · clear hq
        go_wp2
        go_ret
        exact ⟨rfl, rfl⟩
      · have d3 : decide (p < 1) = false := by simp; omega
        have h4 : 100 < p := by omega
        clear hq
        go_wp2
        go_ret
        exact ⟨rfl, rfl⟩

theorem Fair.cells5 {w : World} {b : Nat} {m : M} (h : Fair w b m) (g : Nat) (hg : g < 10) : w.cell? ⟨b, 121 + g * 198 + 195, none⟩ = some (.int .i64 ((m.u g).quota : Int)) ∧ w.cell? ⟨b, 121 + g * 198 + 196, none⟩ = some (.int .i64 ((m.u g).period : Int)) ∧ w.cell? ⟨b, 121 + g * 198 + 197, none⟩ = some (.int .i64 ((m.u g).used : Int)) := ⟨h.cQuota g hg, h.cPeriod g hg, h.cUsed g hg⟩

set_option maxRecDepth 100000 in
set_option maxHeartbeats 1000000 in
theorem quota_ok (b n q p : Nat) (m : M) (w : World) (h : Fair w b m) (hI : Fr.Inv m) (h0 : 0 < n) (hn : n < 10) (hh : (m.u n).here = true) (hq : q ≤ p) (hp : 1 ≤ p) (hp2 : p ≤ 100) :
    Calls Try.prog 59 #[.pointer (some ⟨b, 0, none⟩), .int .i64 n, .int .i64 q, .int .i64 p] w fun e w' => e = .returned (errV 0) ∧ ∃ m', Fr.Look (m.set n { m.u n with quota := q, period := p, used := 0 }) n m' ∧ Fair w' b m' ∧ Frm b w w' := by
  have HF : Hid (Fair w b m) := h
  have HI : Hid (Fr.Inv m) := hI
  have HE : Hid (Fr.lowerE m n = 0) := Fr.lowerE_nat h0 hn hh
  have HH : Hid ((m.u n).here = true) := hh
  have HT : Hid (Fr.Turn m n { m.u n with quota := q, period := p, used := 0 }) := by
    have := Fr.quota_turn hI h0 hn hh (q := q) (p := p) ⟨by omega, by omega, by omega, by omega⟩
    rw [Int.toNat_natCast, Int.toNat_natCast] at this
    exact this
  obtain ⟨c1, c2, c3⟩ := h.cells5 n hn
  have cf := h.frozen
  have d1 : decide ((p : Int) < (q : Int)) = false := by simp; omega
  have d2 : decide ((p : Int) < 1) = false := by simp; omega
  have d3 : ¬ (100 : Int) < (p : Int) := by omega
  have hnI : (n : Int) < 10 := by omega
  clear h hI hh
  go_enter Try.func59, Try.ntmps59
  go_wp2_with fail
  refine (wrongLower_any b n m _ HF.out).mono ?_
  rintro e w1 ⟨rfl, hw⟩
  subst w1
  rw [HE.out, errV_zero]
  go_wp2_with fail
  refine (settle_any b n _ _ (HF.out.setQ n q p hn) (HI.out.turn (by omega) HH.out HT.out) (by omega) (by rw [Fr.set_same]; exact HH.out)).mono ?_
  rintro e w1 ⟨rfl, m', l1, f1, r1⟩
  have FIN : Hid (∃ m', Fr.Look (m.set n { m.u n with quota := q, period := p, used := 0 }) n m' ∧ Fair w1 b m' ∧ Frm b w w1) := Hid.intro ⟨m', l1, f1, ((((Frm.refl b w).setCell _ _).setCell _ _).setCell _ _).trans r1⟩
  clear l1 f1 r1 c1 c2 c3 cf
  go_wp2_with fail
  go_ret
  exact ⟨rfl, FIN.out⟩

theorem quota_any (b : Nat) (z q p : Int) (m : M) (w : World) (h : Fair w b m) (hI : Fr.Inv m) :
    Calls Try.prog 59 #[.pointer (some ⟨b, 0, none⟩), .int .i64 z, .int .i64 q, .int .i64 p] w fun e w' => e = .returned (errV (Fr.quotaE m z q p)) ∧ ∃ m', Fr.QuotaTo m z q p m' ∧ Fair w' b m' ∧ Frm b w w' := by
  by_cases k : Fr.lowerE m z = 0
  · by_cases hq : q < 0 ∨ p < q ∨ p < 1 ∨ 100 < p
    · have e : Fr.quotaE m z q p = 1 := by unfold Fr.quotaE; rw [if_pos k, if_pos hq]
      rw [e]
      exact (quota_bound b z q p m w h k hq).mono fun _ w' ⟨h1, h2⟩ => ⟨h1, m, .inr ⟨by rw [e]; decide, rfl⟩, by rw [h2]; exact h, by rw [h2]; exact Frm.refl b w⟩
    · have e : Fr.quotaE m z q p = 0 := by unfold Fr.quotaE; rw [if_pos k, if_neg hq]
      rw [e]
      obtain ⟨n, rfl, h0, hn, hh⟩ := Fr.lowerE_zero k
      obtain ⟨q', rfl⟩ := Int.eq_ofNat_of_zero_le (show 0 ≤ q by omega)
      obtain ⟨p', rfl⟩ := Int.eq_ofNat_of_zero_le (show 0 ≤ p by omega)
      exact (quota_ok b n q' p' m w h hI h0 hn hh (by omega) (by omega) (by omega)).mono fun _ w' ⟨h1, m', h2, h3⟩ => ⟨h1, m', .inl ⟨e, h2⟩, h3⟩
  · have e : Fr.quotaE m z q p = Fr.lowerE m z := if_neg k
    rw [e]
    exact (quota_wrong b z q p m w h k).mono fun _ w' ⟨h1, h2⟩ => ⟨h1, m, .inr ⟨by rw [e]; exact k, rfl⟩, by rw [h2]; exact h, by rw [h2]; exact Frm.refl b w⟩

theorem newUnit_any (g x : Int) (w : World) : Calls Try.prog 154 #[.int .i64 g, .int .u64 x] w fun e w' => e = .returned (.agg #[.bool true, .int .i64 g, .int .u64 x, .int .u64 0]) ∧ Below w.heap.size w w' := by
  go_enter Try.func154, Try.ntmps154
  go_wp2
  refine bodyPost_ret (v := .agg #[.bool true, .int .i64 g, .int .u64 x, .int .u64 0]) (by simp [results, Try.results154, go_sem]) rfl ⟨rfl, (Below.refl _ _).alloc (Nat.le_refl _) _⟩

theorem SAt.put4 {w : World} {b : Nat} {m : M} {qs : Nat → Q} (h : SAt w b m qs) (u g wt tm : Nat) (h0 : 0 < u) (hu : u < 30) :
    SAt ((((w.setCell ⟨b, 1 + u * 4, none⟩ (.bool true)).setCell ⟨b, 1 + u * 4 + 1, none⟩ (.int .i64 (g : Int))).setCell ⟨b, 1 + u * 4 + 2, none⟩ (.int .u64 (wt : Int))).setCell ⟨b, 1 + u * 4 + 3, none⟩ (.int .u64 (tm : Int))) b (m.set u { m.u u with here := true, inn := g, weight := wt, time := tm }) qs := by
  have := (((h.setHere u true hu).setIn u g hu).setWeight u wt h0 hu).setTime u tm hu
  simp only [Fr.set_same, Fr.set_set] at this
  exact this
/-- One that was not there is there, and not ready. -/
theorem Cpl.fresh {m : M} {qs : Nat → Q} (h : Cpl m qs) {u : Nat} {x : Un} (h1 : (m.u u).was = false) (h2 : x.was = false) : Cpl (m.set u x) qs := by
  have e : ∀ g, Fr.kidB m g u = false := fun g => by
    cases hk : Fr.kidB m g u
    · rfl
    · have := (Fr.kidB_iff.1 hk).2.2.2; rw [h1] at this; cases this
  have e' : ∀ g, Fr.kidB (m.set u x) g u = false := fun g => by
    cases hk : Fr.kidB (m.set u x) g u
    · rfl
    · have := (Fr.kidB_iff.1 hk).2.2.2; rw [Fr.set_same, h2] at this; cases this
  refine h.turn (fun g v _ _ => ?_) (fun g v _ _ hk => ?_)
  · by_cases k : v = u
    · subst k; rw [e, e']
    · exact Fr.kid_ne k
  · have k : v ≠ u := fun k => by subst k; rw [e] at hk; cases hk
    rw [Fr.set_ne _ _ _ _ k]

set_option maxRecDepth 100000 in
set_option maxHeartbeats 1000000 in
theorem add_ok (b u g wt : Nat) (z : Int) (hz : z = u) (m : M) (w : World) (h : Fair w b m) (hI : Fr.Inv m) (h0 : 0 < u) (hu : u < 30) (hn : (m.u u).here = false) (hg : g < 10) (hh : (m.u g).here = true) (hw : 1 ≤ wt) (hw2 : wt ≤ 1000) :
    Calls Try.prog 116 #[.pointer (some ⟨b, 0, none⟩), .int .i64 z, .int .i64 g, .int .i64 wt] w fun e w' => e = .returned .nilIface ∧ Fair w' b (m.set u (Un.new g wt)) ∧ Frm b w w' := by
  subst hz
  have HF : Hid (Fair w b m) := h
  have HE : Hid (Fr.groupE m g = 0) := Fr.groupE_nat hg hh
  have HU : Hid (m.u u = Un.no) := hI.no u hu hn
  have c1 := h.cHere u hu
  rw [hn] at c1
  have d1 : decide ((wt : Int) < 1) = false := by simp; omega
  have d2 : ¬ (1000 : Int) < (wt : Int) := by omega
  have hlt : (u : Int) < 30 := by omega
  have HL : Hid (b < w.heap.size) := h.lt
  clear h hI hh hn
  go_enter Try.func116, Try.ntmps116
  go_wp2_with fail
  refine (wrongGroup_any b g m _ HF.out).mono ?_
  rintro e w1 ⟨rfl, hw⟩
  subst w1
  rw [HE.out, errV_zero]
  go_wp2_with fail
  go_region_held3 (fun _ => True) (trivial) ((go_at_call 154; refine (newUnit_any _ _ _).mono ?_; rintro e w2 ⟨rfl, hb2⟩; have F2 : Fair w2 b m := HF.out.drew.same (hb2.block b HL.out); have t0 := F2.cHere u hu; have ts : ∃ v1 v2 v3, w2.cell? ⟨b, 1 + u * 4 + 1, none⟩ = some v1 ∧ w2.cell? ⟨b, 1 + u * 4 + 2, none⟩ = some v2 ∧ w2.cell? ⟨b, 1 + u * 4 + 3, none⟩ = some v3 := (by obtain ⟨qs, hS, _⟩ := F2; exact ⟨_, _, _, hS.cIn u hu, hS.cWeight u h0 hu, hS.cTime u hu⟩); obtain ⟨v1, v2, v3, t1, t2, t3⟩ := ts; have cf := F2.frozen; have HF2 : Hid (Fair w2 b m) := F2; have HB2 : Hid (Frm b w w2) := Hid.intro ((Frm.refl b w).drew.trans (Frm.of_below hb2)); clear F2 hb2))
  clear t0 t1 t2 t3 cf
  go_wp2
  go_ret
  refine ⟨rfl, ?_, (((HB2.out.setCell _ _).setCell _ _).setCell _ _).setCell _ _⟩
  obtain ⟨qs, hS, hC⟩ := HF2.out
  have hP := hS.put4 u g wt 0 h0 hu
  rw [HU.out] at hP
  rw [show IntKind.u64.wrap (wt : Int) = (wt : Int) from IntWalk.u64_in _ ⟨by omega, by omega⟩]
  exact ⟨qs, hP, hC.fresh (by rw [HU.out]; rfl) rfl⟩

set_option maxRecDepth 100000 in
set_option maxHeartbeats 1000000 in
theorem add_bad (b u : Nat) (z g wt : Int) (hz : z = u) (m : M) (w : World) (h : Fair w b m) (hu : u < 30) (hE : Fr.addE m u g wt ≠ 0) :
    Calls Try.prog 116 #[.pointer (some ⟨b, 0, none⟩), .int .i64 z, .int .i64 g, .int .i64 wt] w fun e w' => e = .returned (errV (Fr.addE m u g wt)) ∧ w' = w := by
  subst hz
  have HF : Hid (Fair w b m) := h
  have c1 := h.cHere u hu
  have hlt : (u : Int) < 30 := by omega
  by_cases k : wt < 1 ∨ 1000 < wt
  · have e : Hid (Fr.addE m u g wt = 1) := Hid.intro (if_pos k)
    by_cases k1 : wt < 1
    · clear h hE k c1
      go_enter Try.func116, Try.ntmps116
      go_wp2
      go_ret
      rw [e.out]; exact ⟨rfl, rfl⟩
    · have d1 : decide (wt < 1) = false := by simp; omega
      have d2 : 1000 < wt := by omega
      clear h hE k c1 k1
      go_enter Try.func116, Try.ntmps116
      go_wp2
      go_ret
      rw [e.out]; exact ⟨rfl, rfl⟩
  · have d1 : decide (wt < 1) = false := by simp; omega
    have d2 : ¬ 1000 < wt := by omega
    cases hh : (m.u u).here
    · have e : Fr.addE m u g wt = Fr.groupE m g := by unfold Fr.addE; rw [if_neg k, hh]; rfl
      rw [e] at hE ⊢
      rw [hh] at c1
      have HW := Hid.intro (errV_ne hE)
      clear h hE k hh e
      go_enter Try.func116, Try.ntmps116
      go_wp2_with fail
      refine (wrongGroup_any b g m _ HF.out).mono ?_
      rintro e w1 ⟨rfl, hw⟩
      subst w1
      rw [HW.out]
      go_wp2
      go_ret
      rw [HW.out]; exact ⟨rfl, rfl⟩
    · have e : Hid (Fr.addE m u g wt = 3) := Hid.intro (by unfold Fr.addE; rw [if_neg k, hh]; rfl)
      rw [hh] at c1
      clear h hE k hh
      go_enter Try.func116, Try.ntmps116
      go_wp2
      go_ret
      rw [e.out]; exact ⟨rfl, rfl⟩

theorem add_any (b u : Nat) (z g wt : Int) (hz : z = u) (m : M) (w : World) (h : Fair w b m) (hI : Fr.Inv m) (hu : u < 30) :
    Calls Try.prog 116 #[.pointer (some ⟨b, 0, none⟩), .int .i64 z, .int .i64 g, .int .i64 wt] w fun e w' => e = .returned (errV (Fr.addE m u g wt)) ∧ Fair w' b (Fr.addM m (Fr.addE m u g wt) u g wt) ∧ Frm b w w' := by
  by_cases k : Fr.addE m u g wt = 0
  · obtain ⟨g', x, rfl, rfl, h1, h2, h3, h4, h5⟩ := Fr.addE_zero k
    have hu0 : u ≠ 0 := fun e => by rw [e, hI.root] at h5; cases h5
    unfold Fr.addM
    rw [if_pos k, k, Int.toNat_natCast]
    exact add_ok b u g' x z hz m w h hI (by omega) hu h5 h1 h2 h3 h4
  · unfold Fr.addM
    rw [if_neg k]
    exact (add_bad b u z g wt hz m w h hu k).mono fun _ w' ⟨h1, h2⟩ => ⟨h1, by rw [h2]; exact h, by rw [h2]; exact Frm.refl b w⟩

set_option maxRecDepth 100000 in
set_option maxHeartbeats 1000000 in
theorem addGroup_any (b : Nat) (z g wt : Int) (m : M) (w : World) (h : Fair w b m) (hI : Fr.Inv m) :
    Calls Try.prog 58 #[.pointer (some ⟨b, 0, none⟩), .int .i64 z, .int .i64 g, .int .i64 wt] w fun e w' => e = .returned (errV (Fr.addGroupE m z g wt)) ∧ Fair w' b (Fr.addGroupM m z g wt) ∧ Frm b w w' := by
  have HF : Hid (Fair w b m) := h
  have HI : Hid (Fr.Inv m) := hI
  clear h hI
  by_cases k : z < 0 ∨ 10 ≤ z
  · have e : Hid (Fr.addGroupE m z g wt = 1 ∧ Fr.addGroupM m z g wt = m) := Hid.intro (by
      have e : Fr.addGroupE m z g wt = 1 := if_pos k
      refine ⟨e, ?_⟩
      unfold Fr.addGroupM Fr.addM; rw [e]; rfl)
    by_cases k1 : z < 0
    · clear k
      go_enter Try.func58, Try.ntmps58
      go_wp2
      go_ret
      rw [e.out.1, e.out.2]; exact ⟨rfl, HF.out, Frm.refl b w⟩
    · have d1 : decide (z < 0) = false := by simp; omega
      have d2 : 10 ≤ z := by omega
      clear k k1
      go_enter Try.func58, Try.ntmps58
      go_wp2
      go_ret
      rw [e.out.1, e.out.2]; exact ⟨rfl, HF.out, Frm.refl b w⟩
  · obtain ⟨n, rfl⟩ := Int.eq_ofNat_of_zero_le (show 0 ≤ z by omega)
    have e : Hid (Fr.addGroupE m n g wt = Fr.addE m n g wt) := Hid.intro (by unfold Fr.addGroupE; rw [if_neg k, Int.toNat_natCast])
    have d1 : ¬ (10 : Int) ≤ (n : Int) := by omega
    have hn : n < 30 := by omega
    clear k
    go_enter Try.func58, Try.ntmps58
    go_wp2_with fail
    refine (add_any b n n g wt rfl m _ HF.out HI.out hn).mono ?_
    rintro e w1 ⟨rfl, f1, r1⟩
    have FIN : Hid (Fair w1 b (Fr.addGroupM m n g wt) ∧ Frm b w w1) := Hid.intro ⟨by unfold Fr.addGroupM; rw [e.out, Int.toNat_natCast]; exact f1, r1⟩
    clear f1 r1
    go_wp2_with fail
    go_ret
    rw [e.out]; exact ⟨rfl, FIN.out⟩

set_option maxRecDepth 100000 in
set_option maxHeartbeats 1000000 in
theorem addTask_any (b : Nat) (z g wt : Int) (m : M) (w : World) (h : Fair w b m) (hI : Fr.Inv m) :
    Calls Try.prog 55 #[.pointer (some ⟨b, 0, none⟩), .int .i64 z, .int .i64 g, .int .i64 wt] w fun e w' => e = .returned (errV (Fr.addTaskE m z g wt)) ∧ Fair w' b (Fr.addTaskM m z g wt) ∧ Frm b w w' := by
  have HF : Hid (Fair w b m) := h
  have HI : Hid (Fr.Inv m) := hI
  clear h hI
  by_cases k : z < 0 ∨ 20 ≤ z
  · have e : Hid (Fr.addTaskE m z g wt = 1 ∧ Fr.addTaskM m z g wt = m) := Hid.intro (by
      have e : Fr.addTaskE m z g wt = 1 := if_pos k
      refine ⟨e, ?_⟩
      unfold Fr.addTaskM Fr.addM; rw [e]; rfl)
    by_cases k1 : z < 0
    · clear k
      go_enter Try.func55, Try.ntmps55
      go_wp2
      go_ret
      rw [e.out.1, e.out.2]; exact ⟨rfl, HF.out, Frm.refl b w⟩
    · have d1 : decide (z < 0) = false := by simp; omega
      have d2 : 20 ≤ z := by omega
      clear k k1
      go_enter Try.func55, Try.ntmps55
      go_wp2
      go_ret
      rw [e.out.1, e.out.2]; exact ⟨rfl, HF.out, Frm.refl b w⟩
  · obtain ⟨n, rfl⟩ := Int.eq_ofNat_of_zero_le (show 0 ≤ z by omega)
    have e : Hid (Fr.addTaskE m n g wt = Fr.addE m (10 + n) g wt) := Hid.intro (by unfold Fr.addTaskE; rw [if_neg k, Int.toNat_natCast])
    have d1 : ¬ (20 : Int) ≤ (n : Int) := by omega
    have hn : 10 + n < 30 := by omega
    clear k
    go_enter Try.func55, Try.ntmps55
    go_wp2_with fail
    refine (add_any b (10 + n) _ g wt (by omega) m _ HF.out HI.out hn).mono ?_
    rintro e w1 ⟨rfl, f1, r1⟩
    have FIN : Hid (Fair w1 b (Fr.addTaskM m n g wt) ∧ Frm b w w1) := Hid.intro ⟨by unfold Fr.addTaskM; rw [e.out, Int.toNat_natCast]; exact f1, r1⟩
    clear f1 r1
    go_wp2_with fail
    go_ret
    rw [e.out]; exact ⟨rfl, FIN.out⟩

end Go.Proofs.Ytgabfkaadflciaa

/- The document's own sched: Group, Task, Wake, Freeze, Quota. -/
import Derived.Test.YtgabfkaadflciaaRc
namespace Go.Proofs.Ytgabfkaadflciaa
open Go.RowKit
open Fr (Un M)

set_option maxRecDepth 100000 in
set_option maxHeartbeats 400000 in
theorem rgroup_any (b : Nat) (z : Int) (m : M) (w : World) (h : RAt w b m) : Calls Try.prog 153 #[.pointer (some ⟨b, 0, none⟩), .int .i64 z] w fun e w' => e = .returned (.int .i64 (Fr.groupE m z)) ∧ w' = w := by
  by_cases k : z < 0 ∨ 10 ≤ z
  · have e : Hid (Fr.groupE m z = 1) := Hid.intro (if_pos k)
    by_cases h0 : z < 0
    · clear h k
      go_enter Try.func153, Try.ntmps153
      go_wp2
      go_ret
      rw [e.out]; exact ⟨rfl, rfl⟩
    · have h1 : decide (z < 0) = false := by simp; omega
      have h2 : 9 < z := by omega
      clear h k h0
      go_enter Try.func153, Try.ntmps153
      go_wp2
      go_ret
      rw [e.out]; exact ⟨rfl, rfl⟩
  · obtain ⟨g, rfl⟩ := Int.eq_ofNat_of_zero_le (show 0 ≤ z by omega)
    have c := (h.cells g (by omega)).c0
    have h1 : (g : Int) < 30 := by omega
    have h2 : ¬ (9 : Int) < (g : Int) := by omega
    cases hh : (m.u g).here
    · have e : Hid (Fr.groupE m g = 2) := Hid.intro (by unfold Fr.groupE; rw [if_neg k, Int.toNat_natCast, hh]; rfl)
      rw [hh] at c
      clear h k hh
      go_enter Try.func153, Try.ntmps153
      go_wp2
      go_ret
      rw [e.out]; exact ⟨rfl, rfl⟩
    · have e : Hid (Fr.groupE m g = 0) := Hid.intro (Fr.groupE_nat (by omega) hh)
      rw [hh] at c
      clear h k hh
      go_enter Try.func153, Try.ntmps153
      go_wp2
      go_ret
      rw [e.out]; exact ⟨rfl, rfl⟩

set_option maxRecDepth 100000 in
set_option maxHeartbeats 400000 in
theorem rtask_any (b : Nat) (z : Int) (m : M) (w : World) (h : RAt w b m) : Calls Try.prog 54 #[.pointer (some ⟨b, 0, none⟩), .int .i64 z] w fun e w' => e = .returned (.int .i64 (Fr.taskE m z)) ∧ w' = w := by
  by_cases k : z < 0 ∨ 20 ≤ z
  · have e : Hid (Fr.taskE m z = 1) := Hid.intro (if_pos k)
    by_cases h0 : z < 0
    · clear h k
      go_enter Try.func54, Try.ntmps54
      go_wp2
      go_ret
      rw [e.out]; exact ⟨rfl, rfl⟩
    · have h1 : decide (z < 0) = false := by simp; omega
      have h2 : 19 < z := by omega
      clear h k h0
      go_enter Try.func54, Try.ntmps54
      go_wp2
      go_ret
      rw [e.out]; exact ⟨rfl, rfl⟩
  · obtain ⟨g, rfl⟩ := Int.eq_ofNat_of_zero_le (show 0 ≤ z by omega)
    have c := (h.cells (10 + g) (by omega)).c0
    have h1 : (g : Int) < 20 := by omega
    have h2 : ¬ (19 : Int) < (g : Int) := by omega
    cases hh : (m.u (10 + g)).here
    · have e : Hid (Fr.taskE m g = 2) := Hid.intro (by unfold Fr.taskE; rw [if_neg k, Int.toNat_natCast, hh]; rfl)
      rw [hh] at c
      clear h k hh
      go_enter Try.func54, Try.ntmps54
      go_wp2
      go_ret
      rw [e.out]; exact ⟨rfl, rfl⟩
    · have e : Hid (Fr.taskE m g = 0) := Hid.intro (Fr.taskE_nat (by omega) hh)
      rw [hh] at c
      clear h k hh
      go_enter Try.func54, Try.ntmps54
      go_wp2
      go_ret
      rw [e.out]; exact ⟨rfl, rfl⟩

theorem rlook_i (b u : Nat) (z : Int) (hz : z = u) (m : M) (w : World) (h : RAt w b m) (hI : Fr.Inv m) (hu : u < 30) (hh : (m.u u).here = true) :
    Calls Try.prog 155 #[.pointer (some ⟨b, 0, none⟩), .int .i64 z] w fun e w' => e = .returned (.tuple #[]) ∧ ∃ m', Fr.Look m u m' ∧ RAt w' b m' ∧ Frm b w w' := by
  subst hz; exact rlook_any b u m w h hI hu hh
theorem taskE_cases (m : M) (z : Int) : Fr.taskE m z = 0 ∨ 0 < Fr.taskE m z := by unfold Fr.taskE; split; exact .inr (by omega); split; exact .inl rfl; exact .inr (by omega)
theorem groupE_cases (m : M) (z : Int) : Fr.groupE m z = 0 ∨ 0 < Fr.groupE m z := by unfold Fr.groupE; split; exact .inr (by omega); split; exact .inl rfl; exact .inr (by omega)

set_option maxRecDepth 100000 in
set_option maxHeartbeats 400000 in
theorem rwake_any (b : Nat) (z : Int) (on : Bool) (m : M) (w : World) (h : RAt w b m) (hI : Fr.Inv m) :
    Calls Try.prog 111 #[.pointer (some ⟨b, 0, none⟩), .int .i64 z, .bool on] w fun e w' => e = .returned (.int .i64 (Fr.taskE m z)) ∧ ∃ m', Fr.WakeTo m z on m' ∧ RAt w' b m' ∧ Frm b w w' := by
  have HF := Hid.intro h
  have HI := Hid.intro hI
  rcases taskE_cases m z with k | k
  · have HK := Hid.intro k
    obtain ⟨n, rfl, hn, hh⟩ := Fr.taskE_zero k
    have HH := Hid.intro hh
    have c1 := (h.cells (10 + n) (by omega)).c1
    have cf := h.frozen
    have hnI : (n : Int) < 20 := by omega
    have HT := Hid.intro (show Fr.Turn m (10 + n) { m.u (10 + n) with awake := on } by have t := Fr.Turn.of hI (show 10 + n < 30 by omega) hh; exact ⟨t.here, t.inn, t.weight, t.floor, t.quo, t.per, t.fl, t.tm⟩)
    clear k hh h hI
    go_enter Try.func111, Try.ntmps111
    go_wp2_with fail
    refine (rtask_any b n m _ HF.out).mono ?_
    rintro e w1 ⟨rfl, hw⟩
    subst w1
    rw [HK.out]
    go_wp2_with fail
    refine (rlook_i b (10 + n) _ (by omega) _ _ (HF.out.setAwake (10 + n) on (by omega)) (HI.out.turn (by omega) HH.out HT.out) (by omega) (by rw [Fr.set_same]; exact HH.out)).mono ?_
    rintro e w1 ⟨rfl, m', l1, f1, r1⟩
    have FIN := Hid.intro (show ∃ m', Fr.WakeTo m n on m' ∧ RAt w1 b m' ∧ Frm b w w1 from ⟨m', .inl ⟨HK.out, l1⟩, f1, ((Frm.refl b w).setCell _ _).trans r1⟩)
    clear l1 f1 r1 c1 cf
    go_wp2_with fail
    go_ret
    rw [HK.out]; exact ⟨rfl, FIN.out⟩
  · have HK := Hid.intro k
    obtain ⟨E, hE⟩ : ∃ E, Fr.taskE m z = E := ⟨_, rfl⟩
    have HE := Hid.intro hE
    rw [hE] at k
    clear h hI hE
    go_enter Try.func111, Try.ntmps111
    go_wp2_with fail
    refine (rtask_any b z m _ HF.out).mono ?_
    rintro e w1 ⟨rfl, hw⟩
    subst w1
    rw [HE.out]
    go_wp2
    go_ret
    rw [HE.out]; exact ⟨rfl, m, .inr ⟨by have := HK.out; omega, rfl⟩, HF.out, Frm.refl b w⟩

set_option maxRecDepth 100000 in
set_option maxHeartbeats 400000 in
theorem rfreeze_any (b : Nat) (z : Int) (on : Bool) (m : M) (w : World) (h : RAt w b m) (hI : Fr.Inv m) :
    Calls Try.prog 112 #[.pointer (some ⟨b, 0, none⟩), .int .i64 z, .bool on] w fun e w' => e = .returned (.int .i64 (Fr.lowerE m z)) ∧ ∃ m', Fr.FreezeTo m z on m' ∧ RAt w' b m' ∧ Frm b w w' := by
  have HF := Hid.intro h
  have HI := Hid.intro hI
  rcases groupE_cases m z with k | k
  · have HK := Hid.intro k
    obtain ⟨n, rfl, hn, hh⟩ := Fr.groupE_zero k
    by_cases n0 : n = 0
    · subst n0
      have HL : Hid (Fr.lowerE m ((0 : Nat) : Int) = 8) := Hid.intro (by unfold Fr.lowerE; rw [if_pos k]; rfl)
      clear k hh h hI
      go_enter Try.func112, Try.ntmps112
      go_wp2_with fail
      refine (rgroup_any b _ m _ HF.out).mono ?_
      rintro e w1 ⟨rfl, hw⟩
      subst w1
      rw [show Fr.groupE m 0 = 0 from HK.out]
      go_wp2
      go_ret
      rw [HL.out]; exact ⟨rfl, m, .inr ⟨by rw [HL.out]; decide, rfl⟩, HF.out, Frm.refl b w⟩
    · have HL : Hid (Fr.lowerE m n = 0) := Fr.lowerE_nat (by omega) hn hh
      have HH := Hid.intro hh
      have c1 := (h.cells n (by omega)).c2
      have cf := h.frozen
      have hnI : (n : Int) < 30 := by omega
      have n0' : ((n : Int) == 0) = false := by simp; omega
      have HT := Hid.intro (show Fr.Turn m n { m.u n with frozen := on } by have t := Fr.Turn.of hI (show n < 30 by omega) hh; exact ⟨t.here, t.inn, t.weight, t.floor, t.quo, t.per, t.fl, t.tm⟩)
      clear k hh h hI n0
      go_enter Try.func112, Try.ntmps112
      go_wp2_with fail
      refine (rgroup_any b n m _ HF.out).mono ?_
      rintro e w1 ⟨rfl, hw⟩
      subst w1
      rw [HK.out]
      go_wp2_with fail
      refine (rlook_any b n _ _ (HF.out.setFrozen n on (by omega)) (HI.out.turn (by omega) HH.out HT.out) (by omega) (by rw [Fr.set_same]; exact HH.out)).mono ?_
      rintro e w1 ⟨rfl, m', l1, f1, r1⟩
      have FIN := Hid.intro (show ∃ m', Fr.FreezeTo m n on m' ∧ RAt w1 b m' ∧ Frm b w w1 from ⟨m', .inl ⟨HL.out, l1⟩, f1, ((Frm.refl b w).setCell _ _).trans r1⟩)
      clear l1 f1 r1 c1 cf
      go_wp2_with fail
      go_ret
      rw [HL.out]; exact ⟨rfl, FIN.out⟩
  · obtain ⟨E, hE⟩ : ∃ E, Fr.groupE m z = E := ⟨_, rfl⟩
    have HL : Hid (Fr.lowerE m z = E) := Hid.intro (by unfold Fr.lowerE; rw [if_neg (by omega)]; exact hE)
    have HE := Hid.intro hE
    rw [hE] at k
    clear h hI hE
    go_enter Try.func112, Try.ntmps112
    go_wp2_with fail
    refine (rgroup_any b z m _ HF.out).mono ?_
    rintro e w1 ⟨rfl, hw⟩
    subst w1
    rw [HE.out]
    go_wp2
    go_ret
    rw [HL.out]; exact ⟨rfl, m, .inr ⟨by rw [HL.out]; omega, rfl⟩, HF.out, Frm.refl b w⟩

theorem RAt.setQ {w : World} {b : Nat} {m : M} (h : RAt w b m) (g q p : Nat) (hg : g < 30) : RAt (((w.setCell ⟨b, g * 12 + 9, none⟩ (.int .i64 (q : Int))).setCell ⟨b, g * 12 + 10, none⟩ (.int .i64 (p : Int))).setCell ⟨b, g * 12 + 11, none⟩ (.int .i64 0)) b (m.set g { m.u g with quota := q, period := p, used := 0 }) := by
  have := ((h.setQuota g q hg).setPeriod g p hg).setUsed g 0 hg
  simp only [Fr.set_same, Fr.set_set] at this
  exact this

set_option maxRecDepth 100000 in
set_option maxHeartbeats 1000000 in
theorem rquota_any (b : Nat) (z q p : Int) (m : M) (w : World) (h : RAt w b m) (hI : Fr.Inv m) :
    Calls Try.prog 113 #[.pointer (some ⟨b, 0, none⟩), .int .i64 z, .int .i64 q, .int .i64 p] w fun e w' => e = .returned (.int .i64 (Fr.quotaE m z q p)) ∧ ∃ m', Fr.QuotaTo m z q p m' ∧ RAt w' b m' ∧ Frm b w w' := by
  have HF := Hid.intro h
  have HI := Hid.intro hI
  rcases groupE_cases m z with k | k
  · have HK := Hid.intro k
    obtain ⟨n, rfl, hn, hh⟩ := Fr.groupE_zero k
    by_cases n0 : n = 0
    · subst n0
      have HL : Hid (Fr.quotaE m ((0 : Nat) : Int) q p = 8) := Hid.intro (by
        have : Fr.lowerE m ((0 : Nat) : Int) = 8 := by unfold Fr.lowerE; rw [if_pos k]; rfl
        unfold Fr.quotaE; rw [if_neg (by rw [this]; decide)]; exact this)
      clear k hh h hI
      go_enter Try.func113, Try.ntmps113
      go_wp2_with fail
      refine (rgroup_any b _ m _ HF.out).mono ?_
      rintro e w1 ⟨rfl, hw⟩
      subst w1
      rw [show Fr.groupE m 0 = 0 from HK.out]
      go_wp2
      go_ret
      rw [HL.out]; exact ⟨rfl, m, .inr ⟨by rw [HL.out]; decide, rfl⟩, HF.out, Frm.refl b w⟩
    · have HL0 : Hid (Fr.lowerE m n = 0) := Fr.lowerE_nat (by omega) hn hh
      have HH := Hid.intro hh
      have cc := h.cells n (by omega)
      have c1 := cc.c9
      have c2 := cc.ca
      have c3 := cc.cb
      have cf := h.frozen
      have hnI : (n : Int) < 30 := by omega
      have n0' : ((n : Int) == 0) = false := by simp; omega
      by_cases hq : q < 0 ∨ p < q ∨ p < 1 ∨ 100 < p
      · have HL : Hid (Fr.quotaE m n q p = 1) := Hid.intro (by unfold Fr.quotaE; rw [if_pos HL0.out, if_pos hq])
        clear k hh h hI cc c1 c2 c3 cf
        go_enter Try.func113, Try.ntmps113
        go_wp2_with fail
        refine (rgroup_any b n m _ HF.out).mono ?_
        rintro e w1 ⟨rfl, hw⟩
        subst w1
        rw [HK.out]
        have FIN := Hid.intro (show ∃ m', Fr.QuotaTo m n q p m' ∧ RAt w b m' ∧ Frm b w w from ⟨m, .inr ⟨by rw [HL.out]; decide, rfl⟩, HF.out, Frm.refl b w⟩)
        by_cases h1 : q < 0
        · clear hq
          go_wp2
          go_ret
          rw [HL.out]; exact ⟨rfl, FIN.out⟩
        · have d1 : decide (q < 0) = false := by simp; omega
          by_cases h2 : p < q
          · clear hq
            go_wp2
            go_ret
            rw [HL.out]; exact ⟨rfl, FIN.out⟩
          · have d2 : decide (p < q) = false := by simp; omega
            by_cases h3 : p < 1
            · clear hq
              go_wp2
              go_ret
              rw [HL.out]; exact ⟨rfl, FIN.out⟩
            · have d3 : decide (p < 1) = false := by simp; omega
              have h4 : 100 < p := by omega
              clear hq
              go_wp2
              go_ret
              rw [HL.out]; exact ⟨rfl, FIN.out⟩
      · have HL : Hid (Fr.quotaE m n q p = 0) := Hid.intro (by unfold Fr.quotaE; rw [if_pos HL0.out, if_neg hq])
        obtain ⟨q', rfl⟩ := Int.eq_ofNat_of_zero_le (show 0 ≤ q by omega)
        obtain ⟨p', rfl⟩ := Int.eq_ofNat_of_zero_le (show 0 ≤ p by omega)
        have HT := Hid.intro (Fr.quota_turn hI (show 0 < n by omega) hn hh (q := q') (p := p') ⟨by omega, by omega, by omega, by omega⟩)
        rw [Int.toNat_natCast, Int.toNat_natCast] at HT
        have d1 : decide ((p' : Int) < (q' : Int)) = false := by simp; omega
        have d2 : decide ((p' : Int) < 1) = false := by simp; omega
        have d3 : ¬ (100 : Int) < (p' : Int) := by omega
        have e1 : q' ≤ p' := by omega
        have e2 : 1 ≤ p' := by omega
        have e3 : p' ≤ 100 := by omega
        clear k hh h hI cc n0 hq
        go_enter Try.func113, Try.ntmps113
        go_wp2_with fail
        refine (rgroup_any b n m _ HF.out).mono ?_
        rintro e w1 ⟨rfl, hw⟩
        subst w1
        rw [HK.out]
        go_wp2_with fail
        refine (rlook_any b n _ _ (HF.out.setQ n q' p' (by omega)) (HI.out.turn (by omega) HH.out HT.out) (by omega) (by rw [Fr.set_same]; exact HH.out)).mono ?_
        rintro e w1 ⟨rfl, m', l1, f1, r1⟩
        have FIN := Hid.intro (show ∃ m', Fr.QuotaTo m n q' p' m' ∧ RAt w1 b m' ∧ Frm b w w1 from ⟨m', .inl ⟨HL.out, l1⟩, f1, ((((Frm.refl b w).setCell _ _).setCell _ _).setCell _ _).trans r1⟩)
        clear l1 f1 r1 c1 c2 c3 cf
        go_wp2_with fail
        go_ret
        rw [HL.out]; exact ⟨rfl, FIN.out⟩
  · obtain ⟨E, hE⟩ : ∃ E, Fr.groupE m z = E := ⟨_, rfl⟩
    have HL : Hid (Fr.quotaE m z q p = E) := Hid.intro (by
      have : Fr.lowerE m z = E := by unfold Fr.lowerE; rw [if_neg (by omega)]; exact hE
      unfold Fr.quotaE; rw [if_neg (by rw [this]; omega)]; exact this)
    have HE := Hid.intro hE
    rw [hE] at k
    clear h hI hE
    go_enter Try.func113, Try.ntmps113
    go_wp2_with fail
    refine (rgroup_any b z m _ HF.out).mono ?_
    rintro e w1 ⟨rfl, hw⟩
    subst w1
    rw [HE.out]
    go_wp2
    go_ret
    rw [HL.out]; exact ⟨rfl, m, .inr ⟨by rw [HL.out]; omega, rfl⟩, HF.out, Frm.refl b w⟩

end Go.Proofs.Ytgabfkaadflciaa

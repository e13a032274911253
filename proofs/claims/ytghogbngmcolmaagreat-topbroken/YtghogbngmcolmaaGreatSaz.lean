import Derived.Test.YtghogbngmcolmaaGreatSay
namespace Go.Proofs.YtghogbngmcolmaaGreat
open Go.RowKit
open Kn (Pr Kp St us KB)
def Kn.lv (k : Kp) (n : Nat) : Bool := decide ((k.p n).st = 1)
def Kn.actE (k : Kp) (z : Int) : Int := if z < 0 ∨ 20 ≤ z then 1 else if Kn.lv k z.toNat = true then 0 else 2
theorem Kn.actE_ok {k : Kp} {z : Int} (h : Kn.actE k z = 0) : ∃ n : Nat, z = n ∧ n < 20 ∧ Kn.lv k n = true := by
  unfold Kn.actE at h
  by_cases c : z < 0 ∨ 20 ≤ z
  · rw [if_pos c] at h; omega
  · rw [if_neg c] at h
    by_cases d : Kn.lv k z.toNat = true
    · exact ⟨z.toNat, by omega, by omega, d⟩
    · rw [if_neg d] at h; omega
theorem Kn.actE_of {k : Kp} {n : Nat} (hn : n < 20) (h : Kn.lv k n = true) : Kn.actE k (n : Int) = 0 := by
  unfold Kn.actE
  rw [if_neg (by omega), Int.toNat_natCast, if_pos h]
def aptE (b : Nat) (z E : Int) : Value := if E = 0 then .pointer (some ⟨b, z.toNat * 12, none⟩) else .pointer none
theorem aptE_ok (b n : Nat) : aptE b (n : Int) 0 = .pointer (some ⟨b, n * 12, none⟩) := by unfold aptE; rw [if_pos rfl, Int.toNat_natCast]
theorem aptE_no {b : Nat} {z E : Int} (h : E ≠ 0) : aptE b z E = .pointer none := if_neg h
section
variable (base : Nat) (s : St) (w : World)
set_option maxRecDepth 100000 in
set_option maxHeartbeats 400000 in
theorem klive_any (n : Nat) (h : KKt w base s) (hn : n < 20) (v : Bool) (hv : Kn.lv s.k n = v) :
    Calls Tryz.prog 40 #[.pointer (some ⟨s.A 0, 0, none⟩), .int .i64 n] w fun e w' => e = .returned (.bool v) ∧ w' = w := by
  have c0 := h.cSt n hn
  have hnI : (n : Int) < 20 := by omega
  generalize s.A 0 = kb at *
  unfold Kn.lv at hv
  generalize (s.k.p n).st = st at *
  clear h
  by_cases d : st = 1
  · subst d
    have E : v = true := by rw [← hv]; rfl
    subst E
    clear hv
    have c0' : w.cell? ⟨kb, n * 12, none⟩ = some (.int .i64 1) := c0
    clear c0
    go_enter Tryz.func40, Tryz.ntmps40
    go_wp2_with fail
    go_ret
    exact ⟨rfl, rfl⟩
  · have E : v = false := by rw [← hv]; exact decide_eq_false d
    subst E
    have d1 : ((st : Int) == 1) = false := by simp; omega
    clear hv d
    go_enter Tryz.func40, Tryz.ntmps40
    go_wp2_with fail
    go_ret
    exact ⟨rfl, rfl⟩
set_option maxRecDepth 100000 in
set_option maxHeartbeats 400000 in
theorem kacting_any (z : Int) (h : KKt w base s) :
    Calls Tryz.prog 24 #[.pointer (some ⟨s.A 0, 0, none⟩), .int .i64 z] w fun e w' => e = .returned (.tuple #[aptE (s.A 0) z (Kn.actE s.k z), errV (Kn.actE s.k z)]) ∧ w' = w := by
  by_cases c : z < 0 ∨ 20 ≤ z
  · have E : Hid (Kn.actE s.k z = 1 ∧ aptE (s.A 0) z 1 = .pointer none) := Hid.intro ⟨if_pos c, aptE_no (by decide)⟩
    generalize s.A 0 = kb at *
    clear h
    by_cases c1 : z < 0
    · clear c
      go_enter Tryz.func24, Tryz.ntmps24
      go_wp2_with fail
      go_ret2
      rw [E.out.1, E.out.2]
      exact ⟨rfl, rfl⟩
    · have c2 : 20 ≤ z := by omega
      clear c
      go_enter Tryz.func24, Tryz.ntmps24
      go_wp2_with fail
      go_ret2
      rw [E.out.1, E.out.2]
      exact ⟨rfl, rfl⟩
  · obtain ⟨n, rfl⟩ : ∃ n : Nat, z = n := ⟨z.toNat, by omega⟩
    have hn : n < 20 := by omega
    have hnI : (n : Int) < 20 := by omega
    have E0 : Kn.actE s.k (n : Int) = if Kn.lv s.k n = true then 0 else 2 := by unfold Kn.actE; rw [if_neg c, Int.toNat_natCast]
    obtain ⟨v, hv⟩ : ∃ v, Kn.lv s.k n = v := ⟨_, rfl⟩
    have LV := Hid.intro (klive_any base s w n h hn v hv)
    clear h
    cases v
    · have E : Hid (Kn.actE s.k (n : Int) = 2 ∧ aptE (s.A 0) (n : Int) 2 = .pointer none) := Hid.intro ⟨by rw [E0, hv]; rfl, aptE_no (by decide)⟩
      clear c E0 hv
      generalize s.A 0 = kb at *
      go_enter Tryz.func24, Tryz.ntmps24
      go_wp2_with fail
      refine LV.out.mono ?_
      rintro e w1 ⟨rfl, hw⟩
      subst w1
      go_wp2_with fail
      go_ret2
      rw [E.out.1, E.out.2]
      exact ⟨rfl, rfl⟩
    · have E : Hid (Kn.actE s.k (n : Int) = 0 ∧ aptE (s.A 0) (n : Int) 0 = .pointer (some ⟨s.A 0, n * 12, none⟩)) := Hid.intro ⟨by rw [E0, hv]; rfl, aptE_ok _ _⟩
      clear c E0 hv
      generalize s.A 0 = kb at *
      go_enter Tryz.func24, Tryz.ntmps24
      go_wp2_with fail
      refine LV.out.mono ?_
      rintro e w1 ⟨rfl, hw⟩
      subst w1
      go_wp2_with fail
      go_ret2
      rw [E.out.1, E.out.2]
      exact ⟨rfl, rfl⟩
set_option maxRecDepth 100000 in
set_option maxHeartbeats 400000 in
theorem kspace_any (z : Int) (h : KKt w base s) :
    Calls Tryz.prog 37 #[.pointer (some ⟨s.A 0, 0, none⟩), .int .i64 z] w fun e w' => e = .returned (.int .i64 (Sp.inN s.k.sp z : Int)) ∧ w' = w := by
  have c0 := h.cSp
  have OF := Hid.intro (of_any (s.A 1) z s.k.sp w h.sp)
  generalize s.A 0 = kb at *
  clear h
  go_enter Tryz.func37, Tryz.ntmps37
  go_wp2_with fail
  refine OF.out.mono ?_
  rintro e w1 ⟨rfl, hw⟩
  subst w1
  go_wp2_with fail
  go_ret
  exact ⟨rfl, rfl⟩
set_option maxRecDepth 100000 in
set_option maxHeartbeats 400000 in
theorem kpid_any (x z : Int) (h : KKt w base s) (h0 : ∀ n, n < 6 → s.k.sp.who n 0 = 0) :
    Calls Tryz.prog 36 #[.pointer (some ⟨s.A 0, 0, none⟩), .int .i64 x, .int .i64 z] w fun e w' => e = .returned (.int .i64 (Sp.pidN s.k.sp x z : Int)) ∧ w' = w := by
  have c0 := h.cSp
  have OF := Hid.intro (pidT_any (s.A 1) x z s.k.sp w h.sp h0)
  generalize s.A 0 = kb at *
  clear h h0
  go_enter Tryz.func36, Tryz.ntmps36
  go_wp2_with fail
  refine OF.out.mono ?_
  rintro e w1 ⟨rfl, hw⟩
  subst w1
  go_wp2_with fail
  go_ret
  exact ⟨rfl, rfl⟩
set_option maxRecDepth 100000 in
set_option maxHeartbeats 400000 in
theorem khead_any (z : Int) (h : KKt w base s) :
    Calls Tryz.prog 80 #[.pointer (some ⟨s.A 0, 0, none⟩), .int .i64 z] w fun e w' => e = .returned (.int .i64 (Sp.findN s.k.sp z 1 : Int)) ∧ w' = w := by
  have c0 := h.cSp
  have OF := Hid.intro (find_any (s.A 1) z 1 s.k.sp w h.sp)
  generalize s.A 0 = kb at *
  clear h
  go_enter Tryz.func80, Tryz.ntmps80
  go_wp2_with fail
  refine OF.out.mono ?_
  rintro e w1 ⟨rfl, hw⟩
  subst w1
  go_wp2_with fail
  go_ret
  exact ⟨rfl, rfl⟩
set_option maxRecDepth 100000 in
set_option maxHeartbeats 400000 in
theorem kmembers_any (z : Int) (h : KKt w base s) :
    Calls Tryz.prog 81 #[.pointer (some ⟨s.A 0, 0, none⟩), .int .i64 z] w fun e w' => ∃ v, e = .returned v ∧ LO w (membL s.k.sp z) v w' := by
  have c0 := h.cSp
  have OF := Hid.intro (membersT_any (s.A 1) z s.k.sp w h.sp)
  generalize s.A 0 = kb at *
  clear h
  go_enter Tryz.func81, Tryz.ntmps81
  go_wp2_with fail
  refine OF.out.mono ?_
  rintro e w1 ⟨v, rfl, hL⟩
  have HL := Hid.intro hL
  clear hL
  go_wp2_with fail
  go_ret
  exact ⟨v, rfl, HL.out⟩
def Kn.hd (k : Kp) (n : Nat) : Nat := Sp.findN k.sp (Sp.inN k.sp (n : Int) : Int) 1
set_option maxRecDepth 100000 in
set_option maxHeartbeats 400000 in
theorem kisHead_any (n : Nat) (h : KKt w base s) (v : Bool) (hv : decide (Kn.hd s.k n = n) = v) :
    Calls Tryz.prog 78 #[.pointer (some ⟨s.A 0, 0, none⟩), .int .i64 n] w fun e w' => e = .returned (.bool v) ∧ w' = w := by
  have SP := Hid.intro (kspace_any base s w (n : Int) h)
  have HD := Hid.intro (khead_any base s w (Sp.inN s.k.sp (n : Int) : Int) h)
  unfold Kn.hd at hv
  generalize Sp.findN s.k.sp (Sp.inN s.k.sp (n : Int) : Int) 1 = x at *
  generalize Sp.inN s.k.sp (n : Int) = y at *
  generalize s.A 0 = kb at *
  clear h
  by_cases d : x = n
  · subst d
    have E : v = true := by rw [← hv]; simp
    subst E
    clear hv
    go_enter Tryz.func78, Tryz.ntmps78
    go_wp2_with fail
    refine SP.out.mono ?_
    rintro e w1 ⟨rfl, hw⟩
    subst w1
    go_wp2_with fail
    refine HD.out.mono ?_
    rintro e w1 ⟨rfl, hw⟩
    subst w1
    go_wp2_with fail
    go_ret
    exact ⟨rfl, rfl⟩
  · have E : v = false := by rw [← hv]; exact decide_eq_false d
    subst E
    have d1 : ((x : Int) == (n : Int)) = false := by simp; omega
    clear hv d
    go_enter Tryz.func78, Tryz.ntmps78
    go_wp2_with fail
    refine SP.out.mono ?_
    rintro e w1 ⟨rfl, hw⟩
    subst w1
    go_wp2_with fail
    refine HD.out.mono ?_
    rintro e w1 ⟨rfl, hw⟩
    subst w1
    go_wp2_with fail
    go_ret
    exact ⟨rfl, rfl⟩
def Kn.liveL (k : Kp) (n : Nat) : List Nat := (List.range n).filter (Kn.lv k)
theorem Kn.liveL_yes {k : Kp} {n : Nat} (h : Kn.lv k n = true) : Kn.liveL k (n + 1) = Kn.liveL k n ++ [n] := by
  unfold Kn.liveL
  rw [List.range_succ, List.filter_append]
  simp [h]
theorem Kn.liveL_no {k : Kp} {n : Nat} (h : Kn.lv k n = false) : Kn.liveL k (n + 1) = Kn.liveL k n := by
  unfold Kn.liveL
  rw [List.range_succ, List.filter_append]
  simp [h]
theorem Kn.liveL_len (k : Kp) (n : Nat) : (Kn.liveL k n).length ≤ n := by
  have := List.length_filter_le (Kn.lv k) (List.range n)
  simpa [Kn.liveL] using this
set_option maxRecDepth 100000 in
set_option maxHeartbeats 1000000 in
theorem kprocs_any (h : KKt w base s) :
    Calls Tryz.prog 23 #[.pointer (some ⟨s.A 0, 0, none⟩)] w fun e w' => ∃ v, e = .returned v ∧ LO w (Kn.liveL s.k 20) v w' := by
  obtain ⟨i0, hi, hz0, hz1, hz2⟩ := info_parts info3
  have H := Hid.intro h
  clear h
  go_enter Tryz.func23, Tryz.ntmps23
  go_wp2_with fail
  go_loopw [3, 5] (fun l i wr => ∃ (k : Nat), i = .int .i64 k ∧ k ≤ 20 ∧ Hid (LO w (Kn.liveL s.k k) l wr)) (fun _ i _ => 20 - (intOf i).toNat)
  case atStart => exact ⟨0, rfl, by omega, LO.nil w⟩
  case round =>
    obtain ⟨k, rfl, hk, R⟩ := hrel
    by_cases hlt : k < 20
    · have hltI : (k : Int) < 20 := by omega
      cases hth : Kn.lv s.k k
      · have HM := Hid.intro (Kn.liveL_no hth)
        have LV := Hid.intro (klive_any base s wr k (H.out.below R.out.bel) hlt false hth)
        clear hth
        go_wp2_with fail
        refine LV.out.mono ?_
        rintro e w1 ⟨rfl, hw⟩
        subst w1
        go_wp2_with fail
        go_roundw
        case rel => exact ⟨k + 1, by go_num, by omega, by rw [HM.out]; exact R⟩
        case measure => simp [intOf]; omega
      · have HM := Hid.intro (Kn.liveL_yes hth)
        have LV := Hid.intro (klive_any base s wr k (H.out.below R.out.bel) hlt true hth)
        obtain ⟨a, cap, hv⟩ := own_form R.out.own
        rw [hv]
        have HV := Hid.intro hv
        have hlm := Kn.liveL_len s.k k
        generalize hN : (Kn.liveL s.k k).length = N at *
        have HN := Hid.intro hN
        clear hv hN hth
        go_wp2_with fail
        refine LV.out.mono ?_
        rintro e w1 ⟨rfl, hw⟩
        subst w1
        go_wp2_with (at_builtin; refine wpList_append_lies _ rfl _ _ 55 (by rfl) w.heap.size 3 i0 (.int .i64 0) 1 8 Tryz.underlying55 hi hz0 hz1 hz2 rfl (by decide) (.slice a N cap) N (rowOf (Kn.liveL s.k k)) (by rfl) (by rw [← HV.out, ← HN.out]; exact R.out.own.alloc _) ⟨wr.heap.size, 0, none⟩ 1 1 [.int .i64 k] (by rfl) rfl (cell_one_new _ _ _) (by simp [Value.oneCell']) (by decide) (by unfold maxLen; omega) (by omega) (by have := R.out.bel.size; simp; omega) (wr.heap.size + 1) (by simp) ?_; intro gg cap2 w1 hown hgrow hat hlt2; have Q1 : Hid (LO w (Kn.liveL s.k k ++ [k]) (.slice (some ⟨gg, 0, none⟩) (N + 1) cap2) w1) := R.out.more HN.out hown _ (by rw [HV.out]; exact hgrow); clear hown hgrow hat hlt2)
        go_roundw
        case rel => exact ⟨k + 1, by go_num, by omega, by rw [HM.out]; exact Q1⟩
        case measure => simp [intOf]; omega
    · obtain rfl : k = 20 := by omega
      go_wp2
      go_ret
      exact ⟨_, rfl, R.out⟩
def Kn.FreeTo (k : Kp) (n : Nat) (E : Int) : Prop := (E = 0 ∧ n < 20 ∧ (k.p n).st = 0 ∧ ∀ m, m < n → (k.p m).st ≠ 0) ∨ (E = 4 ∧ n = 0 ∧ ∀ m, m < 20 → (k.p m).st ≠ 0)
set_option maxRecDepth 100000 in
set_option maxHeartbeats 1000000 in
theorem knfree_any (h : KKt w base s) :
    Calls Tryz.prog 29 #[.pointer (some ⟨s.A 0, 0, none⟩)] w fun e w' => ∃ (n : Nat) (E : Int), e = .returned (.tuple #[.int .i64 (n : Int), errV E]) ∧ Kn.FreeTo s.k n E ∧ w' = w := by
  have H := Hid.intro h
  obtain ⟨kb, hkb⟩ : ∃ kb, s.A 0 = kb := ⟨_, rfl⟩
  have HK := Hid.intro hkb
  rw [hkb]
  clear h hkb
  go_enter Tryz.func29, Tryz.ntmps29
  go_wp2_with fail
  go_loopw [4, 5] (fun _ i wr => ∃ (k : Nat), i = .int .i64 k ∧ k ≤ 20 ∧ wr = w ∧ Hid (∀ m, m < k → (s.k.p m).st ≠ 0)) (fun _ i _ => 20 - (intOf i).toNat)
  case atStart => exact ⟨0, rfl, by omega, rfl, Hid.intro (fun m hm => absurd hm (Nat.not_lt_zero m))⟩
  case round =>
    obtain ⟨k, rfl, hk, hwr, R⟩ := hrel
    subst wr
    by_cases hlt : k < 20
    · have hltI : (k : Int) < 20 := by omega
      have c0 := H.out.cSt k hlt
      rw [HK.out] at c0
      by_cases d : (s.k.p k).st = 0
      · have FT : Hid (Kn.FreeTo s.k k 0) := Hid.intro (.inl ⟨rfl, hlt, d, R.out⟩)
        rw [d] at c0
        have c0' : w.cell? ⟨kb, k * 12, none⟩ = some (.int .i64 0) := c0
        clear d c0
        go_wp2_with fail
        go_ret2
        exact ⟨k, 0, by rw [errV_zero]; rfl, FT.out, rfl⟩
      · have R1 : Hid (∀ m, m < k + 1 → (s.k.p m).st ≠ 0) := Hid.intro (fun m hm => by
          by_cases e : m = k
          · rw [e]; exact d
          · exact R.out m (by omega))
        generalize (s.k.p k).st = st at *
        have d1 : ((st : Int) == 0) = false := by simp; omega
        clear d
        go_wp2_with fail
        go_roundw
        case rel => exact ⟨k + 1, by go_num, by omega, by first | rfl | trivial, R1⟩
        case measure => simp [intOf]; omega
    · obtain rfl : k = 20 := by omega
      have FT : Hid (Kn.FreeTo s.k 0 4) := Hid.intro (.inr ⟨rfl, rfl, R.out⟩)
      go_wp2_with fail
      go_ret2
      exact ⟨0, 4, rfl, FT.out, rfl⟩
end
end Go.Proofs.YtghogbngmcolmaaGreat

/- Add; All. -/
import Derived.Test.YtgabceeekkcekaaGe
import Derived.Test.YtgabceeekkcekaaRefAll
namespace Go.Proofs.Ytgabceeekkcekaa
open Go.RowKit Go.Shelf

set_option maxRecDepth 100000 in
set_option maxHeartbeats 400000 in
theorem add_bad (b : Nat) (g : Int) (t : Nat → Gp) (w : World) (h : TAt w b t) (hw : wr t g ≠ 0) : Calls Try.prog 23 #[.pointer (some ⟨b, 0, none⟩), .int .i64 g] w fun e w' => e = .returned (.tuple #[.int .i64 0, errV (wr t g)]) ∧ w' = w := by
  have HT : Hid (TAt w b t) := h
  have HW : Hid (errV (wr t g) = .iface 81 (.int .i64 (wr t g))) := errV_ne hw
  clear h hw
  go_enter Try.func23, Try.ntmps23
  go_wp2_with fail
  refine (wrong_any b g t _ HT.out).mono ?_
  rintro e w1 ⟨rfl, hw1⟩
  subst w1
  rw [HW.out]
  go_wp2
  go_ret2
  exact ⟨by rw [HW.out]; rfl, rfl⟩

set_option maxRecDepth 100000 in
set_option maxHeartbeats 400000 in
theorem add_deep (b n : Nat) (t : Nat → Gp) (xs : List (Fin 10)) (w : World) (h : TAt w b t) (hL : Way t n (vals xs)) (hn : n < 10) (hh : (t n).there = true) (hd : 4 ≤ xs.length) (hd2 : xs.length < 1000) :
    Calls Try.prog 23 #[.pointer (some ⟨b, 0, none⟩), .int .i64 n] w fun e w' => e = .returned (.tuple #[.int .i64 0, errV 7]) ∧ Below w.heap.size w w' := by
  have H : Hid (TAt w b t ∧ Way t n (vals xs) ∧ (t n).there = true) := ⟨h, hL, hh⟩
  clear h hL hh
  go_enter Try.func23, Try.ntmps23
  go_wp2_with fail
  refine (wrong_ok b n t _ H.out.1 hn H.out.2.2).mono ?_
  rintro e w1 ⟨rfl, hw1⟩
  subst w1
  go_wp2_with fail
  refine (depth_any b n t xs _ H.out.1 H.out.2.1 hd2).mono ?_
  rintro e w2 ⟨rfl, hb⟩
  have HB := Hid.intro hb
  have hdI : (4 : Int) ≤ (xs.length : Int) := by omega
  clear hb
  go_wp2
  go_ret2
  exact ⟨rfl, HB.out⟩

set_option maxRecDepth 100000 in
set_option maxHeartbeats 1000000 in
theorem add_rest (b p : Nat) (t : Nat → Gp) (xs : List (Fin 10)) (w : World) (h : TAt w b t) (hL : Way t p (vals xs)) (hp : p < 10) (hh : (t p).there = true) (hd : xs.length < 4) :
    Calls Try.prog 23 #[.pointer (some ⟨b, 0, none⟩), .int .i64 p] w fun e w' =>
      (∃ n : Nat, n < 10 ∧ (t n).there = false ∧ (∀ k, k < n → (t k).there = true) ∧ e = .returned (.tuple #[.int .i64 n, errV 0]) ∧ TAt w' b (updT t n (newGp p)) ∧ Frm b w w') ∨
      ((∀ k, k < 10 → (t k).there = true) ∧ e = .returned (.tuple #[.int .i64 0, errV 4]) ∧ Below w.heap.size w w') := by
  have H : Hid (TAt w b t ∧ Way t p (vals xs) ∧ (t p).there = true) := ⟨h, hL, hh⟩
  clear h hL hh
  go_enter Try.func23, Try.ntmps23
  go_wp2_with fail
  refine (wrong_ok b p t _ H.out.1 hp H.out.2.2).mono ?_
  rintro e w1 ⟨rfl, hw1⟩
  subst w1
  go_wp2_with fail
  refine (depth_any b p t xs _ H.out.1 H.out.2.1 (by omega)).mono ?_
  rintro e w2 ⟨rfl, hb⟩
  have HB := Hid.intro hb
  have hdI : ¬ (4 : Int) ≤ (xs.length : Int) := by omega
  clear hb
  go_wp2_with fail
  go_loopw [19] (fun i wr => ∃ (k : Nat), i = .int .i64 k ∧ k ≤ 10 ∧ Hid ((∀ j, j < k → (t j).there = true) ∧ Below w.heap.size w wr)) (fun i _ => 10 - (intOf i).toNat)
  case atStart => exact ⟨0, rfl, by omega, ⟨fun j hj => by omega, HB.out⟩⟩
  case round =>
    obtain ⟨k, rfl, hk, HR⟩ := hrel
    by_cases hlt : k < 10
    · have hltI : (k : Int) < 10 := by omega
      have T1 := Hid.intro (H.out.1.below HR.out.2 H.out.1.lt)
      have c0 : wr.cell? ⟨b, k * 6, none⟩ = some (.bool (t k).there) := T1.out.cell k 0 hlt (by omega)
      cases hth : (t k).there
      · have HTH := Hid.intro hth
        rw [hth] at c0
        clear hth
        go_wp2_with fail
        go_region_held3 (fun _ => True) (trivial) ((go_at_call 53; refine (newGroup_any _ _).mono ?_; rintro e w3 ⟨rfl, hb3⟩; have T2 : TAt w3 b t := T1.out.drew.below hb3 T1.out.lt; have c0 : w3.cell? ⟨b, k * 6, none⟩ = some (.bool (t k).there) := T2.cell k 0 hlt (by omega); have c1 := T2.cell k 1 hlt (by omega); have c2 := T2.cell k 2 hlt (by omega); have c3 := T2.cell k 3 hlt (by omega); have c4 := T2.cell k 4 hlt (by omega); have c5 := T2.cell k 5 hlt (by omega); have cf := T2.frozen))
        have HT2 : Hid (TAt w3 b t) := T2
        have HB2 : Hid (Below w.heap.size w w3) := HR.out.2.trans ((Below.refl _ wr).drew.trans (hb3.mono (by have := HR.out.2.size; exact this)))
        clear T2 c0 c1 c2 c3 c4 c5 cf hb3
        go_wp2
        go_ret2
        exact .inl ⟨k, hlt, HTH.out, HR.out.1, rfl, HT2.out.put6 k hlt (newGp p), ((((((Frm.of_below HB2.out).setCell _ _).setCell _ _).setCell _ _).setCell _ _).setCell _ _).setCell _ _⟩
      · have HTH := Hid.intro hth
        rw [hth] at c0
        clear hth
        go_wp2_with fail
        go_roundw
        case rel => exact ⟨k + 1, by go_num, by omega, ⟨fun j hj => (Nat.lt_or_ge j k).elim (HR.out.1 j) (fun hge => by rw [show j = k by omega]; exact HTH.out), HR.out.2⟩⟩
        case measure => simp [intOf]; omega
    · have hk10 : k = 10 := by omega
      subst hk10
      go_wp2
      go_ret2
      exact .inr ⟨HR.out.1, rfl, HR.out.2⟩

/-- The groups that there are, in their order. -/
def thL (t : Nat → Gp) (k : Nat) : List Nat := (List.range k).filter fun j => (t j).there
theorem thL_succ (t : Nat → Gp) (k : Nat) : thL t (k + 1) = thL t k ++ if (t k).there = true then [k] else [] := by
  unfold thL
  rw [List.range_succ, List.filter_append]
  cases h : (t k).there <;> simp [h]
theorem thL_len (t : Nat → Gp) (k : Nat) : (thL t k).length ≤ k := by
  have := List.length_filter_le (fun j => (t j).there) (List.range k)
  simpa [thL] using this
theorem mem_thL {t : Nat → Gp} {k x : Nat} : x ∈ thL t k ↔ x < k ∧ (t x).there = true := by simp [thL]

/-- What the loop of All carries. -/
structure AL (w : World) (t : Nat → Gp) (k : Nat) (l : Value) (wr : World) : Prop where
  bel : Below w.heap.size w wr
  own : wr.ownsRow w.heap.size 3 1 l (thL t k).length (rowOf (thL t k))
theorem AL.more {w w1 wr : World} {t : Nat → Gp} {k gg cap N : Nat} {l : Value} (h : AL w t k l wr) (hth : (t k).there = true) (hN : (thL t k).length = N) (hl : w1.ownsRow w.heap.size 3 1 (.slice (some ⟨gg, 0, none⟩) (N + 1) cap) (N + 1) (rowOf (thL t k) ++ [.int .i64 k])) (o : Obj) (hg : (wr.alloc o).grownBy w1 l.ownBlock) :
    AL w t (k + 1) (.slice (some ⟨gg, 0, none⟩) (N + 1) cap) w1 := by
  have hs := h.bel.size
  have e : thL t (k + 1) = thL t k ++ [k] := by rw [thL_succ, if_pos hth]
  refine ⟨(h.bel.alloc hs o).grown hg (by simp; omega) (fun k e => (h.own.lt k e).1), ?_⟩
  have e2 : rowOf (thL t (k + 1)) = rowOf (thL t k) ++ [.int .i64 k] := by rw [e]; simp [rowOf]
  rw [e2, show (thL t (k + 1)).length = N + 1 by rw [e]; simp [hN]]
  exact hl

set_option maxRecDepth 100000 in
set_option maxHeartbeats 1000000 in
theorem gall_any (b : Nat) (t : Nat → Gp) (w : World) (h : TAt w b t) :
    Calls Try.prog 67 #[.pointer (some ⟨b, 0, none⟩)] w fun e w' => ∃ v, e = .returned v ∧ AL w t 10 v w' := by
  obtain ⟨i0, hi, hz0, hz1, hz2⟩ := info_parts info3
  have H := Hid.intro h
  clear h
  go_enter Try.func67, Try.ntmps67
  go_wp2_with fail
  go_loopw [3, 5] (fun l i wr => ∃ (k : Nat), i = .int .i64 k ∧ k ≤ 10 ∧ Hid (AL w t k l wr)) (fun _ i _ => 10 - (intOf i).toNat)
  case atStart => exact ⟨0, rfl, by omega, Below.refl _ _, World.ownsRow_nil _ _ _ _⟩
  case round =>
    obtain ⟨k, rfl, hk, R⟩ := hrel
    by_cases hlt : k < 10
    · have hltI : (k : Int) < 10 := by omega
      have T1 := Hid.intro (H.out.below R.out.bel H.out.lt)
      have c0 : wr.cell? ⟨b, k * 6, none⟩ = some (.bool (t k).there) := T1.out.cell k 0 hlt (by omega)
      cases hth : (t k).there
      · have HTH : Hid (thL t (k + 1) = thL t k) := by unfold Hid; rw [thL_succ, if_neg (by simp [hth])]; simp
        rw [hth] at c0
        clear hth
        go_wp2_with fail
        go_roundw
        case rel => exact ⟨k + 1, by go_num, by omega, ⟨R.out.bel, by rw [HTH.out]; exact R.out.own⟩⟩
        case measure => simp [intOf]; omega
      · have HTH := Hid.intro hth
        rw [hth] at c0
        clear hth
        obtain ⟨a, cap, hv⟩ := own_form R.out.own
        rw [hv]
        have HV := Hid.intro hv
        have hlm := thL_len t k
        generalize hN : (thL t k).length = N at *
        have HN := Hid.intro hN
        clear hv hN
        go_wp2_with (at_builtin; refine wpList_append_lies _ rfl _ _ 47 (by rfl) w.heap.size 3 i0 (.int .i64 0) 1 8 Try.underlying47 hi hz0 hz1 hz2 rfl (by decide) (.slice a N cap) N (rowOf (thL t k)) (by rfl) (by rw [← HV.out, ← HN.out]; exact R.out.own.alloc _) ⟨wr.heap.size, 0, none⟩ 1 1 [.int .i64 k] (by rfl) rfl (cell_one_new _ _ _) (by simp [Value.oneCell']) (by decide) (by unfold maxLen; omega) (by omega) (by have := R.out.bel.size; simp; omega) (wr.heap.size + 1) (by simp) ?_; intro gg cap2 w1 hown hgrow hat hlt2; have Q1 : Hid (AL w t (k + 1) (.slice (some ⟨gg, 0, none⟩) (N + 1) cap2) w1) := R.out.more HTH.out HN.out hown _ (by rw [HV.out]; exact hgrow); clear hown hgrow hat hlt2)
        go_roundw
        case rel => exact ⟨k + 1, by go_num, by omega, Q1⟩
        case measure => simp [intOf]; omega
    · have hk10 : k = 10 := by omega
      subst hk10
      go_wp2
      go_ret
      exact ⟨_, rfl, R.out⟩
end Go.Proofs.Ytgabceeekkcekaa

import Derived.Test.YtghogbngmcolmaaGreatQbc
import Derived.Test.YtghogbngmcolmaaGreatQas
import Derived.Test.YtghogbngmcolmaaGreatQaq
import Derived.Test.YtghogbngmcolmaaGreatQar
namespace Go.Proofs.YtghogbngmcolmaaGreat
open Go.RowKit
open Kn (Pr Kp St us KB)
def Kn.lv (k : Kp) (n : Nat) : Bool := decide ((k.p n).st = 1)
def Kn.actE (k : Kp) (z : Int) : Int := if z < 0 ∨ 20 ≤ z then 1 else if Kn.lv k z.toNat = true then 0 else 2
theorem Kn.actE_ok {k : Kp} {z : Int} (h : Kn.actE k z = 0) : ∃ n : Nat, z = n ∧ n < 20 ∧ Kn.lv k n = true := by
  unfold Kn.actE at h
  by_cases c : z < 0 ∨ 20 ≤ z
  · rw [if_pos c] at h; omega
  · rw [if_neg c] at h
    by_cases d : Kn.lv k z.toNat = true
    · exact ⟨z.toNat, by omega, by omega, d⟩
    · rw [if_neg d] at h; omega
theorem Kn.actE_of {k : Kp} {n : Nat} (hn : n < 20) (h : Kn.lv k n = true) : Kn.actE k (n : Int) = 0 := by
  unfold Kn.actE
  rw [if_neg (by omega), Int.toNat_natCast, if_pos h]
def aptE (b : Nat) (z E : Int) : Value := if E = 0 then .pointer (some ⟨b, z.toNat * 12, none⟩) else .pointer none
theorem aptE_ok (b n : Nat) : aptE b (n : Int) 0 = .pointer (some ⟨b, n * 12, none⟩) := by unfold aptE; rw [if_pos rfl, Int.toNat_natCast]
theorem aptE_no {b : Nat} {z E : Int} (h : E ≠ 0) : aptE b z E = .pointer none := if_neg h
section
variable (base : Nat) (s : St) (w : World)
set_option maxRecDepth 100000 in
set_option maxHeartbeats 400000 in
theorem klive_any (n : Nat) (h : KKt w base s) (hn : n < 20) (v : Bool) (hv : Kn.lv s.k n = v) :
    Calls Tryz.prog 40 #[.pointer (some ⟨s.A 0, 0, none⟩), .int .i64 n] w fun e w' => e = .returned (.bool v) ∧ w' = w := by
  have c0 := h.cSt n hn
  have hnI : (n : Int) < 20 := by omega
  generalize s.A 0 = kb at *
  unfold Kn.lv at hv
  generalize (s.k.p n).st = st at *
  clear h
  by_cases d : st = 1
  · subst d
    have E : v = true := by rw [← hv]; rfl
    subst E
    clear hv
    have c0' : w.cell? ⟨kb, n * 12, none⟩ = some (.int .i64 1) := c0
    clear c0
    go_enter Tryz.func40, Tryz.ntmps40
    go_wp2_with fail
    go_ret
    exact ⟨rfl, rfl⟩
  · have E : v = false := by rw [← hv]; exact decide_eq_false d
    subst E
    have d1 : ((st : Int) == 1) = false := by simp; omega
    clear hv d
    go_enter Tryz.func40, Tryz.ntmps40
    go_wp2_with fail
    go_ret
    exact ⟨rfl, rfl⟩
set_option maxRecDepth 100000 in
set_option maxHeartbeats 400000 in
theorem kacting_any (z : Int) (h : KKt w base s) :
    Calls Tryz.prog 24 #[.pointer (some ⟨s.A 0, 0, none⟩), .int .i64 z] w fun e w' => e = .returned (.tuple #[aptE (s.A 0) z (Kn.actE s.k z), errV (Kn.actE s.k z)]) ∧ w' = w := by
  by_cases c : z < 0 ∨ 20 ≤ z
  · have E : Hid (Kn.actE s.k z = 1 ∧ aptE (s.A 0) z 1 = .pointer none) := Hid.intro ⟨if_pos c, aptE_no (by decide)⟩
    generalize s.A 0 = kb at *
    clear h
    by_cases c1 : z < 0
    · clear c
      go_enter Tryz.func24, Tryz.ntmps24
      go_wp2_with fail
      go_ret2
      rw [E.out.1, E.out.2]
      exact ⟨rfl, rfl⟩
    · have c2 : 20 ≤ z := by omega
      clear c
      go_enter Tryz.func24, Tryz.ntmps24
      go_wp2_with fail
      go_ret2
      rw [E.out.1, E.out.2]
      exact ⟨rfl, rfl⟩
  · obtain ⟨n, rfl⟩ : ∃ n : Nat, z = n := ⟨z.toNat, by omega⟩
    have hn : n < 20 := by omega
    have hnI : (n : Int) < 20 := by omega
    have E0 : Kn.actE s.k (n : Int) = if Kn.lv s.k n = true then 0 else 2 := by unfold Kn.actE; rw [if_neg c, Int.toNat_natCast]
    obtain ⟨v, hv⟩ : ∃ v, Kn.lv s.k n = v := ⟨_, rfl⟩
    have LV := Hid.intro (klive_any base s w n h hn v hv)
    clear h
    cases v
    · have E : Hid (Kn.actE s.k (n : Int) = 2 ∧ aptE (s.A 0) (n : Int) 2 = .pointer none) := Hid.intro ⟨by rw [E0, hv]; rfl, aptE_no (by decide)⟩
      clear c E0 hv
      generalize s.A 0 = kb at *
      go_enter Tryz.func24, Tryz.ntmps24
      go_wp2_with fail
      refine LV.out.mono ?_
      rintro e w1 ⟨rfl, hw⟩
      subst w1
      go_wp2_with fail
      go_ret2
      rw [E.out.1, E.out.2]
      exact ⟨rfl, rfl⟩
    · have E : Hid (Kn.actE s.k (n : Int) = 0 ∧ aptE (s.A 0) (n : Int) 0 = .pointer (some ⟨s.A 0, n * 12, none⟩)) := Hid.intro ⟨by rw [E0, hv]; rfl, aptE_ok _ _⟩
      clear c E0 hv
      generalize s.A 0 = kb at *
      go_enter Tryz.func24, Tryz.ntmps24
      go_wp2_with fail
      refine LV.out.mono ?_
      rintro e w1 ⟨rfl, hw⟩
      subst w1
      go_wp2_with fail
      go_ret2
      rw [E.out.1, E.out.2]
      exact ⟨rfl, rfl⟩
set_option maxRecDepth 100000 in
set_option maxHeartbeats 400000 in
theorem kspace_any (z : Int) (h : KKt w base s) :
    Calls Tryz.prog 37 #[.pointer (some ⟨s.A 0, 0, none⟩), .int .i64 z] w fun e w' => e = .returned (.int .i64 (Sp.inN s.k.sp z : Int)) ∧ w' = w := by
  have c0 := h.cSp
  have OF := Hid.intro (of_any (s.A 1) z s.k.sp w h.sp)
  generalize s.A 0 = kb at *
  clear h
  go_enter Tryz.func37, Tryz.ntmps37
  go_wp2_with fail
  refine OF.out.mono ?_
  rintro e w1 ⟨rfl, hw⟩
  subst w1
  go_wp2_with fail
  go_ret
  exact ⟨rfl, rfl⟩
set_option maxRecDepth 100000 in
set_option maxHeartbeats 400000 in
theorem kpid_any (x z : Int) (h : KKt w base s) (h0 : ∀ n, n < 6 → s.k.sp.who n 0 = 0) :
    Calls Tryz.prog 36 #[.pointer (some ⟨s.A 0, 0, none⟩), .int .i64 x, .int .i64 z] w fun e w' => e = .returned (.int .i64 (Sp.pidN s.k.sp x z : Int)) ∧ w' = w := by
  have c0 := h.cSp
  have OF := Hid.intro (pidT_any (s.A 1) x z s.k.sp w h.sp h0)
  generalize s.A 0 = kb at *
  clear h h0
  go_enter Tryz.func36, Tryz.ntmps36
  go_wp2_with fail
  refine OF.out.mono ?_
  rintro e w1 ⟨rfl, hw⟩
  subst w1
  go_wp2_with fail
  go_ret
  exact ⟨rfl, rfl⟩
set_option maxRecDepth 100000 in
set_option maxHeartbeats 400000 in
theorem khead_any (z : Int) (h : KKt w base s) :
    Calls Tryz.prog 80 #[.pointer (some ⟨s.A 0, 0, none⟩), .int .i64 z] w fun e w' => e = .returned (.int .i64 (Sp.findN s.k.sp z 1 : Int)) ∧ w' = w := by
  have c0 := h.cSp
  have OF := Hid.intro (find_any (s.A 1) z 1 s.k.sp w h.sp)
  generalize s.A 0 = kb at *
  clear h
  go_enter Tryz.func80, Tryz.ntmps80
  go_wp2_with fail
  refine OF.out.mono ?_
  rintro e w1 ⟨rfl, hw⟩
  subst w1
  go_wp2_with fail
  go_ret
  exact ⟨rfl, rfl⟩
set_option maxRecDepth 100000 in
set_option maxHeartbeats 400000 in
theorem kmembers_any (z : Int) (h : KKt w base s) :
    Calls Tryz.prog 81 #[.pointer (some ⟨s.A 0, 0, none⟩), .int .i64 z] w fun e w' => ∃ v, e = .returned v ∧ LO w (membL s.k.sp z) v w' := by
  have c0 := h.cSp
  have OF := Hid.intro (membersT_any (s.A 1) z s.k.sp w h.sp)
  generalize s.A 0 = kb at *
  clear h
  go_enter Tryz.func81, Tryz.ntmps81
  go_wp2_with fail
  refine OF.out.mono ?_
  rintro e w1 ⟨v, rfl, hL⟩
  have HL := Hid.intro hL
  clear hL
  go_wp2_with fail
  go_ret
  exact ⟨v, rfl, HL.out⟩
def Kn.hd (k : Kp) (n : Nat) : Nat := Sp.findN k.sp (Sp.inN k.sp (n : Int) : Int) 1
set_option maxRecDepth 100000 in
set_option maxHeartbeats 400000 in
theorem kisHead_any (n : Nat) (h : KKt w base s) (v : Bool) (hv : decide (Kn.hd s.k n = n) = v) :
    Calls Tryz.prog 78 #[.pointer (some ⟨s.A 0, 0, none⟩), .int .i64 n] w fun e w' => e = .returned (.bool v) ∧ w' = w := by
  have SP := Hid.intro (kspace_any base s w (n : Int) h)
  have HD := Hid.intro (khead_any base s w (Sp.inN s.k.sp (n : Int) : Int) h)
  unfold Kn.hd at hv
  generalize Sp.findN s.k.sp (Sp.inN s.k.sp (n : Int) : Int) 1 = x at *
  generalize Sp.inN s.k.sp (n : Int) = y at *
  generalize s.A 0 = kb at *
  clear h
  by_cases d : x = n
  · subst d
    have E : v = true := by rw [← hv]; simp
    subst E
    clear hv
    go_enter Tryz.func78, Tryz.ntmps78
    go_wp2_with fail
    refine SP.out.mono ?_
    rintro e w1 ⟨rfl, hw⟩
    subst w1
    go_wp2_with fail
    refine HD.out.mono ?_
    rintro e w1 ⟨rfl, hw⟩
    subst w1
    go_wp2_with fail
    go_ret
    exact ⟨rfl, rfl⟩
  · have E : v = false := by rw [← hv]; exact decide_eq_false d
    subst E
    have d1 : ((x : Int) == (n : Int)) = false := by simp; omega
    clear hv d
    go_enter Tryz.func78, Tryz.ntmps78
    go_wp2_with fail
    refine SP.out.mono ?_
    rintro e w1 ⟨rfl, hw⟩
    subst w1
    go_wp2_with fail
    refine HD.out.mono ?_
    rintro e w1 ⟨rfl, hw⟩
    subst w1
    go_wp2_with fail
    go_ret
    exact ⟨rfl, rfl⟩
def Kn.liveL (k : Kp) (n : Nat) : List Nat := (List.range n).filter (Kn.lv k)
theorem Kn.liveL_yes {k : Kp} {n : Nat} (h : Kn.lv k n = true) : Kn.liveL k (n + 1) = Kn.liveL k n ++ [n] := by
  unfold Kn.liveL
  rw [List.range_succ, List.filter_append]
  simp [h]
theorem Kn.liveL_no {k : Kp} {n : Nat} (h : Kn.lv k n = false) : Kn.liveL k (n + 1) = Kn.liveL k n := by
  unfold Kn.liveL
  rw [List.range_succ, List.filter_append]
  simp [h]
theorem Kn.liveL_len (k : Kp) (n : Nat) : (Kn.liveL k n).length ≤ n := by
  have := List.length_filter_le (Kn.lv k) (List.range n)
  simpa [Kn.liveL] using this
set_option maxRecDepth 100000 in
set_option maxHeartbeats 1000000 in
theorem kprocs_any (h : KKt w base s) :
    Calls Tryz.prog 23 #[.pointer (some ⟨s.A 0, 0, none⟩)] w fun e w' => ∃ v, e = .returned v ∧ LO w (Kn.liveL s.k 20) v w' := by
  obtain ⟨i0, hi, hz0, hz1, hz2⟩ := info_parts info3
  have H := Hid.intro h
  clear h
  go_enter Tryz.func23, Tryz.ntmps23
  go_wp2_with fail
  go_loopw [3, 5] (fun l i wr => ∃ (k : Nat), i = .int .i64 k ∧ k ≤ 20 ∧ Hid (LO w (Kn.liveL s.k k) l wr)) (fun _ i _ => 20 - (intOf i).toNat)
  case atStart => exact ⟨0, rfl, by omega, LO.nil w⟩
  case round =>
    obtain ⟨k, rfl, hk, R⟩ := hrel
    by_cases hlt : k < 20
    · have hltI : (k : Int) < 20 := by omega
      cases hth : Kn.lv s.k k
      · have HM := Hid.intro (Kn.liveL_no hth)
        have LV := Hid.intro (klive_any base s wr k (H.out.below R.out.bel) hlt false hth)
        clear hth
        go_wp2_with fail
        refine LV.out.mono ?_
        rintro e w1 ⟨rfl, hw⟩
        subst w1
        go_wp2_with fail
        go_roundw
        case rel => exact ⟨k + 1, by go_num, by omega, by rw [HM.out]; exact R⟩
        case measure => simp [intOf]; omega
      · have HM := Hid.intro (Kn.liveL_yes hth)
        have LV := Hid.intro (klive_any base s wr k (H.out.below R.out.bel) hlt true hth)
        obtain ⟨a, cap, hv⟩ := own_form R.out.own
        rw [hv]
        have HV := Hid.intro hv
        have hlm := Kn.liveL_len s.k k
        generalize hN : (Kn.liveL s.k k).length = N at *
        have HN := Hid.intro hN
        clear hv hN hth
        go_wp2_with fail
        refine LV.out.mono ?_
        rintro e w1 ⟨rfl, hw⟩
        subst w1
        go_wp2_with (at_builtin; refine wpList_append_lies _ rfl _ _ 55 (by rfl) w.heap.size 3 i0 (.int .i64 0) 1 8 Tryz.underlying55 hi hz0 hz1 hz2 rfl (by decide) (.slice a N cap) N (rowOf (Kn.liveL s.k k)) (by rfl) (by rw [← HV.out, ← HN.out]; exact R.out.own.alloc _) ⟨wr.heap.size, 0, none⟩ 1 1 [.int .i64 k] (by rfl) rfl (cell_one_new _ _ _) (by simp [Value.oneCell']) (by decide) (by unfold maxLen; omega) (by omega) (by have := R.out.bel.size; simp; omega) (wr.heap.size + 1) (by simp) ?_; intro gg cap2 w1 hown hgrow hat hlt2; have Q1 : Hid (LO w (Kn.liveL s.k k ++ [k]) (.slice (some ⟨gg, 0, none⟩) (N + 1) cap2) w1) := R.out.more HN.out hown _ (by rw [HV.out]; exact hgrow); clear hown hgrow hat hlt2)
        go_roundw
        case rel => exact ⟨k + 1, by go_num, by omega, by rw [HM.out]; exact Q1⟩
        case measure => simp [intOf]; omega
    · obtain rfl : k = 20 := by omega
      go_wp2
      go_ret
      exact ⟨_, rfl, R.out⟩
def Kn.FreeTo (k : Kp) (n : Nat) (E : Int) : Prop := (E = 0 ∧ n < 20 ∧ (k.p n).st = 0 ∧ ∀ m, m < n → (k.p m).st ≠ 0) ∨ (E = 4 ∧ n = 0 ∧ ∀ m, m < 20 → (k.p m).st ≠ 0)
set_option maxRecDepth 100000 in
set_option maxHeartbeats 1000000 in
theorem knfree_any (h : KKt w base s) :
    Calls Tryz.prog 29 #[.pointer (some ⟨s.A 0, 0, none⟩)] w fun e w' => ∃ (n : Nat) (E : Int), e = .returned (.tuple #[.int .i64 (n : Int), errV E]) ∧ Kn.FreeTo s.k n E ∧ w' = w := by
  have H := Hid.intro h
  obtain ⟨kb, hkb⟩ : ∃ kb, s.A 0 = kb := ⟨_, rfl⟩
  have HK := Hid.intro hkb
  rw [hkb]
  clear h hkb
  go_enter Tryz.func29, Tryz.ntmps29
  go_wp2_with fail
  go_loopw [4, 5] (fun _ i wr => ∃ (k : Nat), i = .int .i64 k ∧ k ≤ 20 ∧ wr = w ∧ Hid (∀ m, m < k → (s.k.p m).st ≠ 0)) (fun _ i _ => 20 - (intOf i).toNat)
  case atStart => exact ⟨0, rfl, by omega, rfl, Hid.intro (fun m hm => absurd hm (Nat.not_lt_zero m))⟩
  case round =>
    obtain ⟨k, rfl, hk, hwr, R⟩ := hrel
    subst wr
    by_cases hlt : k < 20
    · have hltI : (k : Int) < 20 := by omega
      have c0 := H.out.cSt k hlt
      rw [HK.out] at c0
      by_cases d : (s.k.p k).st = 0
      · have FT : Hid (Kn.FreeTo s.k k 0) := Hid.intro (.inl ⟨rfl, hlt, d, R.out⟩)
        rw [d] at c0
        have c0' : w.cell? ⟨kb, k * 12, none⟩ = some (.int .i64 0) := c0
        clear d c0
        go_wp2_with fail
        go_ret2
        exact ⟨k, 0, by rw [errV_zero]; rfl, FT.out, rfl⟩
      · have R1 : Hid (∀ m, m < k + 1 → (s.k.p m).st ≠ 0) := Hid.intro (fun m hm => by
          by_cases e : m = k
          · rw [e]; exact d
          · exact R.out m (by omega))
        generalize (s.k.p k).st = st at *
        have d1 : ((st : Int) == 0) = false := by simp; omega
        clear d
        go_wp2_with fail
        go_roundw
        case rel => exact ⟨k + 1, by go_num, by omega, by first | rfl | trivial, R1⟩
        case measure => simp [intOf]; omega
    · obtain rfl : k = 20 := by omega
      have FT : Hid (Kn.FreeTo s.k 0 4) := Hid.intro (.inr ⟨rfl, rfl, R.out⟩)
      go_wp2_with fail
      go_ret2
      exact ⟨0, 4, rfl, FT.out, rfl⟩
end
end Go.Proofs.YtghogbngmcolmaaGreat
namespace Go.Proofs.YtghogbngmcolmaaGreat
open Go.RowKit
open Tr (Fo Nd)
def LV (P : Nat → Prop) (xs : List Value) (v : Value) (W : World) : Prop := ∃ a c, v = .slice a xs.length c ∧ (0 < xs.length → ∃ g, a = some ⟨g, 0, none⟩ ∧ P g ∧ g < W.heap.size ∧ ∀ i, i < xs.length → W.cell? ⟨g, i, none⟩ = xs[i]?)
end Go.Proofs.YtghogbngmcolmaaGreat
namespace Go.Proofs.YtghogbngmcolmaaGreat
open Go.RowKit
open Tr (Fo Nd)
end Go.Proofs.YtghogbngmcolmaaGreat
namespace Go.Proofs.YtghogbngmcolmaaGreat
open Go.RowKit
open Pp (Pi)
def Pp.nul : Nat → Pi := fun _ => Pi.no
def Pp.zA : Array Value := ((List.range 120).map fun o => if o % 15 < 12 then Value.int .u8 0 else Value.int .i64 0).toArray
theorem Pp.zA_at (o : Nat) (h : o < 120) : Pp.zA[o]? = some (if o % 15 < 12 then Value.int .u8 0 else Value.int .i64 0) := by simp [Pp.zA, h]
set_option maxRecDepth 100000 in
theorem Pp.zeroV (w : World) : (zeroValue 108).run Tryz.prog w = .ok (.agg Pp.zA) w := by kernel_rfl
section
variable {ops : Array Oper} {rest : List Oper} {x : Oper} {a : Act} {w : World} {Q : Exit → Act → World → Prop}
theorem Pp.wp_buildS (hgd : x.guard = none) (ho : x.op = .build 108 #[]) (h : wpList Tryz.prog ops Q rest (a.put x.dst (.agg Pp.zA)) w) : wpList Tryz.prog ops Q (x :: rest) a w :=
  wpList_plain hgd fun _ hK => by
    unfold Oper.wp execOp
    have hz := Pp.zeroV w
    simp only [ho]
    simp [go_sem, hz]
    exact hK _ _ h
end
theorem PAt.zero {w : World} {b : Nat} {T : TypeId} (h : w.heap[b]? = some (.cells Pp.zA T (0, 0))) : PAt w b Pp.nul := by
  refine ⟨⟨_, T, h, by simp [Pp.zA]⟩, fun n hn j v hv => ?_, fun n hn => ?_, fun n hn => ?_, fun n hn => ?_, fun n hn => Nat.zero_le _⟩
  · exact absurd (Pp.byt_lt hv) (by show ¬ j < 0; omega)
  · rw [cell_blk h, Pp.zA_at _ (by omega), if_neg (by omega)]; rfl
  · rw [cell_blk h, Pp.zA_at _ (by omega), if_neg (by omega)]; rfl
  · rw [cell_blk h, Pp.zA_at _ (by omega), if_neg (by omega)]; rfl
theorem pzero_alloc (w : World) : PAt (w.alloc (.cells Pp.zA 108)) w.heap.size Pp.nul ∧ Below w.heap.size w (w.alloc (.cells Pp.zA 108)) := by
  exact ⟨PAt.zero (heap_alloc_new w _), (Below.refl _ _).alloc (Nat.le_refl _) _⟩
end Go.Proofs.YtghogbngmcolmaaGreat
namespace Go.Proofs.YtghogbngmcolmaaGreat
open Go.RowKit
open Fx (Fi)
open Tr (Fo Nd)
open Pp (Pi)
def Fx.hit (x : Fi) (k m : Nat) : Nat := if x.refs ≠ 0 ∧ x.kind = k ∧ x.num = m then 1 else 0
def Fx.cK (T : Nat → Fi) (k m : Nat) : Nat → Nat
  | 0 => 0
  | n + 1 => Fx.cK T k m n + Fx.hit (T n) k m
theorem Fx.cK_put (T : Nat → Fi) (n : Nat) (x : Fi) (k m : Nat) : ∀ N, Fx.cK (Fx.put T n x) k m N + (if n < N then Fx.hit (T n) k m else 0) = Fx.cK T k m N + (if n < N then Fx.hit x k m else 0)
  | 0 => by rw [if_neg (Nat.not_lt_zero n), if_neg (Nat.not_lt_zero n)]; rfl
  | N + 1 => by
    have ih := Fx.cK_put T n x k m N
    show Fx.cK (Fx.put T n x) k m N + Fx.hit (Fx.put T n x N) k m + _ = Fx.cK T k m N + Fx.hit (T N) k m + _
    by_cases c : N = n
    · subst c
      rw [Fx.put_same, if_pos (Nat.lt_succ_self N), if_pos (Nat.lt_succ_self N)]
      rw [if_neg (Nat.lt_irrefl N), if_neg (Nat.lt_irrefl N)] at ih
      omega
    · rw [Fx.put_ne _ _ _ _ c]
      by_cases d : n < N
      · rw [if_pos (by omega), if_pos (by omega)]
        rw [if_pos d, if_pos d] at ih
        omega
      · rw [if_neg (by omega), if_neg (by omega)]
        rw [if_neg d, if_neg d] at ih
        omega
theorem Fx.cK_at (T : Nat → Fi) {n : Nat} (x : Fi) (k m : Nat) (hn : n < 24) : Fx.cK (Fx.put T n x) k m 24 + Fx.hit (T n) k m = Fx.cK T k m 24 + Fx.hit x k m := by
  have := Fx.cK_put T n x k m 24
  rw [if_pos hn, if_pos hn] at this
  exact this
theorem Fx.hit_le (x : Fi) (k m : Nat) : Fx.hit x k m ≤ 1 := by unfold Fx.hit; split <;> omega
theorem Fx.hit_no (k m : Nat) : Fx.hit Fi.no k m = 0 := if_neg (fun d => d.1 rfl)
theorem Fx.hit_one {x : Fi} (h : x.refs ≠ 0) : Fx.hit x x.kind x.num = 1 := if_pos ⟨h, rfl, rfl⟩
theorem Fx.hit_refs {x y : Fi} (h1 : x.refs ≠ 0) (h2 : y.refs ≠ 0) (hk : x.kind = y.kind) (hn : x.num = y.num) (k m : Nat) : Fx.hit x k m = Fx.hit y k m := by
  unfold Fx.hit
  rw [hk, hn]
  by_cases c : y.kind = k ∧ y.num = m
  · rw [if_pos ⟨h1, c⟩, if_pos ⟨h2, c⟩]
  · rw [if_neg (fun d => c d.2), if_neg (fun d => c d.2)]
theorem Fx.cK_ge {T : Nat → Fi} {k m : Nat} : ∀ {N n : Nat}, n < N → Fx.hit (T n) k m ≤ Fx.cK T k m N
  | 0, n, h => absurd h (Nat.not_lt_zero n)
  | N + 1, n, h => by
    show _ ≤ Fx.cK T k m N + Fx.hit (T N) k m
    by_cases c : n = N
    · subst c; omega
    · have := Fx.cK_ge (T := T) (k := k) (m := m) (N := N) (n := n) (by omega)
      omega
theorem Fx.cK_le (T : Nat → Fi) (k m : Nat) : ∀ N, Fx.cK T k m N ≤ N
  | 0 => Nat.le_refl 0
  | N + 1 => by
    have := Fx.cK_le T k m N
    have := Fx.hit_le (T N) k m
    show Fx.cK T k m N + Fx.hit (T N) k m ≤ N + 1
    omega
end Go.Proofs.YtghogbngmcolmaaGreat
namespace Go.Proofs.YtghogbngmcolmaaGreat
open Go.RowKit
open Fx (Fi)
open Tr (Fo Nd)
open Pp (Pi)
structure WX (xx : Nat → Nat) (T : Nat → Fi) (F : Fo) (S : Nat → Pi) : Prop where
  no : ∀ n, n < 24 → (T n).refs = 0 → T n = Fi.no
  kd : ∀ n, n < 24 → (T n).refs ≠ 0 → (T n).kind = 1 ∨ (T n).kind = 2 ∨ (T n).kind = 3
  nd : ∀ n, n < 24 → (T n).refs ≠ 0 → (T n).kind = 1 → (T n).num < 40 ∧ (F.nd (T n).num).kind = 1
  pn : ∀ n, n < 24 → (T n).refs ≠ 0 → (T n).kind ≠ 1 → (T n).num < 8
  ps : ∀ n, n < 24 → (T n).pos ≤ 40
  hl : ∀ m, m < 40 → (F.nd m).held = Fx.cK T 1 m 24 + xx m
  z0 : ∀ m, m < 40 → (F.nd m).kind = 0 → (F.nd m).held = 0
  rd : ∀ m, m < 8 → (S m).reads = Fx.cK T 2 m 24
  wt : ∀ m, m < 8 → (S m).writes = Fx.cK T 3 m 24
section
variable {xx : Nat → Nat} {T : Nat → Fi} {F G : Fo} {S : Nat → Pi}
theorem WX.sm (h : WX xx T F S) (hx : ∀ m, m < 40 → xx m ≤ 600) : Fx.Sm F S := by
  have p : 24 < 2 ^ 60 := by decide
  refine ⟨fun n hn => ?_, fun wr n hn => ?_⟩
  · rw [h.hl n hn]; have := Fx.cK_le T 1 n 24; have := hx n hn; omega
  · unfold Pp.tim
    cases wr
    · show (S n).reads < _; rw [h.rd n hn]; have := Fx.cK_le T 2 n 24; omega
    · show (S n).writes < _; rw [h.wt n hn]; have := Fx.cK_le T 3 n 24; omega
theorem WX.letE (h : WX xx T F S) {n : Nat} (hn : n < 24) (r : (T n).refs ≠ 0) (k : (T n).kind = 1) : Tr.letE F ((T n).num : Int) = 0 := by
  obtain ⟨a, b⟩ := h.nd n hn r k
  have c := h.hl _ a
  have d := Fx.cK_ge (T := T) (k := 1) (m := (T n).num) hn
  have e := Fx.hit_one r
  rw [k] at e
  have z : Tr.nodeE F ((T n).num : Int) = 0 := by
    unfold Tr.nodeE
    rw [Int.toNat_natCast, if_neg (by omega), if_neg (by omega)]
  unfold Tr.letE
  rw [if_pos z, Int.toNat_natCast, if_neg (by omega)]
theorem WX.opE (h : WX xx T F S) {n : Nat} (hn : n < 24) (r : (T n).refs ≠ 0) (k : (T n).kind ≠ 1) : Pp.opE S ((T n).num : Int) (decide ((T n).kind = 3)) = 0 := by
  have a := h.pn n hn r k
  have e := Fx.hit_one r
  have tm : Pp.tim (S (T n).num) (decide ((T n).kind = 3)) ≠ 0 := by
    unfold Pp.tim
    rcases h.kd n hn r with c | c | c
    · exact absurd c k
    · rw [c]
      show (S (T n).num).reads ≠ 0
      rw [h.rd _ a]
      have d := Fx.cK_ge (T := T) (k := 2) (m := (T n).num) hn
      rw [c] at e
      omega
    · rw [c]
      show (S (T n).num).writes ≠ 0
      rw [h.wt _ a]
      have d := Fx.cK_ge (T := T) (k := 3) (m := (T n).num) hn
      rw [c] at e
      omega
  have th : Pp.thr (S (T n).num) = true := by
    unfold Pp.thr
    apply decide_eq_true
    unfold Pp.tim at tm
    by_cases c : (S (T n).num).reads = 0
    · right
      by_cases d : decide ((T n).kind = 3) = true
      · rw [if_pos d] at tm; omega
      · rw [if_neg d] at tm; exact absurd c tm
    · left; omega
  have z : Pp.pipE S ((T n).num : Int) = 0 := by
    unfold Pp.pipE
    rw [Int.toNat_natCast, if_neg (by omega), if_pos th]
  unfold Pp.opE
  rw [z, if_neg (fun d => d rfl), Int.toNat_natCast, if_neg tm]
theorem WX.turn (h : WX xx T F S) {n : Nat} (hn : n < 24) (r : (T n).refs ≠ 0) (x : Fi) (h1 : x.refs ≠ 0) (h2 : x.kind = (T n).kind) (h3 : x.num = (T n).num) (h4 : x.pos ≤ 40) : WX xx (Fx.put T n x) F S := by
  have cc : ∀ k m, Fx.cK (Fx.put T n x) k m 24 = Fx.cK T k m 24 := fun k m => by
    have := Fx.cK_at T x k m hn
    rw [Fx.hit_refs h1 r h2 h3] at this
    omega
  refine ⟨fun m hm e => ?_, fun m hm e => ?_, fun m hm e k => ?_, fun m hm e k => ?_, fun m hm => ?_, fun m hm => by rw [cc 1 m]; exact h.hl m hm, h.z0, fun m hm => (h.rd m hm).trans (cc 2 m).symm, fun m hm => (h.wt m hm).trans (cc 3 m).symm⟩
  · by_cases c : m = n
    · subst c; rw [Fx.put_same] at e; exact absurd e h1
    · rw [Fx.put_ne _ _ _ _ c] at e ⊢; exact h.no m hm e
  · by_cases c : m = n
    · subst c; rw [Fx.put_same, h2]; exact h.kd m hm r
    · rw [Fx.put_ne _ _ _ _ c] at e ⊢; exact h.kd m hm e
  · by_cases c : m = n
    · subst c; rw [Fx.put_same] at k ⊢; rw [h3]; exact h.nd m hm r (by rw [← h2]; exact k)
    · rw [Fx.put_ne _ _ _ _ c] at e k ⊢; exact h.nd m hm e k
  · by_cases c : m = n
    · subst c; rw [Fx.put_same] at k ⊢; rw [h3]; exact h.pn m hm r (by rw [← h2]; exact k)
    · rw [Fx.put_ne _ _ _ _ c] at e k ⊢; exact h.pn m hm e k
  · by_cases c : m = n
    · subst c; rw [Fx.put_same]; exact h4
    · rw [Fx.put_ne _ _ _ _ c]; exact h.ps m hm
theorem WX.gone (h : WX xx T F S) {n : Nat} (hn : n < 24) (r : (T n).refs ≠ 0) : WX xx (Fx.put T n Fi.no) (Fx.leF F (T n)) (Fx.leS S (T n)) := by
  have cc : ∀ k m, Fx.cK (Fx.put T n Fi.no) k m 24 + Fx.hit (T n) k m = Fx.cK T k m 24 := fun k m => by
    have := Fx.cK_at T Fi.no k m hn
    rw [Fx.hit_no] at this
    omega
  have no : ∀ m, m < 24 → (Fx.put T n Fi.no m).refs = 0 → Fx.put T n Fi.no m = Fi.no := fun m hm e => by
    by_cases c : m = n
    · subst c; rw [Fx.put_same]
    · rw [Fx.put_ne _ _ _ _ c] at e ⊢; exact h.no m hm e
  have up : ∀ m, m < 24 → (Fx.put T n Fi.no m).refs ≠ 0 → m ≠ n ∧ Fx.put T n Fi.no m = T m := fun m hm e => by
    by_cases c : m = n
    · subst c; rw [Fx.put_same] at e; exact absurd rfl e
    · exact ⟨c, Fx.put_ne _ _ _ _ c⟩
  have ps : ∀ m, m < 24 → (Fx.put T n Fi.no m).pos ≤ 40 := fun m hm => by
    by_cases c : m = n
    · subst c; rw [Fx.put_same]; exact Nat.zero_le _
    · rw [Fx.put_ne _ _ _ _ c]; exact h.ps m hm
  by_cases k : (T n).kind = 1
  · obtain ⟨a, b⟩ := h.nd n hn r k
    have le := h.letE hn r k
    have h1 := Fx.hit_one r
    rw [k] at h1
    have oth : ∀ m q, q ≠ 1 ∨ m ≠ (T n).num → Fx.cK (Fx.put T n Fi.no) q m 24 = Fx.cK T q m 24 := fun m q d => by
      have := cc q m
      have e0 : Fx.hit (T n) q m = 0 := if_neg (fun e => by
        rcases d with d | d
        · exact d (by rw [← e.2.1, k])
        · exact d e.2.2.symm)
      omega
    have own := cc 1 (T n).num
    have e1 : Fx.leF F (T n) = Tr.letT F ((T n).num : Int) := if_pos k
    have e2 : Fx.leS S (T n) = S := if_pos k
    rw [e1, e2]
    generalize hm0 : (T n).num = m0 at *
    have hl0 := h.hl m0 a
    have eT : Tr.letT F (m0 : Int) = Tr.swe (F.put m0 { F.nd m0 with held := (F.nd m0).held - 1 }) m0 := by unfold Tr.letT; rw [if_pos le, Int.toNat_natCast]
    rw [eT]
    by_cases sw : (F.nd m0).links = 0 ∧ (F.nd m0).held - 1 = 0
    · rw [Tr.swe_yes (by rw [Tr.put_same]; exact sw)]
      have nd : ∀ q, q ≠ m0 → (((F.put m0 { F.nd m0 with held := (F.nd m0).held - 1 }).put m0 Nd.no).nd q) = F.nd q := fun q hq => by rw [Tr.put_ne _ _ _ _ hq, Tr.put_ne _ _ _ _ hq]
      refine ⟨no, fun m hm e => ?_, fun m hm e k2 => ?_, fun m hm e k2 => ?_, ps, fun m hm => ?_, fun m hm e => ?_, fun m hm => ?_, fun m hm => ?_⟩
      · have y := (up m hm e).2; rw [y] at e ⊢; exact h.kd m hm e
      · obtain ⟨x, y⟩ := up m hm e
        rw [y] at e k2 ⊢
        obtain ⟨p, q⟩ := h.nd m hm e k2
        refine ⟨p, ?_⟩
        by_cases c : (T m).num = m0
        · exfalso
          have g := Fx.cK_ge (T := Fx.put T n Fi.no) (k := 1) (m := m0) hm
          rw [y] at g
          have g2 := Fx.hit_one e
          rw [k2, c] at g2
          omega
        · rw [nd _ c]; exact q
      · have y := (up m hm e).2; rw [y] at e k2 ⊢; exact h.pn m hm e k2
      · by_cases c : m = m0
        · subst c; rw [Tr.put_same]; show 0 = _; omega
        · rw [nd _ c, oth m 1 (.inr c)]; exact h.hl m hm
      · by_cases c : m = m0
        · subst c; rw [Tr.put_same]; rfl
        · rw [nd _ c] at e ⊢; exact h.z0 m hm e
      · rw [oth m 2 (.inl (by decide))]; exact h.rd m hm
      · rw [oth m 3 (.inl (by decide))]; exact h.wt m hm
    · rw [Tr.swe_no (by rw [Tr.put_same]; exact sw)]
      refine ⟨no, fun m hm e => ?_, fun m hm e k2 => ?_, fun m hm e k2 => ?_, ps, fun m hm => ?_, fun m hm e => ?_, fun m hm => ?_, fun m hm => ?_⟩
      · have y := (up m hm e).2; rw [y] at e ⊢; exact h.kd m hm e
      · obtain ⟨x, y⟩ := up m hm e
        rw [y] at e k2 ⊢
        obtain ⟨p, q⟩ := h.nd m hm e k2
        refine ⟨p, ?_⟩
        by_cases c : (T m).num = m0
        · rw [c, Tr.put_same]; exact b
        · rw [Tr.put_ne _ _ _ _ c]; exact q
      · have y := (up m hm e).2; rw [y] at e k2 ⊢; exact h.pn m hm e k2
      · by_cases c : m = m0
        · subst c; rw [Tr.put_same]; show (F.nd m).held - 1 = _; omega
        · rw [Tr.put_ne _ _ _ _ c, oth m 1 (.inr c)]; exact h.hl m hm
      · by_cases c : m = m0
        · subst c
          rw [Tr.put_same] at e
          have : (F.nd m).kind = 0 := e
          omega
        · rw [Tr.put_ne _ _ _ _ c] at e ⊢; exact h.z0 m hm e
      · rw [oth m 2 (.inl (by decide))]; exact h.rd m hm
      · rw [oth m 3 (.inl (by decide))]; exact h.wt m hm
  · have a := h.pn n hn r k
    have oe := h.opE hn r k
    have h1 := Fx.hit_one r
    have oth : ∀ m q, q ≠ (T n).kind ∨ m ≠ (T n).num → Fx.cK (Fx.put T n Fi.no) q m 24 = Fx.cK T q m 24 := fun m q d => by
      have := cc q m
      have e0 : Fx.hit (T n) q m = 0 := if_neg (fun e => by
        rcases d with d | d
        · exact d e.2.1.symm
        · exact d e.2.2.symm)
      omega
    have own := cc (T n).kind (T n).num
    have e1 : Fx.leF F (T n) = F := if_neg k
    have e2 : Fx.leS S (T n) = Pp.droF S ((T n).num : Int) (decide ((T n).kind = 3)) := if_neg k
    have hk := h.kd n hn r
    rw [e1, e2]
    have eD : Pp.droF S ((T n).num : Int) (decide ((T n).kind = 3)) = Pp.put S (T n).num (Pp.less (S (T n).num) (decide ((T n).kind = 3))) := by unfold Pp.droF; rw [if_pos oe, Int.toNat_natCast]
    have rl := h.rd _ a
    have wl := h.wt _ a
    rw [eD]
    have less : ∀ x : Pi, ∀ wr, (Pp.less x wr).reads = (Pp.setT x wr (Pp.tim x wr - 1)).reads ∧ (Pp.less x wr).writes = (Pp.setT x wr (Pp.tim x wr - 1)).writes := fun x wr => by
      unfold Pp.less
      split
      · exact ⟨rfl, rfl⟩
      · rename_i c
        have : Pp.thr (Pp.setT x wr (Pp.tim x wr - 1)) = false := by simpa using c
        unfold Pp.thr at this
        have := of_decide_eq_false this
        exact ⟨by show 0 = _; omega, by show 0 = _; omega⟩
    refine ⟨no, fun m hm e => ?_, fun m hm e k2 => ?_, fun m hm e k2 => ?_, ps, fun m hm => ?_, h.z0, fun m hm => ?_, fun m hm => ?_⟩
    · have y := (up m hm e).2; rw [y] at e ⊢; exact h.kd m hm e
    · have y := (up m hm e).2; rw [y] at e k2 ⊢; exact h.nd m hm e k2
    · have y := (up m hm e).2; rw [y] at e k2 ⊢; exact h.pn m hm e k2
    · rw [oth m 1 (.inl (fun d => k d.symm))]; exact h.hl m hm
    · by_cases c : m = (T n).num
      · rw [c, Pp.put_same, (less _ _).1]
        rcases hk with d | d | d
        · exact absurd d k
        · rw [d] at own h1 ⊢
          show (S (T n).num).reads - 1 = _
          omega
        · rw [oth _ 2 (.inl (by omega))]
          rw [d]
          exact rl
      · rw [Pp.put_ne _ _ _ _ c, oth m 2 (.inr c)]; exact h.rd m hm
    · by_cases c : m = (T n).num
      · rw [c, Pp.put_same, (less _ _).2]
        rcases hk with d | d | d
        · exact absurd d k
        · rw [oth _ 3 (.inl (by omega))]
          rw [d]
          exact wl
        · rw [d] at own h1 ⊢
          show (S (T n).num).writes - 1 = _
          omega
      · rw [Pp.put_ne _ _ _ _ c, oth m 3 (.inr c)]; exact h.wt m hm
end
end Go.Proofs.YtghogbngmcolmaaGreat

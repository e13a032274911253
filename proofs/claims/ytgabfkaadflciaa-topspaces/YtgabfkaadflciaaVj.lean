/- The document's own table: Is, In, Find, Pid, Way, Members, All. -/
import Derived.Test.YtgabfkaadflciaaVi
namespace Go.Proofs.Ytgabfkaadflciaa
open Go.RowKit
open Sp (T)

set_option maxRecDepth 100000 in
set_option maxHeartbeats 400000 in
theorem ris_any (b : Nat) (z : Int) (t : T) (w : World) (h : Tb false w b t) : Calls Try.prog 126 #[.pointer (some ⟨b, 0, none⟩), .int .i64 z] w fun e w' => e = .returned (.int .i64 (Sp.isE t z)) ∧ w' = w := by
  by_cases k : z < 0 ∨ 6 ≤ z
  · have e : Hid (Sp.isE t z = 1) := Hid.intro (if_pos k)
    by_cases h0 : z < 0
    · clear k
      go_enter Try.func126, Try.ntmps126
      go_wp2
      go_ret
      rw [e.out]; exact ⟨rfl, rfl⟩
    · have h1 : decide (z < 0) = false := by simp; omega
      have h2 : 5 < z := by omega
      clear k h0
      go_enter Try.func126, Try.ntmps126
      go_wp2
      go_ret
      rw [e.out]; exact ⟨rfl, rfl⟩
  · obtain ⟨n, rfl⟩ := Int.eq_ofNat_of_zero_le (show 0 ≤ z by omega)
    have hn : n < 6 := by omega
    have h1 : (n : Int) < 6 := by omega
    have h2 : decide (5 < (n : Int)) = false := by simp; omega
    have c0 := h.cHere n hn
    cases hh : t.here n
    · have e : Hid (Sp.isE t n = 2) := Hid.intro (by unfold Sp.isE; rw [if_neg k, Int.toNat_natCast, hh]; rfl)
      rw [hh] at c0
      clear k hh h
      go_enter Try.func126, Try.ntmps126
      go_wp2
      go_ret
      rw [e.out]; exact ⟨rfl, rfl⟩
    · have e : Hid (Sp.isE t n = 0) := Hid.intro (by unfold Sp.isE; rw [if_neg k, Int.toNat_natCast, hh]; rfl)
      rw [hh] at c0
      clear k hh h
      go_enter Try.func126, Try.ntmps126
      go_wp2
      go_ret
      rw [e.out]; exact ⟨rfl, rfl⟩

set_option maxRecDepth 100000 in
set_option maxHeartbeats 400000 in
theorem rin_any (b : Nat) (x : Int) (t : T) (w : World) (h : Tb false w b t) (hs : ∀ x, x < 20 → t.of x ≤ 6) : Calls Try.prog 136 #[.pointer (some ⟨b, 0, none⟩), .int .i64 x] w fun e w' => e = .returned (.tuple #[.int .i64 (Sp.inN t x : Int), .int .i64 (Sp.inE t x)]) ∧ w' = w := by
  by_cases k : x < 0 ∨ 20 ≤ x
  · have hp : Sp.procE x = 1 := if_pos k
    have HE : Hid (Sp.inE t x = 1) := Hid.intro (by unfold Sp.inE; rw [hp, if_neg (by decide)])
    have HN : Hid (Sp.inN t x = 0) := Hid.intro (by unfold Sp.inN; rw [HE.out]; rfl)
    by_cases h0 : x < 0
    · clear k hp h
      go_enter Try.func136, Try.ntmps136
      go_wp2
      go_ret2
      rw [HE.out, HN.out]; exact ⟨rfl, rfl⟩
    · have h1 : decide (x < 0) = false := by simp; omega
      have h2 : 19 < x := by omega
      clear k h0 hp h
      go_enter Try.func136, Try.ntmps136
      go_wp2
      go_ret2
      rw [HE.out, HN.out]; exact ⟨rfl, rfl⟩
  · obtain ⟨n, rfl⟩ := Int.eq_ofNat_of_zero_le (show 0 ≤ x by omega)
    have hp : Sp.procE n = 0 := if_neg k
    have hn : n < 20 := by omega
    have h1 : (n : Int) < 20 := by omega
    have h2 : decide (19 < (n : Int)) = false := by simp; omega
    have c := h.ofR n hn
    by_cases o : t.of n = 0
    · have HE : Hid (Sp.inE t n = 2) := Hid.intro (by unfold Sp.inE; rw [if_pos hp, Int.toNat_natCast, if_pos o])
      have HN : Hid (Sp.inN t n = 0) := Hid.intro (by unfold Sp.inN; rw [HE.out]; rfl)
      rw [o] at c
      have c' : w.cell? ⟨b, 138 + n, none⟩ = some (.int .i64 0) := c
      clear h k o c hp hs
      go_enter Try.func136, Try.ntmps136
      go_wp2
      go_ret2
      rw [HE.out, HN.out]; exact ⟨rfl, rfl⟩
    · have HE : Hid (Sp.inE t n = 0) := Hid.intro (by unfold Sp.inE; rw [if_pos hp, Int.toNat_natCast, if_neg o])
      have HN : Hid ((Sp.inN t n : Int) = (t.of n : Int) - 1) := Hid.intro (by unfold Sp.inN; rw [HE.out, if_pos rfl, Int.toNat_natCast]; omega)
      have ol := hs n hn
      generalize t.of n = v at *
      have v0 : ((v : Int) == 0) = false := by simp; omega
      have vw : IntKind.i64.wrap ((v : Int) - 1) = (v : Int) - 1 := IntWalk.i64_in _ ⟨by omega, by omega⟩
      clear h k hp hs
      go_enter Try.func136, Try.ntmps136
      go_wp2
      go_ret2
      rw [HE.out, HN.out]; exact ⟨rfl, rfl⟩

set_option maxRecDepth 100000 in
set_option maxHeartbeats 1000000 in
theorem rfind_any (b : Nat) (z p : Int) (t : T) (w : World) (h : Tb false w b t) (hw : ∀ n p, n < 6 → p < 21 → t.who n p ≤ 20) :
    Calls Try.prog 139 #[.pointer (some ⟨b, 0, none⟩), .int .i64 z, .int .i64 p] w fun e w' => e = .returned (.tuple #[.int .i64 (Sp.findN t z p : Int), .int .i64 (Sp.findE t z p)]) ∧ w' = w := by
  have HF := Hid.intro h
  by_cases k : Sp.isE t z = 0
  · have HK := Hid.intro k
    obtain ⟨n, rfl, hn, hh⟩ := Sp.isE_zero k
    have hnI : (n : Int) < 6 := by omega
    by_cases hp : p < 1 ∨ 20 < p
    · have HE : Hid (Sp.findE t n p = 2) := Hid.intro (by unfold Sp.findE; rw [if_pos k, if_pos (by omega)])
      have HN : Hid (Sp.findN t n p = 0) := Hid.intro (by unfold Sp.findN; rw [HE.out]; rfl)
      by_cases p1 : p < 1
      · clear h k hh hp hw
        go_enter Try.func139, Try.ntmps139
        go_wp2_with fail
        refine (ris_any b n t _ HF.out).mono ?_
        rintro e w1 ⟨rfl, hw⟩
        subst w1
        rw [HK.out]
        go_wp2
        go_ret2
        rw [HE.out, HN.out]; exact ⟨rfl, rfl⟩
      · have p1' : decide (p < 1) = false := by simp; omega
        have p2 : 20 < p := by omega
        clear h k hh hp p1 hw
        go_enter Try.func139, Try.ntmps139
        go_wp2_with fail
        refine (ris_any b n t _ HF.out).mono ?_
        rintro e w1 ⟨rfl, hw⟩
        subst w1
        rw [HK.out]
        go_wp2
        go_ret2
        rw [HE.out, HN.out]; exact ⟨rfl, rfl⟩
    · obtain ⟨q, rfl⟩ := Int.eq_ofNat_of_zero_le (show 0 ≤ p by omega)
      have cc := h.whoR n q hn (by omega)
      have wl := hw n q hn (by omega)
      have q1 : decide ((q : Int) < 1) = false := by simp; omega
      have q2 : decide (20 < (q : Int)) = false := by simp; omega
      have q3 : (q : Int) < 21 := by omega
      by_cases c : t.who n q = 0
      · have HE : Hid (Sp.findE t n q = 2) := Hid.intro (by unfold Sp.findE; rw [if_pos k, Int.toNat_natCast, Int.toNat_natCast, if_pos (.inr (.inr c))])
        have HN : Hid (Sp.findN t n q = 0) := Hid.intro (by unfold Sp.findN; rw [HE.out]; rfl)
        rw [c] at cc
        have cc' : w.cell? ⟨b, n * 23 + 2 + q, none⟩ = some (.int .i64 0) := cc
        clear h k hh hp c cc hw wl
        go_enter Try.func139, Try.ntmps139
        go_wp2_with fail
        refine (ris_any b n t _ HF.out).mono ?_
        rintro e w1 ⟨rfl, hw⟩
        subst w1
        rw [HK.out]
        go_wp2
        go_ret2
        rw [HE.out, HN.out]; exact ⟨rfl, rfl⟩
      · have HE : Hid (Sp.findE t n q = 0) := Hid.intro (by unfold Sp.findE; rw [if_pos k, Int.toNat_natCast, Int.toNat_natCast, if_neg (by omega)])
        have HN : Hid ((Sp.findN t n q : Int) = (t.who n q : Int) - 1) := Hid.intro (by unfold Sp.findN; rw [HE.out, if_pos rfl, Int.toNat_natCast, Int.toNat_natCast]; omega)
        generalize t.who n q = v at *
        have v0 : ((v : Int) == 0) = false := by simp; omega
        have vw : IntKind.i64.wrap ((v : Int) - 1) = (v : Int) - 1 := IntWalk.i64_in _ ⟨by omega, by omega⟩
        clear h k hh hp hw
        go_enter Try.func139, Try.ntmps139
        go_wp2_with fail
        refine (ris_any b n t _ HF.out).mono ?_
        rintro e w1 ⟨rfl, hw⟩
        subst w1
        rw [HK.out]
        go_wp2
        go_ret2
        rw [HE.out, HN.out]; exact ⟨rfl, rfl⟩
  · have HE : Hid (Sp.findE t z p = Sp.isE t z) := Hid.intro (by unfold Sp.findE; rw [if_neg k])
    have HN : Hid (Sp.findN t z p = 0) := Hid.intro (by unfold Sp.findN; rw [HE.out, if_neg k])
    have hp := (Sp.isE_cases t z).resolve_left k
    obtain ⟨E, hE⟩ : ∃ E, Sp.isE t z = E := ⟨_, rfl⟩
    have HX := Hid.intro hE
    rw [hE] at hp
    clear h k hE hw
    go_enter Try.func139, Try.ntmps139
    go_wp2_with fail
    refine (ris_any b z t _ HF.out).mono ?_
    rintro e w1 ⟨rfl, hw⟩
    subst w1
    rw [HX.out]
    go_wp2
    go_ret2
    rw [HE.out, HN.out, HX.out]; exact ⟨rfl, rfl⟩

set_option maxRecDepth 100000 in
set_option maxHeartbeats 1000000 in
theorem rpid_any (b : Nat) (x z : Int) (t : T) (w : World) (h : Tb false w b t) (hw0 : ∀ n, n < 6 → t.who n 0 = 0) :
    Calls Try.prog 134 #[.pointer (some ⟨b, 0, none⟩), .int .i64 x, .int .i64 z] w fun e w' => e = .returned (.tuple #[.int .i64 (Sp.pidN t x z : Int), .int .i64 (Sp.pidE t x z)]) ∧ w' = w := by
  have HF := Hid.intro h
  by_cases k : Sp.isE t z = 0
  · have HK := Hid.intro k
    obtain ⟨n, rfl, hn, hh⟩ := Sp.isE_zero k
    have hnI : (n : Int) < 6 := by omega
    by_cases hx : x < 0 ∨ 20 ≤ x
    · have hpr : Sp.procE x = 1 := if_pos hx
      have HE : Hid (Sp.pidE t x n = 1) := Hid.intro (by unfold Sp.pidE Sp.pairE; rw [if_pos k, hpr, if_neg (by decide)])
      have HN : Hid (Sp.pidN t x n = 0) := Hid.intro (by unfold Sp.pidN; rw [HE.out]; rfl)
      by_cases x0 : x < 0
      · clear h k hh hx hpr hw0
        go_enter Try.func134, Try.ntmps134
        go_wp2_with fail
        refine (ris_any b n t _ HF.out).mono ?_
        rintro e w1 ⟨rfl, hw⟩
        subst w1
        rw [HK.out]
        go_wp2
        go_ret2
        rw [HE.out, HN.out]; exact ⟨rfl, rfl⟩
      · have x1 : decide (x < 0) = false := by simp; omega
        have x2 : 19 < x := by omega
        clear h k hh hx x0 hpr hw0
        go_enter Try.func134, Try.ntmps134
        go_wp2_with fail
        refine (ris_any b n t _ HF.out).mono ?_
        rintro e w1 ⟨rfl, hw⟩
        subst w1
        rw [HK.out]
        go_wp2
        go_ret2
        rw [HE.out, HN.out]; exact ⟨rfl, rfl⟩
    · obtain ⟨y, rfl⟩ := Int.eq_ofNat_of_zero_le (show 0 ≤ x by omega)
      have hpr : Sp.procE y = 0 := if_neg hx
      have x1 : decide ((y : Int) < 0) = false := by simp
      have x2 : decide (19 < (y : Int)) = false := by simp; omega
      have hy20 : y < 20 := by omega
      have HE : Hid (Sp.pidE t y n = if Sp.pidOf t n y = 0 then 2 else 0) := Hid.intro (by unfold Sp.pidE Sp.pairE; rw [if_pos k, hpr, if_pos rfl, Int.toNat_natCast, Int.toNat_natCast])
      have HN : Hid (Sp.pidN t y n = Sp.pidOf t n y) := Hid.intro (by
        unfold Sp.pidN; rw [HE.out]
        by_cases c : Sp.pidOf t n y = 0
        · rw [if_pos c, if_neg (by decide), c]
        · rw [if_neg c, if_pos rfl, Int.toNat_natCast, Int.toNat_natCast])
      have H0 := Hid.intro (hw0 n hn)
      clear h k hh hx hpr hw0
      go_enter Try.func134, Try.ntmps134
      go_wp2_with fail
      refine (ris_any b n t _ HF.out).mono ?_
      rintro e w1 ⟨rfl, hw⟩
      subst w1
      rw [HK.out]
      go_wp2_with fail
      go_loopw [9] (fun i wr => ∃ (p : Nat), i = .int .i64 p ∧ 1 ≤ p ∧ p ≤ 21 ∧ wr = w ∧ Hid (∀ j, j < p → t.who n j ≠ y + 1)) (fun i _ => 21 - (intOf i).toNat)
      case atStart => exact ⟨1, rfl, by omega, by omega, rfl, fun j hj => by obtain rfl : j = 0 := by omega
                                                                             rw [H0.out]; omega⟩
      case round =>
        obtain ⟨p, rfl, hp1, hp, hw, HM⟩ := hrel
        subst wr
        by_cases hlt : p < 21
        · have hltI : (p : Int) < 21 := by omega
          have cc := HF.out.whoR n p hn hlt
          have hwr : IntKind.i64.wrap ((y : Int) + 1) = (y : Int) + 1 := IntWalk.i64_in _ ⟨by omega, by omega⟩
          by_cases e : t.who n p = y + 1
          · have HP : Hid (Sp.pidOf t n y = p) := Hid.intro (by
              unfold Sp.pidOf
              rw [Sp.find_at (P := Sp.isP t n y) hlt (by unfold Sp.isP; simp [e]) (fun j hj => by have := HM.out j hj; unfold Sp.isP; simp [this])]; rfl)
            rw [e] at cc
            have cc' : w.cell? ⟨b, n * 23 + 2 + p, none⟩ = some (.int .i64 ((y : Int) + 1)) := cc
            clear e cc
            go_wp2_with fail
            go_ret2
            exact ⟨by rw [HE.out, HN.out, HP.out, if_neg (by omega)]; rfl, rfl⟩
          · have e' : ((t.who n p : Int) == (y : Int) + 1) = false := by simp; omega
            have HEE := Hid.intro e
            obtain ⟨v, hv⟩ : ∃ v, t.who n p = v := ⟨_, rfl⟩
            rw [hv] at cc e'
            clear e hv
            go_wp2_with fail
            go_roundw
            case rel => exact ⟨p + 1, by go_num, by omega, by omega, by first | rfl | trivial, fun j hj => by
              by_cases c : j = p
              · rw [c]; exact HEE.out
              · exact HM.out j (by omega)⟩
            case measure => simp [intOf]; omega
        · have hltI : ¬ (p : Int) < 21 := by omega
          have HP : Hid (Sp.pidOf t n y = 0) := Hid.intro (by
            unfold Sp.pidOf
            rw [Sp.find_no (P := Sp.isP t n y) (fun j hj => by have := HM.out j (by omega); unfold Sp.isP; simp [this])]; rfl)
          go_wp2_with fail
          go_ret2
          exact ⟨by rw [HE.out, HN.out, HP.out, if_pos rfl]; rfl, rfl⟩
  · have HE : Hid (Sp.pidE t x z = Sp.isE t z) := Hid.intro (by unfold Sp.pidE Sp.pairE; rw [if_neg k, if_neg k])
    have HN : Hid (Sp.pidN t x z = 0) := Hid.intro (by unfold Sp.pidN; rw [HE.out, if_neg k])
    have hp := (Sp.isE_cases t z).resolve_left k
    obtain ⟨E, hE⟩ : ∃ E, Sp.isE t z = E := ⟨_, rfl⟩
    have HX := Hid.intro hE
    rw [hE] at hp
    clear h k hE hw0
    go_enter Try.func134, Try.ntmps134
    go_wp2_with fail
    refine (ris_any b z t _ HF.out).mono ?_
    rintro e w1 ⟨rfl, hw⟩
    subst w1
    rw [HX.out]
    go_wp2
    go_ret2
    rw [HE.out, HN.out, HX.out]; exact ⟨rfl, rfl⟩

set_option maxRecDepth 100000 in
set_option maxHeartbeats 1000000 in
theorem rway_any (b n : Nat) (t : T) (d : Nat → Nat) (w : World) (h : Tb false w b t) (hT : Sp.Tree t d) (hn : n < 6) (hh : t.here n = true) :
    Calls Try.prog 127 #[.pointer (some ⟨b, 0, none⟩), .int .i64 n] w fun e w' => ∃ v, e = .returned v ∧ LO w (Sp.W t n) v w' := by
  obtain ⟨i0, hi, hz0, hz1, hz2⟩ := info_parts info3
  have HF := Hid.intro h
  have HT := Hid.intro hT
  have HL : Hid ((Sp.W t n).length ≤ 4) := Hid.intro (by rw [hT.len hn hh]; exact (hT.le n hn hh).2)
  have HH := Hid.intro hh
  clear h hT hh
  go_enter Try.func127, Try.ntmps127
  go_wp2_with fail
  go_loopw [1, 5] (fun i l wr => ∃ (z : Int) (L : List Nat), i = .int .i64 z ∧ Hid (LO w L l wr ∧ L ++ Sp.W t z = Sp.W t n ∧ (z = -1 ∨ ∃ m : Nat, z = m ∧ m < 6 ∧ t.here m = true))) (fun i _ _ => (Sp.W t (intOf i)).length)
  case atStart => exact ⟨n, [], rfl, LO.nil w, rfl, .inr ⟨n, rfl, hn, HH.out⟩⟩
  case round =>
    obtain ⟨z, L, rfl, S⟩ := hrel
    rcases S.out.2.2 with rfl | ⟨m, rfl, hm, hmh⟩
    · have HE : Hid (L = Sp.W t n) := Hid.intro (by have := S.out.2.1; rw [Sp.W_neg t (-1) (by omega), List.append_nil] at this; exact this)
      go_wp2_with fail
      go_ret
      exact ⟨_, rfl, by rw [← HE.out]; exact S.out.1⟩
    · have ST := Hid.intro (HT.out.step hm hmh)
      have PC := Hid.intro (HT.out.par_cases hm hmh)
      have hmI : (m : Int) < 6 := by omega
      have hlm : L.length ≤ 4 := by have := HL.out; rw [← S.out.2.1, List.length_append] at this; omega
      obtain ⟨a, cap, hv⟩ := own_form S.out.1.own
      rw [hv]
      have HV := Hid.intro hv
      generalize hN : L.length = N at *
      have HN := Hid.intro hN
      clear hv hN hmh
      go_wp2_with (at_builtin; refine wpList_append_lies _ rfl _ _ 47 (by rfl) w.heap.size 3 i0 (.int .i64 0) 1 8 Try.underlying47 hi hz0 hz1 hz2 rfl (by decide) (.slice a N cap) N (rowOf L) (by rfl) (by rw [← HV.out, ← HN.out]; exact S.out.1.own.alloc _) ⟨wr.heap.size, 0, none⟩ 1 1 [.int .i64 m] (by rfl) rfl (cell_one_new _ _ _) (by simp [Value.oneCell']) (by decide) (by unfold maxLen; omega) (by omega) (by have := S.out.1.bel.size; simp; omega) (wr.heap.size + 1) (by simp) ?_; intro gg cap2 w1 hown hgrow hat hlt2; have Q1 : Hid (LO w (L ++ [m]) (.slice (some ⟨gg, 0, none⟩) (N + 1) cap2) w1) := S.out.1.more HN.out hown _ (by rw [HV.out]; exact hgrow); have c1 : w1.cell? ⟨b, m * 23 + 1, none⟩ = some (.int .i64 (t.par m)) := (HF.out.below Q1.out.bel).cPar m hm; clear hown hgrow hat hlt2)
      go_roundw
      case rel =>
        refine ⟨t.par m, L ++ [m], by first | rfl | trivial, Q1.out, ?_, ?_⟩
        · have := S.out.2.1
          rw [ST.out] at this
          rw [← this]; simp
        · rcases PC.out with ⟨_, e, _⟩ | ⟨p, p1, p2, p3, _⟩
          · exact .inl e
          · exact .inr ⟨p, p2, p1, p3⟩
      case measure =>
        simp only [intOf]
        rw [ST.out, List.length_cons]
        omega

set_option maxRecDepth 100000 in
set_option maxHeartbeats 1000000 in
theorem rall_any (b : Nat) (t : T) (w : World) (h : Tb false w b t) :
    Calls Try.prog 141 #[.pointer (some ⟨b, 0, none⟩)] w fun e w' => ∃ v, e = .returned v ∧ LO w (Sp.all t) v w' := by
  obtain ⟨i0, hi, hz0, hz1, hz2⟩ := info_parts info3
  have H := Hid.intro h
  clear h
  go_enter Try.func141, Try.ntmps141
  go_wp2_with fail
  go_loopw [3, 4] (fun l i wr => ∃ (k : Nat), i = .int .i64 k ∧ k ≤ 6 ∧ Hid (LO w (allK t k) l wr)) (fun _ i _ => 6 - (intOf i).toNat)
  case atStart => exact ⟨0, rfl, by omega, LO.nil w⟩
  case round =>
    obtain ⟨k, rfl, hk, R⟩ := hrel
    by_cases hlt : k < 6
    · have hltI : (k : Int) < 6 := by omega
      have c0 := (H.out.below R.out.bel).cHere k hlt
      cases hth : t.here k
      · have HM := Hid.intro (allK_no hth)
        rw [hth] at c0
        clear hth
        go_wp2_with fail
        go_roundw
        case rel => exact ⟨k + 1, by go_num, by omega, by rw [HM.out]; exact R⟩
        case measure => simp [intOf]; omega
      · have HM := Hid.intro (allK_yes hth)
        rw [hth] at c0
        obtain ⟨a, cap, hv⟩ := own_form R.out.own
        rw [hv]
        have HV := Hid.intro hv
        have hlm := allK_len t k
        generalize hN : (allK t k).length = N at *
        have HN := Hid.intro hN
        clear hv hN hth
        go_wp2_with (at_builtin; refine wpList_append_lies _ rfl _ _ 47 (by rfl) w.heap.size 3 i0 (.int .i64 0) 1 8 Try.underlying47 hi hz0 hz1 hz2 rfl (by decide) (.slice a N cap) N (rowOf (allK t k)) (by rfl) (by rw [← HV.out, ← HN.out]; exact R.out.own.alloc _) ⟨wr.heap.size, 0, none⟩ 1 1 [.int .i64 k] (by rfl) rfl (cell_one_new _ _ _) (by simp [Value.oneCell']) (by decide) (by unfold maxLen; omega) (by omega) (by have := R.out.bel.size; simp; omega) (wr.heap.size + 1) (by simp) ?_; intro gg cap2 w1 hown hgrow hat hlt2; have Q1 : Hid (LO w (allK t k ++ [k]) (.slice (some ⟨gg, 0, none⟩) (N + 1) cap2) w1) := R.out.more HN.out hown _ (by rw [HV.out]; exact hgrow); clear hown hgrow hat hlt2)
        go_roundw
        case rel => exact ⟨k + 1, by go_num, by omega, by rw [HM.out]; exact Q1⟩
        case measure => simp [intOf]; omega
    · have hk6 : k = 6 := by omega
      subst hk6
      go_wp2
      go_ret
      exact ⟨_, rfl, R.out⟩

theorem memK_one {t : T} {n : Nat} (h : t.who n 0 = 0) : memK t n 1 = [] := by rw [show (1 : Nat) = 0 + 1 from rfl, memK_no h]; rfl
set_option maxRecDepth 100000 in
set_option maxHeartbeats 1000000 in
theorem rmembers_any (b : Nat) (z : Int) (t : T) (w : World) (h : Tb false w b t) (hw0 : ∀ n, n < 6 → t.who n 0 = 0) (hwl : ∀ n p, n < 6 → p < 21 → t.who n p ≤ 20) :
    Calls Try.prog 130 #[.pointer (some ⟨b, 0, none⟩), .int .i64 z] w fun e w' => ∃ v, e = .returned (.tuple #[v, .int .i64 (Sp.isE t z)]) ∧ LO w (membL t z) v w' := by
  obtain ⟨i0, hi, hz0, hz1, hz2⟩ := info_parts info3
  have HF := Hid.intro h
  by_cases k : Sp.isE t z = 0
  · have HK := Hid.intro k
    obtain ⟨n, rfl, hn, hh⟩ := Sp.isE_zero k
    have hnI : (n : Int) < 6 := by omega
    have H0 := Hid.intro (hw0 n hn)
    have HWL := Hid.intro hwl
    clear h k hh hw0 hwl
    go_enter Try.func130, Try.ntmps130
    go_wp2_with fail
    refine (ris_any b n t _ HF.out).mono ?_
    rintro e w1 ⟨rfl, hw⟩
    subst w1
    rw [HK.out]
    go_wp2_with fail
    go_loopw [7, 8] (fun l i wr => ∃ (k : Nat), i = .int .i64 k ∧ 1 ≤ k ∧ k ≤ 21 ∧ Hid (LO w (memK t n k) l wr)) (fun _ i _ => 21 - (intOf i).toNat)
    case atStart => exact ⟨1, rfl, by omega, by omega, by rw [memK_one H0.out]; exact LO.nil w⟩
    case round =>
      obtain ⟨k, rfl, hk1, hk, R⟩ := hrel
      by_cases hlt : k < 21
      · have hltI : (k : Int) < 21 := by omega
        have cc := (HF.out.below R.out.bel).whoR n k hn hlt
        have wl := HWL.out n k hn hlt
        by_cases c : t.who n k = 0
        · have HM := Hid.intro (memK_no c)
          rw [c] at cc
          have cc' : wr.cell? ⟨b, n * 23 + 2 + k, none⟩ = some (.int .i64 0) := cc
          clear c cc wl
          go_wp2_with fail
          go_roundw
          case rel => exact ⟨k + 1, by go_num, by omega, by omega, by rw [HM.out]; exact R⟩
          case measure => simp [intOf]; omega
        · have HM := Hid.intro (memK_yes c)
          obtain ⟨x, hx⟩ : ∃ x, t.who n k - 1 = x := ⟨_, rfl⟩
          rw [hx] at HM
          rw [show (t.who n k : Int) = (x : Int) + 1 by omega] at cc
          have hx19 : x ≤ 19 := by omega
          have hpos : (0 : Int) < (x : Int) + 1 := by omega
          have hwr : IntKind.i64.wrap ((x : Int) + 1 - 1) = (x : Int) := by rw [show (x : Int) + 1 - 1 = (x : Int) by omega]; exact IntWalk.i64_in _ ⟨by omega, by omega⟩
          obtain ⟨a, cap, hv⟩ := own_form R.out.own
          rw [hv]
          have HV := Hid.intro hv
          have hlm := memK_len t n k
          generalize hN : (memK t n k).length = N at *
          have HN := Hid.intro hN
          clear hv hN c hx wl
          go_wp2_with (at_builtin; refine wpList_append_lies _ rfl _ _ 47 (by rfl) w.heap.size 3 i0 (.int .i64 0) 1 8 Try.underlying47 hi hz0 hz1 hz2 rfl (by decide) (.slice a N cap) N (rowOf (memK t n k)) (by rfl) (by rw [← HV.out, ← HN.out]; exact R.out.own.alloc _) ⟨wr.heap.size, 0, none⟩ 1 1 [.int .i64 x] (by rfl) rfl (cell_one_new _ _ _) (by simp [Value.oneCell']) (by decide) (by unfold maxLen; omega) (by omega) (by have := R.out.bel.size; simp; omega) (wr.heap.size + 1) (by simp) ?_; intro gg cap2 w1 hown hgrow hat hlt2; have Q1 : Hid (LO w (memK t n k ++ [x]) (.slice (some ⟨gg, 0, none⟩) (N + 1) cap2) w1) := R.out.more HN.out hown _ (by rw [HV.out]; exact hgrow); clear hown hgrow hat hlt2)
          go_roundw
          case rel => exact ⟨k + 1, by go_num, by omega, by omega, by rw [HM.out]; exact Q1⟩
          case measure => simp [intOf]; omega
      · have hk21 : k = 21 := by omega
        subst hk21
        go_wp2_with fail
        go_ret2
        exact ⟨_, by rw [HK.out]; rfl, by unfold membL; rw [if_pos HK.out, Int.toNat_natCast]; exact R.out⟩
  · have hp := (Sp.isE_cases t z).resolve_left k
    have HML : Hid (membL t z = []) := Hid.intro (if_neg k)
    obtain ⟨E, hE⟩ : ∃ E, Sp.isE t z = E := ⟨_, rfl⟩
    have HX := Hid.intro hE
    rw [hE] at hp
    clear h k hE hw0 hwl
    go_enter Try.func130, Try.ntmps130
    go_wp2_with fail
    refine (ris_any b z t _ HF.out).mono ?_
    rintro e w1 ⟨rfl, hw⟩
    subst w1
    rw [HX.out]
    go_wp2
    go_ret2
    exact ⟨_, by rw [HX.out]; rfl, by rw [HML.out]; exact LO.nil w⟩
end Go.Proofs.Ytgabfkaadflciaa

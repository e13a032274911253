/- The code's table: wrong, wrongProc, wrongPair, depth, Of, Find; where a number stands (slices.Index): pid, free, Pid. -/
import Derived.Test.YtgabfkaadflciaaVc
namespace Go.Proofs.Ytgabfkaadflciaa
open Go.RowKit
open Sp (T)

set_option maxRecDepth 100000 in
set_option maxHeartbeats 400000 in
theorem wrong_any (b : Nat) (z : Int) (t : T) (w : World) (h : Tb true w b t) : Calls Try.prog 124 #[.pointer (some ⟨b, 0, none⟩), .int .i64 z] w fun e w' => e = .returned (errV (Sp.isE t z)) ∧ w' = w := by
  by_cases k : z < 0 ∨ 6 ≤ z
  · have e : Hid (Sp.isE t z = 1) := Hid.intro (if_pos k)
    by_cases h0 : z < 0
    · clear k
      go_enter Try.func124, Try.ntmps124
      go_wp2
      go_ret
      rw [e.out]; exact ⟨rfl, rfl⟩
    · have h1 : decide (z < 0) = false := by simp; omega
      have h2 : 6 ≤ z := by omega
      clear k h0
      go_enter Try.func124, Try.ntmps124
      go_wp2
      go_ret
      rw [e.out]; exact ⟨rfl, rfl⟩
  · obtain ⟨n, rfl⟩ := Int.eq_ofNat_of_zero_le (show 0 ≤ z by omega)
    have hn : n < 6 := by omega
    have h1 : (n : Int) < 6 := by omega
    have h2 : decide (6 ≤ (n : Int)) = false := by simp; omega
    have c0 := h.cHere n hn
    cases hh : t.here n
    · have e : Hid (Sp.isE t n = 2) := Hid.intro (by unfold Sp.isE; rw [if_neg k, Int.toNat_natCast, hh]; rfl)
      rw [hh] at c0
      clear k hh h
      go_enter Try.func124, Try.ntmps124
      go_wp2
      go_ret
      rw [e.out]; exact ⟨rfl, rfl⟩
    · have e : Hid (Sp.isE t n = 0) := Hid.intro (by unfold Sp.isE; rw [if_neg k, Int.toNat_natCast, hh]; rfl)
      rw [hh] at c0
      clear k hh h
      go_enter Try.func124, Try.ntmps124
      go_wp2
      go_ret
      rw [e.out]; exact ⟨rfl, rfl⟩
set_option maxHeartbeats 400000 in
theorem wrongProc_any (z : Int) (w : World) : Calls Try.prog 159 #[.int .i64 z] w fun e w' => e = .returned (errV (Sp.procE z)) ∧ w' = w := by
  by_cases k : z < 0 ∨ 20 ≤ z
  · have e : Hid (Sp.procE z = 1) := Hid.intro (if_pos k)
    by_cases h0 : z < 0
    · clear k
      go_enter Try.func159, Try.ntmps159
      go_wp2
      go_ret
      rw [e.out]; exact ⟨rfl, rfl⟩
    · have h1 : decide (z < 0) = false := by simp; omega
      have h2 : 20 ≤ z := by omega
      clear k h0
      go_enter Try.func159, Try.ntmps159
      go_wp2
      go_ret
      rw [e.out]; exact ⟨rfl, rfl⟩
  · have e : Hid (Sp.procE z = 0) := Hid.intro (if_neg k)
    have h1 : decide (z < 0) = false := by simp; omega
    have h2 : decide (20 ≤ z) = false := by simp; omega
    clear k
    go_enter Try.func159, Try.ntmps159
    go_wp2
    go_ret
    rw [e.out]; exact ⟨rfl, rfl⟩
set_option maxHeartbeats 400000 in
theorem wrongPair_any (b : Nat) (z x : Int) (t : T) (w : World) (h : Tb true w b t) : Calls Try.prog 131 #[.pointer (some ⟨b, 0, none⟩), .int .i64 z, .int .i64 x] w fun e w' => e = .returned (errV (Sp.pairE t z x)) ∧ w' = w := by
  have HF := Hid.intro h
  by_cases k : Sp.isE t z = 0
  · have HK := Hid.intro k
    have HE : Hid (Sp.pairE t z x = Sp.procE x) := Hid.intro (if_pos k)
    clear h k
    go_enter Try.func131, Try.ntmps131
    go_wp2_with fail
    refine (wrong_any b z t _ HF.out).mono ?_
    rintro e w1 ⟨rfl, hw⟩
    subst w1
    rw [HK.out, errV_zero]
    go_wp2_with fail
    refine (wrongProc_any x _).mono ?_
    rintro e w1 ⟨rfl, hw⟩
    subst w1
    go_wp2_with fail
    go_ret
    rw [HE.out]; exact ⟨rfl, rfl⟩
  · have HE : Hid (Sp.pairE t z x = Sp.isE t z) := Hid.intro (if_neg k)
    have HN := Hid.intro k
    clear h k
    go_enter Try.func131, Try.ntmps131
    go_wp2_with fail
    refine (wrong_any b z t _ HF.out).mono ?_
    rintro e w1 ⟨rfl, hw⟩
    subst w1
    rw [errV_ne HN.out]
    go_wp2
    go_ret
    rw [HE.out, errV_ne HN.out]; exact ⟨rfl, rfl⟩

/-- How many are on the way. -/
theorem neg1_ne (n : Nat) : ((n : Int) == -1) = false := by simp
set_option maxRecDepth 100000 in
set_option maxHeartbeats 1000000 in
theorem depth_any (b n : Nat) (t : T) (d : Nat → Nat) (w : World) (h : Tb true w b t) (hT : Sp.Tree t d) (hn : n < 6) (hh : t.here n = true) :
    Calls Try.prog 125 #[.pointer (some ⟨b, 0, none⟩), .int .i64 n] w fun e w' => e = .returned (.int .i64 (((Sp.W t n).length : Nat) : Int)) ∧ w' = w := by
  have HF := Hid.intro h
  have HT := Hid.intro hT
  have HL : Hid ((Sp.W t n).length ≤ 4) := Hid.intro (by rw [hT.len hn hh]; exact (hT.le n hn hh).2)
  have HH := Hid.intro hh
  clear h hT hh
  go_enter Try.func125, Try.ntmps125
  go_wp2_with fail
  go_loopw [5, 6] (fun s i wr => ∃ (k : Nat) (z : Int), s = .int .i64 k ∧ i = .int .i64 z ∧ wr = w ∧ Hid (k + (Sp.W t z).length = (Sp.W t n).length ∧ (z = -1 ∨ ∃ m : Nat, z = m ∧ m < 6 ∧ t.here m = true))) (fun _ i _ => (Sp.W t (intOf i)).length)
  case atStart => exact ⟨0, n, rfl, rfl, rfl, by omega, .inr ⟨n, rfl, hn, HH.out⟩⟩
  case round =>
    obtain ⟨k, z, rfl, rfl, hw, HN⟩ := hrel
    subst wr
    rcases HN.out.2 with rfl | ⟨m, rfl, hm, hmh⟩
    · have HE : Hid (k = (Sp.W t n).length) := Hid.intro (by have := HN.out.1; rw [Sp.W_neg t (-1) (by omega)] at this; simpa using this)
      go_wp2_with fail
      go_ret
      rw [← HE.out]; exact ⟨rfl, rfl⟩
    · have HMH := Hid.intro hmh
      have ST := Hid.intro (HT.out.step hm hmh)
      have PC := Hid.intro (HT.out.par_cases hm hmh)
      have c1 := HF.out.cPar m hm
      have hmI : (m : Int) < 6 := by omega
      have hne := neg1_ne m
      have hk4 : k ≤ 4 := by have := HN.out.1; have := HL.out; omega
      clear hmh
      go_wp2_with fail
      go_roundw
      case rel =>
        refine ⟨k + 1, t.par m, by go_num, by first | rfl | trivial, by first | rfl | trivial, ?_, ?_⟩
        · have := HN.out.1
          rw [ST.out, List.length_cons] at this
          omega
        · rcases PC.out with ⟨_, e, _⟩ | ⟨p, p1, p2, p3, _⟩
          · exact .inl e
          · exact .inr ⟨p, p2, p1, p3⟩
      case measure =>
        simp only [intOf]
        rw [ST.out, List.length_cons]
        omega

set_option maxRecDepth 100000 in
set_option maxHeartbeats 400000 in
theorem of_any (b : Nat) (x : Int) (t : T) (w : World) (h : Tb true w b t) : Calls Try.prog 135 #[.pointer (some ⟨b, 0, none⟩), .int .i64 x] w fun e w' => e = .returned (.tuple #[.int .i64 (Sp.inN t x : Int), errV (Sp.inE t x)]) ∧ w' = w := by
  by_cases k : Sp.procE x = 0
  · have HK := Hid.intro k
    obtain ⟨n, rfl, hn⟩ := Sp.procE_zero k
    have hnI : (n : Int) < 20 := by omega
    have c := h.ofC n hn
    by_cases o : t.of n = 0
    · have HE : Hid (Sp.inE t n = 2) := Hid.intro (by unfold Sp.inE; rw [if_pos k, Int.toNat_natCast, if_pos o])
      have HN : Hid (Sp.inN t n = 0) := Hid.intro (by unfold Sp.inN; rw [HE.out]; rfl)
      rw [o] at c
      have c' : w.cell? ⟨b, 138 + n, none⟩ = some (.int .i64 (-1)) := c
      clear h k o c
      go_enter Try.func135, Try.ntmps135
      go_wp2_with fail
      refine (wrongProc_any _ _).mono ?_
      rintro e w1 ⟨rfl, hw⟩
      subst w1
      rw [HK.out, errV_zero]
      go_wp2
      go_ret2
      rw [HE.out, HN.out]; exact ⟨rfl, rfl⟩
    · have HE : Hid (Sp.inE t n = 0) := Hid.intro (by unfold Sp.inE; rw [if_pos k, Int.toNat_natCast, if_neg o])
      have HN : Hid ((Sp.inN t n : Int) = (t.of n : Int) - 1) := Hid.intro (by unfold Sp.inN; rw [HE.out, if_pos rfl, Int.toNat_natCast]; omega)
      obtain ⟨v, hv⟩ : ∃ v, (t.of n : Int) - 1 = v := ⟨_, rfl⟩
      have v0 : (v == -1) = false := by simp; omega
      rw [hv] at c HN
      clear h k o hv
      go_enter Try.func135, Try.ntmps135
      go_wp2_with fail
      refine (wrongProc_any _ _).mono ?_
      rintro e w1 ⟨rfl, hw⟩
      subst w1
      rw [HK.out, errV_zero]
      go_wp2
      go_ret2
      rw [HE.out, HN.out]; exact ⟨rfl, rfl⟩
  · have HE : Hid (Sp.inE t x = Sp.procE x) := Hid.intro (by unfold Sp.inE; rw [if_neg k])
    have HN : Hid (Sp.inN t x = 0) := Hid.intro (by unfold Sp.inN; rw [HE.out, if_neg k])
    have HW := Hid.intro k
    clear h k
    go_enter Try.func135, Try.ntmps135
    go_wp2_with fail
    refine (wrongProc_any _ _).mono ?_
    rintro e w1 ⟨rfl, hw⟩
    subst w1
    rw [errV_ne HW.out]
    go_wp2
    go_ret2
    rw [HE.out, HN.out, errV_ne HW.out]; exact ⟨rfl, rfl⟩

/-- What slices.Index answers. -/
def IdxI (f : Nat → Int) (n : Nat) (v r : Int) : Prop := (∃ i : Nat, i < n ∧ f i = v ∧ (∀ j, j < i → f j ≠ v) ∧ r = i) ∨ ((∀ i, i < n → f i ≠ v) ∧ r = -1)
set_option maxRecDepth 100000 in
set_option maxHeartbeats 1000000 in
theorem index_any (b o n cap : Nat) (f : Nat → Int) (v : Int) (w : World) (h : ∀ i, i < n → w.cell? ⟨b, o + i, none⟩ = some (.int .i64 (f i))) (hn : n ≤ 1000) :
    Calls Try.prog 160 #[.slice (some ⟨b, o, none⟩) n cap, .int .i64 v] w fun e w' => ∃ r, e = .returned (.int .i64 r) ∧ IdxI f n v r ∧ w' = w := by
  have H := Hid.intro h
  clear h
  go_enter Try.func160, Try.ntmps160
  go_wp2_with fail
  go_loopw [8] (fun i wr => ∃ (k : Nat), i = .int .i64 k ∧ k ≤ n ∧ wr = w ∧ Hid (∀ j, j < k → f j ≠ v)) (fun i _ => n - (intOf i).toNat)
  case atStart => exact ⟨0, rfl, by omega, rfl, fun j hj => by omega⟩
  case round =>
    obtain ⟨k, rfl, hk, hw, HN⟩ := hrel
    subst wr
    by_cases hlt : k < n
    · have hltI : (k : Int) < (n : Int) := by omega
      have cc := H.out k hlt
      by_cases e : f k = v
      · have HE := Hid.intro e
        rw [e] at cc
        clear e
        go_wp2_with fail
        go_ret
        exact ⟨_, rfl, .inl ⟨k, hlt, HE.out, HN.out, rfl⟩, rfl⟩
      · have HE := Hid.intro e
        generalize hf : f k = u at *
        have HU := Hid.intro hf
        have e1 : (v == u) = false := by simp; exact fun c => HE.out c.symm
        clear e hf
        go_wp2_with fail
        go_roundw
        case rel => exact ⟨k + 1, by go_num, by omega, by first | rfl | trivial, fun j hj => by
          by_cases c : j = k
          · rw [c, HU.out]; exact HE.out
          · exact HN.out j (by omega)⟩
        case measure => simp [intOf]; omega
    · have hltI : ¬ (k : Int) < (n : Int) := by omega
      go_wp2_with fail
      go_ret
      exact ⟨_, rfl, .inr ⟨fun i hi => HN.out i (by omega), rfl⟩, rfl⟩

theorem Tb.row (w : World) (b n : Nat) (t : T) (h : Tb true w b t) (hn : n < 6) (hh : t.here n = true) : ∀ i, i < 21 → w.cell? ⟨b, n * 23 + 2 + i, none⟩ = some (.int .i64 ((t.who n i : Int) - 1)) := fun i hi => h.whoC n i hn hi hh
def pidI (t : T) (n x : Nat) : Int := if Sp.pidOf t n x = 0 then -1 else (Sp.pidOf t n x : Int)
theorem pidI_of {t : T} {n x : Nat} {r : Int} (h0 : t.who n 0 = 0) (h : IdxI (fun i => (t.who n i : Int) - 1) 21 x r) : r = pidI t n x := by
  unfold pidI Sp.pidOf
  rcases h with ⟨i, hi, e, hl, rfl⟩ | ⟨hl, rfl⟩
  · have e' : (t.who n i : Int) - 1 = x := e
    have i0 : i ≠ 0 := fun c => by rw [c, h0] at e'; omega
    rw [Sp.find_at (P := Sp.isP t n x) hi (by unfold Sp.isP; simp; omega) (fun j hj => by have : (t.who n j : Int) - 1 ≠ x := hl j hj; unfold Sp.isP; simp; omega)]
    show (i : Int) = if i = 0 then -1 else (i : Int)
    rw [if_neg i0]
  · rw [Sp.find_no (P := Sp.isP t n x) (fun j hj => by have : (t.who n j : Int) - 1 ≠ x := hl j hj; unfold Sp.isP; simp; omega)]
    rfl
set_option maxRecDepth 100000 in
set_option maxHeartbeats 400000 in
theorem pid_any (b n x : Nat) (t : T) (w : World) (h : Tb true w b t) (hn : n < 6) (hh : t.here n = true) (h0 : t.who n 0 = 0) :
    Calls Try.prog 133 #[.pointer (some ⟨b, n * 23, none⟩), .int .i64 x] w fun e w' => e = .returned (.int .i64 (pidI t n x)) ∧ w' = w := by
  have HR := Hid.intro (Tb.row w b n t h hn hh)
  have H0 := Hid.intro h0
  clear h hh h0
  go_enter Try.func133, Try.ntmps133
  go_wp2_with fail
  refine (index_any b (n * 23 + 2) 21 21 (fun i => (t.who n i : Int) - 1) x _ HR.out (by omega)).mono ?_
  rintro e w1 ⟨r, rfl, hi, hw⟩
  subst w1
  rw [pidI_of H0.out hi]
  clear hi
  go_wp2_with fail
  go_ret
  exact ⟨rfl, rfl⟩
set_option maxRecDepth 100000 in
set_option maxHeartbeats 400000 in
theorem free_any (b n : Nat) (t : T) (w : World) (h : Tb true w b t) (hn : n < 6) (hh : t.here n = true) (hr : ∃ p, 1 ≤ p ∧ p < 21 ∧ t.who n p = 0) :
    Calls Try.prog 132 #[.pointer (some ⟨b, n * 23, none⟩)] w fun e w' => e = .returned (.int .i64 (Sp.low t n : Int)) ∧ w' = w := by
  have HR : Hid (∀ i, i < 20 → w.cell? ⟨b, n * 23 + 3 + i, none⟩ = some (.int .i64 ((t.who n (i + 1) : Int) - 1))) := Hid.intro (fun i hi => by
    have := Tb.row w b n t h hn hh (i + 1) (by omega)
    rw [show n * 23 + 2 + (i + 1) = n * 23 + 3 + i by omega] at this
    exact this)
  have HX := Hid.intro hr
  clear h hh hr
  go_enter Try.func132, Try.ntmps132
  go_wp2_with fail
  refine (index_any b (n * 23 + 3) 20 20 (fun i => (t.who n (i + 1) : Int) - 1) (-1) _ HR.out (by omega)).mono ?_
  rintro e w1 ⟨r, rfl, hi, hw⟩
  subst w1
  obtain ⟨k, hk, rfl, hlow⟩ : ∃ k : Nat, k < 20 ∧ r = k ∧ Sp.low t n = k + 1 := by
    rcases hi with ⟨i, hi, e, hl, rfl⟩ | ⟨hl, rfl⟩
    · have e' : (t.who n (i + 1) : Int) - 1 = -1 := e
      exact ⟨i, hi, rfl, Sp.low_at (by omega) (by omega) (by omega) (fun q q1 q2 c => by
        have : (t.who n (q - 1 + 1) : Int) - 1 ≠ -1 := hl (q - 1) (by omega)
        rw [show q - 1 + 1 = q by omega, c] at this
        exact this rfl)⟩
    · obtain ⟨p, p1, p2, p3⟩ := HX.out
      have : (t.who n (p - 1 + 1) : Int) - 1 ≠ -1 := hl (p - 1) (by omega)
      rw [show p - 1 + 1 = p by omega, p3] at this
      exact absurd rfl this
  have HL := Hid.intro hlow
  clear hi hlow
  have hk' : (k : Int) < 20 := by omega
  go_wp2_with fail
  go_ret
  rw [HL.out]
  refine ⟨?_, rfl⟩
  go_num

set_option maxRecDepth 100000 in
set_option maxHeartbeats 1000000 in
theorem pidT_any (b : Nat) (x z : Int) (t : T) (w : World) (h : Tb true w b t) (h0 : ∀ n, n < 6 → t.who n 0 = 0) :
    Calls Try.prog 138 #[.pointer (some ⟨b, 0, none⟩), .int .i64 x, .int .i64 z] w fun e w' => e = .returned (.tuple #[.int .i64 (Sp.pidN t x z : Int), errV (Sp.pidE t x z)]) ∧ w' = w := by
  have HF := Hid.intro h
  have H0 := Hid.intro h0
  by_cases k : Sp.pairE t z x = 0
  · have HK := Hid.intro k
    obtain ⟨n, y, rfl, rfl, hn, hy, hh⟩ := Sp.pairE_zero k
    have HH := Hid.intro hh
    have hnI : (n : Int) < 6 := by omega
    have HE : Hid (Sp.pidE t y n = if Sp.pidOf t n y = 0 then 2 else 0) := Hid.intro (by unfold Sp.pidE; rw [if_pos k, Int.toNat_natCast, Int.toNat_natCast])
    have HN : Hid (Sp.pidN t y n = Sp.pidOf t n y) := Hid.intro (by
      unfold Sp.pidN; rw [HE.out]
      by_cases c : Sp.pidOf t n y = 0
      · rw [if_pos c, if_neg (by decide), c]
      · rw [if_neg c, if_pos rfl, Int.toNat_natCast, Int.toNat_natCast])
    clear h h0 k hh
    go_enter Try.func138, Try.ntmps138
    go_wp2_with fail
    refine (wrongPair_any b n y t _ HF.out).mono ?_
    rintro e w1 ⟨rfl, hw⟩
    subst w1
    rw [HK.out, errV_zero]
    go_wp2_with fail
    refine (pid_any b n y t _ HF.out hn HH.out (H0.out n hn)).mono ?_
    rintro e w1 ⟨rfl, hw⟩
    subst w1
    unfold pidI
    by_cases c : Sp.pidOf t n y = 0
    · have HC := Hid.intro c
      rw [if_pos c]
      clear c
      go_wp2
      go_ret2
      rw [HE.out, HN.out, HC.out]; exact ⟨rfl, rfl⟩
    · have HC := Hid.intro c
      rw [if_neg c]
      generalize hp : Sp.pidOf t n y = p at *
      have hp1 : decide ((p : Int) < 1) = false := by simp; omega
      clear c hp
      go_wp2
      go_ret2
      rw [HE.out, HN.out, if_neg HC.out]; exact ⟨rfl, rfl⟩
  · have HE : Hid (Sp.pidE t x z = Sp.pairE t z x) := Hid.intro (by unfold Sp.pidE; rw [if_neg k])
    have HN : Hid (Sp.pidN t x z = 0) := Hid.intro (by unfold Sp.pidN; rw [HE.out, if_neg k])
    have HW := Hid.intro k
    clear h k h0
    go_enter Try.func138, Try.ntmps138
    go_wp2_with fail
    refine (wrongPair_any b z x t _ HF.out).mono ?_
    rintro e w1 ⟨rfl, hw⟩
    subst w1
    rw [errV_ne HW.out]
    go_wp2
    go_ret2
    rw [HE.out, HN.out, errV_ne HW.out]; exact ⟨rfl, rfl⟩

set_option maxRecDepth 100000 in
set_option maxHeartbeats 1000000 in
theorem find_any (b : Nat) (z p : Int) (t : T) (w : World) (h : Tb true w b t) :
    Calls Try.prog 73 #[.pointer (some ⟨b, 0, none⟩), .int .i64 z, .int .i64 p] w fun e w' => e = .returned (.tuple #[.int .i64 (Sp.findN t z p : Int), errV (Sp.findE t z p)]) ∧ w' = w := by
  have HF := Hid.intro h
  by_cases k : Sp.isE t z = 0
  · have HK := Hid.intro k
    obtain ⟨n, rfl, hn, hh⟩ := Sp.isE_zero k
    have hnI : (n : Int) < 6 := by omega
    by_cases hp : p < 1 ∨ 20 < p
    · have HE : Hid (Sp.findE t n p = 2) := Hid.intro (by unfold Sp.findE; rw [if_pos k, if_pos (by omega)])
      have HN : Hid (Sp.findN t n p = 0) := Hid.intro (by unfold Sp.findN; rw [HE.out]; rfl)
      by_cases p1 : p < 1
      · clear h k hh hp
        go_enter Try.func73, Try.ntmps73
        go_wp2_with fail
        refine (wrong_any b n t _ HF.out).mono ?_
        rintro e w1 ⟨rfl, hw⟩
        subst w1
        rw [HK.out, errV_zero]
        go_wp2
        go_ret2
        rw [HE.out, HN.out]; exact ⟨rfl, rfl⟩
      · have p1' : decide (p < 1) = false := by simp; omega
        have p2 : 21 ≤ p := by omega
        clear h k hh hp p1
        go_enter Try.func73, Try.ntmps73
        go_wp2_with fail
        refine (wrong_any b n t _ HF.out).mono ?_
        rintro e w1 ⟨rfl, hw⟩
        subst w1
        rw [HK.out, errV_zero]
        go_wp2
        go_ret2
        rw [HE.out, HN.out]; exact ⟨rfl, rfl⟩
    · obtain ⟨q, rfl⟩ := Int.eq_ofNat_of_zero_le (show 0 ≤ p by omega)
      have cc := h.whoC n q hn (by omega) hh
      have q1 : decide ((q : Int) < 1) = false := by simp; omega
      have q2 : decide (21 ≤ (q : Int)) = false := by simp; omega
      have q3 : (q : Int) < 21 := by omega
      by_cases c : t.who n q = 0
      · have HE : Hid (Sp.findE t n q = 2) := Hid.intro (by unfold Sp.findE; rw [if_pos k, Int.toNat_natCast, Int.toNat_natCast, if_pos (.inr (.inr c))])
        have HN : Hid (Sp.findN t n q = 0) := Hid.intro (by unfold Sp.findN; rw [HE.out]; rfl)
        rw [c] at cc
        have cc' : w.cell? ⟨b, n * 23 + 2 + q, none⟩ = some (.int .i64 (-1)) := cc
        clear h k hh hp c cc
        go_enter Try.func73, Try.ntmps73
        go_wp2_with fail
        refine (wrong_any b n t _ HF.out).mono ?_
        rintro e w1 ⟨rfl, hw⟩
        subst w1
        rw [HK.out, errV_zero]
        go_wp2
        go_ret2
        rw [HE.out, HN.out]; exact ⟨rfl, rfl⟩
      · have HE : Hid (Sp.findE t n q = 0) := Hid.intro (by unfold Sp.findE; rw [if_pos k, Int.toNat_natCast, Int.toNat_natCast, if_neg (by omega)])
        have HN : Hid ((Sp.findN t n q : Int) = (t.who n q : Int) - 1) := Hid.intro (by unfold Sp.findN; rw [HE.out, if_pos rfl, Int.toNat_natCast, Int.toNat_natCast]; omega)
        obtain ⟨v, hv⟩ : ∃ v, (t.who n q : Int) - 1 = v := ⟨_, rfl⟩
        have v0 : (v == -1) = false := by simp; omega
        rw [hv] at cc HN
        clear h k hh hp c hv
        go_enter Try.func73, Try.ntmps73
        go_wp2_with fail
        refine (wrong_any b n t _ HF.out).mono ?_
        rintro e w1 ⟨rfl, hw⟩
        subst w1
        rw [HK.out, errV_zero]
        go_wp2
        go_ret2
        rw [HE.out, HN.out]; exact ⟨rfl, rfl⟩
  · have HE : Hid (Sp.findE t z p = Sp.isE t z) := Hid.intro (by unfold Sp.findE; rw [if_neg k])
    have HN : Hid (Sp.findN t z p = 0) := Hid.intro (by unfold Sp.findN; rw [HE.out, if_neg k])
    have HW := Hid.intro k
    clear h k
    go_enter Try.func73, Try.ntmps73
    go_wp2_with fail
    refine (wrong_any b z t _ HF.out).mono ?_
    rintro e w1 ⟨rfl, hw⟩
    subst w1
    rw [errV_ne HW.out]
    go_wp2
    go_ret2
    rw [HE.out, HN.out, errV_ne HW.out]; exact ⟨rfl, rfl⟩
end Go.Proofs.Ytgabfkaadflciaa

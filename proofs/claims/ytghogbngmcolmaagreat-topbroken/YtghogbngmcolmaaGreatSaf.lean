import Derived.Test.YtghogbngmcolmaaGreatSae
import Derived.Test.YtghogbngmcolmaaGreatSaa
namespace Go.Proofs.YtghogbngmcolmaaGreat
open Go.RowKit
open Sp (T)
set_option maxRecDepth 100000 in
set_option maxHeartbeats 400000 in
theorem spwrong_any (b : Nat) (z : Int) (t : T) (w : World) (h : Tb true w b t) : Calls Tryz.prog 91 #[.pointer (some ⟨b, 0, none⟩), .int .i64 z] w fun e w' => e = .returned (errV (Sp.isE t z)) ∧ w' = w := by
  by_cases k : z < 0 ∨ 6 ≤ z
  · have e : Hid (Sp.isE t z = 1) := Hid.intro (if_pos k)
    by_cases h0 : z < 0
    · clear k
      go_enter Tryz.func91, Tryz.ntmps91
      go_wp2
      go_ret
      rw [e.out]; exact ⟨rfl, rfl⟩
    · have h1 : decide (z < 0) = false := by simp; omega
      have h2 : 6 ≤ z := by omega
      clear k h0
      go_enter Tryz.func91, Tryz.ntmps91
      go_wp2
      go_ret
      rw [e.out]; exact ⟨rfl, rfl⟩
  · obtain ⟨n, rfl⟩ := Int.eq_ofNat_of_zero_le (show 0 ≤ z by omega)
    have hn : n < 6 := by omega
    have h1 : (n : Int) < 6 := by omega
    have h2 : decide (6 ≤ (n : Int)) = false := by simp; omega
    have c0 := h.cHere n hn
    cases hh : t.here n
    · have e : Hid (Sp.isE t n = 2) := Hid.intro (by unfold Sp.isE; rw [if_neg k, Int.toNat_natCast, hh]; rfl)
      rw [hh] at c0
      clear k hh h
      go_enter Tryz.func91, Tryz.ntmps91
      go_wp2
      go_ret
      rw [e.out]; exact ⟨rfl, rfl⟩
    · have e : Hid (Sp.isE t n = 0) := Hid.intro (by unfold Sp.isE; rw [if_neg k, Int.toNat_natCast, hh]; rfl)
      rw [hh] at c0
      clear k hh h
      go_enter Tryz.func91, Tryz.ntmps91
      go_wp2
      go_ret
      rw [e.out]; exact ⟨rfl, rfl⟩
set_option maxHeartbeats 400000 in
theorem wrongProc_any (z : Int) (w : World) : Calls Tryz.prog 122 #[.int .i64 z] w fun e w' => e = .returned (errV (Sp.procE z)) ∧ w' = w := by
  by_cases k : z < 0 ∨ 20 ≤ z
  · have e : Hid (Sp.procE z = 1) := Hid.intro (if_pos k)
    by_cases h0 : z < 0
    · clear k
      go_enter Tryz.func122, Tryz.ntmps122
      go_wp2
      go_ret
      rw [e.out]; exact ⟨rfl, rfl⟩
    · have h1 : decide (z < 0) = false := by simp; omega
      have h2 : 20 ≤ z := by omega
      clear k h0
      go_enter Tryz.func122, Tryz.ntmps122
      go_wp2
      go_ret
      rw [e.out]; exact ⟨rfl, rfl⟩
  · have e : Hid (Sp.procE z = 0) := Hid.intro (if_neg k)
    have h1 : decide (z < 0) = false := by simp; omega
    have h2 : decide (20 ≤ z) = false := by simp; omega
    clear k
    go_enter Tryz.func122, Tryz.ntmps122
    go_wp2
    go_ret
    rw [e.out]; exact ⟨rfl, rfl⟩
set_option maxHeartbeats 400000 in
theorem wrongPair_any (b : Nat) (z x : Int) (t : T) (w : World) (h : Tb true w b t) : Calls Tryz.prog 116 #[.pointer (some ⟨b, 0, none⟩), .int .i64 z, .int .i64 x] w fun e w' => e = .returned (errV (Sp.pairE t z x)) ∧ w' = w := by
  have HF := Hid.intro h
  by_cases k : Sp.isE t z = 0
  · have HK := Hid.intro k
    have HE : Hid (Sp.pairE t z x = Sp.procE x) := Hid.intro (if_pos k)
    clear h k
    go_enter Tryz.func116, Tryz.ntmps116
    go_wp2_with fail
    refine (spwrong_any b z t _ HF.out).mono ?_
    rintro e w1 ⟨rfl, hw⟩
    subst w1
    rw [HK.out, errV_zero]
    go_wp2_with fail
    refine (wrongProc_any x _).mono ?_
    rintro e w1 ⟨rfl, hw⟩
    subst w1
    go_wp2_with fail
    go_ret
    rw [HE.out]; exact ⟨rfl, rfl⟩
  · have HE : Hid (Sp.pairE t z x = Sp.isE t z) := Hid.intro (if_neg k)
    have HN := Hid.intro k
    clear h k
    go_enter Tryz.func116, Tryz.ntmps116
    go_wp2_with fail
    refine (spwrong_any b z t _ HF.out).mono ?_
    rintro e w1 ⟨rfl, hw⟩
    subst w1
    rw [errV_ne HN.out]
    go_wp2
    go_ret
    rw [HE.out, errV_ne HN.out]; exact ⟨rfl, rfl⟩
theorem neg1_ne (n : Nat) : ((n : Int) == -1) = false := by simp
set_option maxRecDepth 100000 in
set_option maxHeartbeats 1000000 in
theorem depth_any (b n : Nat) (t : T) (d : Nat → Nat) (w : World) (h : Tb true w b t) (hT : Sp.Tree t d) (hn : n < 6) (hh : t.here n = true) :
    Calls Tryz.prog 114 #[.pointer (some ⟨b, 0, none⟩), .int .i64 n] w fun e w' => e = .returned (.int .i64 (((Sp.W t n).length : Nat) : Int)) ∧ w' = w := by
  have HF := Hid.intro h
  have HT := Hid.intro hT
  have HL : Hid ((Sp.W t n).length ≤ 4) := Hid.intro (by rw [hT.len hn hh]; exact (hT.le n hn hh).2)
  have HH := Hid.intro hh
  clear h hT hh
  go_enter Tryz.func114, Tryz.ntmps114
  go_wp2_with fail
  go_loopw [5, 6] (fun s i wr => ∃ (k : Nat) (z : Int), s = .int .i64 k ∧ i = .int .i64 z ∧ wr = w ∧ Hid (k + (Sp.W t z).length = (Sp.W t n).length ∧ (z = -1 ∨ ∃ m : Nat, z = m ∧ m < 6 ∧ t.here m = true))) (fun _ i _ => (Sp.W t (intOf i)).length)
  case atStart => exact ⟨0, n, rfl, rfl, rfl, by omega, .inr ⟨n, rfl, hn, HH.out⟩⟩
  case round =>
    obtain ⟨k, z, rfl, rfl, hw, HN⟩ := hrel
    subst wr
    rcases HN.out.2 with rfl | ⟨m, rfl, hm, hmh⟩
    · have HE : Hid (k = (Sp.W t n).length) := Hid.intro (by have := HN.out.1; rw [Sp.W_neg t (-1) (by omega)] at this; simpa using this)
      go_wp2_with fail
      go_ret
      rw [← HE.out]; exact ⟨rfl, rfl⟩
    · have HMH := Hid.intro hmh
      have ST := Hid.intro (HT.out.step hm hmh)
      have PC := Hid.intro (HT.out.par_cases hm hmh)
      have c1 := HF.out.cPar m hm
      have hmI : (m : Int) < 6 := by omega
      have hne := neg1_ne m
      have hk4 : k ≤ 4 := by have := HN.out.1; have := HL.out; omega
      clear hmh
      go_wp2_with fail
      go_roundw
      case rel =>
        refine ⟨k + 1, t.par m, by go_num, by first | rfl | trivial, by first | rfl | trivial, ?_, ?_⟩
        · have := HN.out.1
          rw [ST.out, List.length_cons] at this
          omega
        · rcases PC.out with ⟨_, e, _⟩ | ⟨p, p1, p2, p3, _⟩
          · exact .inl e
          · exact .inr ⟨p, p2, p1, p3⟩
      case measure =>
        simp only [intOf]
        rw [ST.out, List.length_cons]
        omega
set_option maxRecDepth 100000 in
set_option maxHeartbeats 400000 in
theorem of_any (b : Nat) (x : Int) (t : T) (w : World) (h : Tb true w b t) : Calls Tryz.prog 76 #[.pointer (some ⟨b, 0, none⟩), .int .i64 x] w fun e w' => e = .returned (.tuple #[.int .i64 (Sp.inN t x : Int), errV (Sp.inE t x)]) ∧ w' = w := by
  by_cases k : Sp.procE x = 0
  · have HK := Hid.intro k
    obtain ⟨n, rfl, hn⟩ := Sp.procE_zero k
    have hnI : (n : Int) < 20 := by omega
    have c := h.ofC n hn
    by_cases o : t.of n = 0
    · have HE : Hid (Sp.inE t n = 2) := Hid.intro (by unfold Sp.inE; rw [if_pos k, Int.toNat_natCast, if_pos o])
      have HN : Hid (Sp.inN t n = 0) := Hid.intro (by unfold Sp.inN; rw [HE.out]; rfl)
      rw [o] at c
      have c' : w.cell? ⟨b, 138 + n, none⟩ = some (.int .i64 (-1)) := c
      clear h k o c
      go_enter Tryz.func76, Tryz.ntmps76
      go_wp2_with fail
      refine (wrongProc_any _ _).mono ?_
      rintro e w1 ⟨rfl, hw⟩
      subst w1
      rw [HK.out, errV_zero]
      go_wp2
      go_ret2
      rw [HE.out, HN.out]; exact ⟨rfl, rfl⟩
    · have HE : Hid (Sp.inE t n = 0) := Hid.intro (by unfold Sp.inE; rw [if_pos k, Int.toNat_natCast, if_neg o])
      have HN : Hid ((Sp.inN t n : Int) = (t.of n : Int) - 1) := Hid.intro (by unfold Sp.inN; rw [HE.out, if_pos rfl, Int.toNat_natCast]; omega)
      obtain ⟨v, hv⟩ : ∃ v, (t.of n : Int) - 1 = v := ⟨_, rfl⟩
      have v0 : (v == -1) = false := by simp; omega
      rw [hv] at c HN
      clear h k o hv
      go_enter Tryz.func76, Tryz.ntmps76
      go_wp2_with fail
      refine (wrongProc_any _ _).mono ?_
      rintro e w1 ⟨rfl, hw⟩
      subst w1
      rw [HK.out, errV_zero]
      go_wp2
      go_ret2
      rw [HE.out, HN.out]; exact ⟨rfl, rfl⟩
  · have HE : Hid (Sp.inE t x = Sp.procE x) := Hid.intro (by unfold Sp.inE; rw [if_neg k])
    have HN : Hid (Sp.inN t x = 0) := Hid.intro (by unfold Sp.inN; rw [HE.out, if_neg k])
    have HW := Hid.intro k
    clear h k
    go_enter Tryz.func76, Tryz.ntmps76
    go_wp2_with fail
    refine (wrongProc_any _ _).mono ?_
    rintro e w1 ⟨rfl, hw⟩
    subst w1
    rw [errV_ne HW.out]
    go_wp2
    go_ret2
    rw [HE.out, HN.out, errV_ne HW.out]; exact ⟨rfl, rfl⟩
def IdxI (f : Nat → Int) (n : Nat) (v r : Int) : Prop := (∃ i : Nat, i < n ∧ f i = v ∧ (∀ j, j < i → f j ≠ v) ∧ r = i) ∨ ((∀ i, i < n → f i ≠ v) ∧ r = -1)
set_option maxRecDepth 100000 in
set_option maxHeartbeats 1000000 in
theorem index_any (b o n cap : Nat) (f : Nat → Int) (v : Int) (w : World) (h : ∀ i, i < n → w.cell? ⟨b, o + i, none⟩ = some (.int .i64 (f i))) (hn : n ≤ 1000) :
    Calls Tryz.prog 142 #[.slice (some ⟨b, o, none⟩) n cap, .int .i64 v] w fun e w' => ∃ r, e = .returned (.int .i64 r) ∧ IdxI f n v r ∧ w' = w := by
  have H := Hid.intro h
  clear h
  go_enter Tryz.func142, Tryz.ntmps142
  go_wp2_with fail
  go_loopw [8] (fun i wr => ∃ (k : Nat), i = .int .i64 k ∧ k ≤ n ∧ wr = w ∧ Hid (∀ j, j < k → f j ≠ v)) (fun i _ => n - (intOf i).toNat)
  case atStart => exact ⟨0, rfl, by omega, rfl, fun j hj => by omega⟩
  case round =>
    obtain ⟨k, rfl, hk, hw, HN⟩ := hrel
    subst wr
    by_cases hlt : k < n
    · have hltI : (k : Int) < (n : Int) := by omega
      have cc := H.out k hlt
      by_cases e : f k = v
      · have HE := Hid.intro e
        rw [e] at cc
        clear e
        go_wp2_with fail
        go_ret
        exact ⟨_, rfl, .inl ⟨k, hlt, HE.out, HN.out, rfl⟩, rfl⟩
      · have HE := Hid.intro e
        generalize hf : f k = u at *
        have HU := Hid.intro hf
        have e1 : (v == u) = false := by simp; exact fun c => HE.out c.symm
        clear e hf
        go_wp2_with fail
        go_roundw
        case rel => exact ⟨k + 1, by go_num, by omega, by first | rfl | trivial, fun j hj => by
          by_cases c : j = k
          · rw [c, HU.out]; exact HE.out
          · exact HN.out j (by omega)⟩
        case measure => simp [intOf]; omega
    · have hltI : ¬ (k : Int) < (n : Int) := by omega
      go_wp2_with fail
      go_ret
      exact ⟨_, rfl, .inr ⟨fun i hi => HN.out i (by omega), rfl⟩, rfl⟩
theorem Tb.row (w : World) (b n : Nat) (t : T) (h : Tb true w b t) (hn : n < 6) (hh : t.here n = true) : ∀ i, i < 21 → w.cell? ⟨b, n * 23 + 2 + i, none⟩ = some (.int .i64 ((t.who n i : Int) - 1)) := fun i hi => h.whoC n i hn hi hh
def pidI (t : T) (n x : Nat) : Int := if Sp.pidOf t n x = 0 then -1 else (Sp.pidOf t n x : Int)
theorem pidI_of {t : T} {n x : Nat} {r : Int} (h0 : t.who n 0 = 0) (h : IdxI (fun i => (t.who n i : Int) - 1) 21 x r) : r = pidI t n x := by
  unfold pidI Sp.pidOf
  rcases h with ⟨i, hi, e, hl, rfl⟩ | ⟨hl, rfl⟩
  · have e' : (t.who n i : Int) - 1 = x := e
    have i0 : i ≠ 0 := fun c => by rw [c, h0] at e'; omega
    rw [Sp.find_at (P := Sp.isP t n x) hi (by unfold Sp.isP; simp; omega) (fun j hj => by have : (t.who n j : Int) - 1 ≠ x := hl j hj; unfold Sp.isP; simp; omega)]
    show (i : Int) = if i = 0 then -1 else (i : Int)
    rw [if_neg i0]
  · rw [Sp.find_no (P := Sp.isP t n x) (fun j hj => by have : (t.who n j : Int) - 1 ≠ x := hl j hj; unfold Sp.isP; simp; omega)]
    rfl
set_option maxRecDepth 100000 in
set_option maxHeartbeats 400000 in
theorem pid_any (b n x : Nat) (t : T) (w : World) (h : Tb true w b t) (hn : n < 6) (hh : t.here n = true) (h0 : t.who n 0 = 0) :
    Calls Tryz.prog 118 #[.pointer (some ⟨b, n * 23, none⟩), .int .i64 x] w fun e w' => e = .returned (.int .i64 (pidI t n x)) ∧ w' = w := by
  have HR := Hid.intro (Tb.row w b n t h hn hh)
  have H0 := Hid.intro h0
  clear h hh h0
  go_enter Tryz.func118, Tryz.ntmps118
  go_wp2_with fail
  refine (index_any b (n * 23 + 2) 21 21 (fun i => (t.who n i : Int) - 1) x _ HR.out (by omega)).mono ?_
  rintro e w1 ⟨r, rfl, hi, hw⟩
  subst w1
  rw [pidI_of H0.out hi]
  clear hi
  go_wp2_with fail
  go_ret
  exact ⟨rfl, rfl⟩
set_option maxRecDepth 100000 in
set_option maxHeartbeats 400000 in
theorem free_any (b n : Nat) (t : T) (w : World) (h : Tb true w b t) (hn : n < 6) (hh : t.here n = true) (hr : ∃ p, 1 ≤ p ∧ p < 21 ∧ t.who n p = 0) :
    Calls Tryz.prog 117 #[.pointer (some ⟨b, n * 23, none⟩)] w fun e w' => e = .returned (.int .i64 (Sp.low t n : Int)) ∧ w' = w := by
  have HR : Hid (∀ i, i < 20 → w.cell? ⟨b, n * 23 + 3 + i, none⟩ = some (.int .i64 ((t.who n (i + 1) : Int) - 1))) := Hid.intro (fun i hi => by
    have := Tb.row w b n t h hn hh (i + 1) (by omega)
    rw [show n * 23 + 2 + (i + 1) = n * 23 + 3 + i by omega] at this
    exact this)
  have HX := Hid.intro hr
  clear h hh hr
  go_enter Tryz.func117, Tryz.ntmps117
  go_wp2_with fail
  refine (index_any b (n * 23 + 3) 20 20 (fun i => (t.who n (i + 1) : Int) - 1) (-1) _ HR.out (by omega)).mono ?_
  rintro e w1 ⟨r, rfl, hi, hw⟩
  subst w1
  obtain ⟨k, hk, rfl, hlow⟩ : ∃ k : Nat, k < 20 ∧ r = k ∧ Sp.low t n = k + 1 := by
    rcases hi with ⟨i, hi, e, hl, rfl⟩ | ⟨hl, rfl⟩
    · have e' : (t.who n (i + 1) : Int) - 1 = -1 := e
      exact ⟨i, hi, rfl, Sp.low_at (by omega) (by omega) (by omega) (fun q q1 q2 c => by
        have : (t.who n (q - 1 + 1) : Int) - 1 ≠ -1 := hl (q - 1) (by omega)
        rw [show q - 1 + 1 = q by omega, c] at this
        exact this rfl)⟩
    · obtain ⟨p, p1, p2, p3⟩ := HX.out
      have : (t.who n (p - 1 + 1) : Int) - 1 ≠ -1 := hl (p - 1) (by omega)
      rw [show p - 1 + 1 = p by omega, p3] at this
      exact absurd rfl this
  have HL := Hid.intro hlow
  clear hi hlow
  have hk' : (k : Int) < 20 := by omega
  go_wp2_with fail
  go_ret
  rw [HL.out]
  refine ⟨?_, rfl⟩
  go_num
set_option maxRecDepth 100000 in
set_option maxHeartbeats 1000000 in
theorem pidT_any (b : Nat) (x z : Int) (t : T) (w : World) (h : Tb true w b t) (h0 : ∀ n, n < 6 → t.who n 0 = 0) :
    Calls Tryz.prog 75 #[.pointer (some ⟨b, 0, none⟩), .int .i64 x, .int .i64 z] w fun e w' => e = .returned (.tuple #[.int .i64 (Sp.pidN t x z : Int), errV (Sp.pidE t x z)]) ∧ w' = w := by
  have HF := Hid.intro h
  have H0 := Hid.intro h0
  by_cases k : Sp.pairE t z x = 0
  · have HK := Hid.intro k
    obtain ⟨n, y, rfl, rfl, hn, hy, hh⟩ := Sp.pairE_zero k
    have HH := Hid.intro hh
    have hnI : (n : Int) < 6 := by omega
    have HE : Hid (Sp.pidE t y n = if Sp.pidOf t n y = 0 then 2 else 0) := Hid.intro (by unfold Sp.pidE; rw [if_pos k, Int.toNat_natCast, Int.toNat_natCast])
    have HN : Hid (Sp.pidN t y n = Sp.pidOf t n y) := Hid.intro (by
      unfold Sp.pidN; rw [HE.out]
      by_cases c : Sp.pidOf t n y = 0
      · rw [if_pos c, if_neg (by decide), c]
      · rw [if_neg c, if_pos rfl, Int.toNat_natCast, Int.toNat_natCast])
    clear h h0 k hh
    go_enter Tryz.func75, Tryz.ntmps75
    go_wp2_with fail
    refine (wrongPair_any b n y t _ HF.out).mono ?_
    rintro e w1 ⟨rfl, hw⟩
    subst w1
    rw [HK.out, errV_zero]
    go_wp2_with fail
    refine (pid_any b n y t _ HF.out hn HH.out (H0.out n hn)).mono ?_
    rintro e w1 ⟨rfl, hw⟩
    subst w1
    unfold pidI
    by_cases c : Sp.pidOf t n y = 0
    · have HC := Hid.intro c
      rw [if_pos c]
      clear c
      go_wp2
      go_ret2
      rw [HE.out, HN.out, HC.out]; exact ⟨rfl, rfl⟩
    · have HC := Hid.intro c
      rw [if_neg c]
      generalize hp : Sp.pidOf t n y = p at *
      have hp1 : decide ((p : Int) < 1) = false := by simp; omega
      clear c hp
      go_wp2
      go_ret2
      rw [HE.out, HN.out, if_neg HC.out]; exact ⟨rfl, rfl⟩
  · have HE : Hid (Sp.pidE t x z = Sp.pairE t z x) := Hid.intro (by unfold Sp.pidE; rw [if_neg k])
    have HN : Hid (Sp.pidN t x z = 0) := Hid.intro (by unfold Sp.pidN; rw [HE.out, if_neg k])
    have HW := Hid.intro k
    clear h k h0
    go_enter Tryz.func75, Tryz.ntmps75
    go_wp2_with fail
    refine (wrongPair_any b z x t _ HF.out).mono ?_
    rintro e w1 ⟨rfl, hw⟩
    subst w1
    rw [errV_ne HW.out]
    go_wp2
    go_ret2
    rw [HE.out, HN.out, errV_ne HW.out]; exact ⟨rfl, rfl⟩
set_option maxRecDepth 100000 in
set_option maxHeartbeats 1000000 in
theorem find_any (b : Nat) (z p : Int) (t : T) (w : World) (h : Tb true w b t) :
    Calls Tryz.prog 46 #[.pointer (some ⟨b, 0, none⟩), .int .i64 z, .int .i64 p] w fun e w' => e = .returned (.tuple #[.int .i64 (Sp.findN t z p : Int), errV (Sp.findE t z p)]) ∧ w' = w := by
  have HF := Hid.intro h
  by_cases k : Sp.isE t z = 0
  · have HK := Hid.intro k
    obtain ⟨n, rfl, hn, hh⟩ := Sp.isE_zero k
    have hnI : (n : Int) < 6 := by omega
    by_cases hp : p < 1 ∨ 20 < p
    · have HE : Hid (Sp.findE t n p = 2) := Hid.intro (by unfold Sp.findE; rw [if_pos k, if_pos (by omega)])
      have HN : Hid (Sp.findN t n p = 0) := Hid.intro (by unfold Sp.findN; rw [HE.out]; rfl)
      by_cases p1 : p < 1
      · clear h k hh hp
        go_enter Tryz.func46, Tryz.ntmps46
        go_wp2_with fail
        refine (spwrong_any b n t _ HF.out).mono ?_
        rintro e w1 ⟨rfl, hw⟩
        subst w1
        rw [HK.out, errV_zero]
        go_wp2
        go_ret2
        rw [HE.out, HN.out]; exact ⟨rfl, rfl⟩
      · have p1' : decide (p < 1) = false := by simp; omega
        have p2 : 21 ≤ p := by omega
        clear h k hh hp p1
        go_enter Tryz.func46, Tryz.ntmps46
        go_wp2_with fail
        refine (spwrong_any b n t _ HF.out).mono ?_
        rintro e w1 ⟨rfl, hw⟩
        subst w1
        rw [HK.out, errV_zero]
        go_wp2
        go_ret2
        rw [HE.out, HN.out]; exact ⟨rfl, rfl⟩
    · obtain ⟨q, rfl⟩ := Int.eq_ofNat_of_zero_le (show 0 ≤ p by omega)
      have cc := h.whoC n q hn (by omega) hh
      have q1 : decide ((q : Int) < 1) = false := by simp; omega
      have q2 : decide (21 ≤ (q : Int)) = false := by simp; omega
      have q3 : (q : Int) < 21 := by omega
      by_cases c : t.who n q = 0
      · have HE : Hid (Sp.findE t n q = 2) := Hid.intro (by unfold Sp.findE; rw [if_pos k, Int.toNat_natCast, Int.toNat_natCast, if_pos (.inr (.inr c))])
        have HN : Hid (Sp.findN t n q = 0) := Hid.intro (by unfold Sp.findN; rw [HE.out]; rfl)
        rw [c] at cc
        have cc' : w.cell? ⟨b, n * 23 + 2 + q, none⟩ = some (.int .i64 (-1)) := cc
        clear h k hh hp c cc
        go_enter Tryz.func46, Tryz.ntmps46
        go_wp2_with fail
        refine (spwrong_any b n t _ HF.out).mono ?_
        rintro e w1 ⟨rfl, hw⟩
        subst w1
        rw [HK.out, errV_zero]
        go_wp2
        go_ret2
        rw [HE.out, HN.out]; exact ⟨rfl, rfl⟩
      · have HE : Hid (Sp.findE t n q = 0) := Hid.intro (by unfold Sp.findE; rw [if_pos k, Int.toNat_natCast, Int.toNat_natCast, if_neg (by omega)])
        have HN : Hid ((Sp.findN t n q : Int) = (t.who n q : Int) - 1) := Hid.intro (by unfold Sp.findN; rw [HE.out, if_pos rfl, Int.toNat_natCast, Int.toNat_natCast]; omega)
        obtain ⟨v, hv⟩ : ∃ v, (t.who n q : Int) - 1 = v := ⟨_, rfl⟩
        have v0 : (v == -1) = false := by simp; omega
        rw [hv] at cc HN
        clear h k hh hp c hv
        go_enter Tryz.func46, Tryz.ntmps46
        go_wp2_with fail
        refine (spwrong_any b n t _ HF.out).mono ?_
        rintro e w1 ⟨rfl, hw⟩
        subst w1
        rw [HK.out, errV_zero]
        go_wp2
        go_ret2
        rw [HE.out, HN.out]; exact ⟨rfl, rfl⟩
  · have HE : Hid (Sp.findE t z p = Sp.isE t z) := Hid.intro (by unfold Sp.findE; rw [if_neg k])
    have HN : Hid (Sp.findN t z p = 0) := Hid.intro (by unfold Sp.findN; rw [HE.out, if_neg k])
    have HW := Hid.intro k
    clear h k
    go_enter Tryz.func46, Tryz.ntmps46
    go_wp2_with fail
    refine (spwrong_any b z t _ HF.out).mono ?_
    rintro e w1 ⟨rfl, hw⟩
    subst w1
    rw [errV_ne HW.out]
    go_wp2
    go_ret2
    rw [HE.out, HN.out, errV_ne HW.out]; exact ⟨rfl, rfl⟩
end Go.Proofs.YtghogbngmcolmaaGreat
namespace Go.Proofs.YtghogbngmcolmaaGreat
open Go.RowKit
open Sp (T)
def memK (t : T) (n k : Nat) : List Nat := ((List.range k).filter (Sp.memP t n)).map (fun p => t.who n p - 1)
theorem memK_yes {t : T} {n k : Nat} (h : t.who n k ≠ 0) : memK t n (k + 1) = memK t n k ++ [t.who n k - 1] := by
  unfold memK
  rw [List.range_succ, List.filter_append, List.map_append]
  simp [Sp.memP, h]
theorem memK_no {t : T} {n k : Nat} (h : t.who n k = 0) : memK t n (k + 1) = memK t n k := by
  unfold memK
  rw [List.range_succ, List.filter_append, List.map_append]
  simp [Sp.memP, h]
theorem memK_len (t : T) (n k : Nat) : (memK t n k).length ≤ k := by
  have := List.length_filter_le (Sp.memP t n) (List.range k)
  simpa [memK] using this
def rowW (t : T) (n : Nat) : List Value := (List.range 21).map (fun p => Value.int .i64 ((t.who n p : Int) - 1))
theorem rowW_len (t : T) (n : Nat) : (rowW t n).length = 21 := by simp [rowW]
theorem Tb.rangeW {w : World} {b n : Nat} {t : T} (h : Tb true w b t) (hn : n < 6) (hh : t.here n = true) : w.rangeAt b (n * 23 + 2) (rowW t n) := fun j v hv => by
  have hj : j < 21 := by have := (List.getElem?_eq_some_iff.1 hv).1; rwa [rowW_len] at this
  rw [h.whoC n j hn hj hh]
  simp [rowW, hj] at hv
  rw [hv]
theorem index_rowW (t : T) (n k : Nat) (hk : k < 21) (w : World) : Sem.run Tryz.prog (Instr.index 45 (Value.agg (rowW t n).toArray) (Value.int IntKind.i64 k)) w = .ok (.int .i64 ((t.who n k : Int) - 1)) w := by
  have hu : Tryz.prog.underlying 45 = some (.array 21 3) := by kernel_rfl
  have h1 : (k : Int) < 21 := by omega
  have hx : (rowW t n)[k]? = some (.int .i64 ((t.who n k : Int) - 1)) := by simp [rowW, hk]
  simp [Instr.index, Sem.run_bind, run_underlying hu, go_sem, hx, hk]
set_option maxRecDepth 100000 in
set_option maxHeartbeats 1000000 in
theorem members_any (b n : Nat) (t : T) (w : World) (h : Tb true w b t) (hn : n < 6) (hh : t.here n = true) :
    Calls Tryz.prog 126 #[.pointer (some ⟨b, n * 23, none⟩)] w fun e w' => ∃ v, e = .returned v ∧ LO w (Sp.memb t n) v w' := by
  obtain ⟨i0, hi, hz0, hz1, hz2⟩ := info_parts info3
  have HR := Hid.intro (h.rangeW hn hh)
  have hsz : Hid ((Tryz.prog.info? 45).map (·.size) = some (rowW t n).length) := Hid.intro (by rw [rowW_len]; kernel_rfl)
  clear h hh
  go_enter Tryz.func126, Tryz.ntmps126
  go_wp2_with (refine wpList_load_mid rfl 45 _ rfl b (n * 23 + 2) rfl (rowW t n) (.array 21 3) HR.out (by kernel_rfl) rfl hsz.out ?_)
  go_loopw [3, 10] (fun l i wr => ∃ (k : Nat), i = .int .i64 k ∧ k ≤ 21 ∧ Hid (LO w (memK t n k) l wr)) (fun _ i _ => 21 - (intOf i).toNat)
  case atStart => exact ⟨0, rfl, by omega, LO.nil w⟩
  case round =>
    obtain ⟨k, rfl, hk, R⟩ := hrel
    by_cases hlt : k < 21
    · have hltI : (k : Int) < 21 := by omega
      have hix := index_rowW t n k hlt wr
      by_cases c : t.who n k = 0
      · have HM := Hid.intro (memK_no c)
        rw [c] at hix
        have hix' : Sem.run Tryz.prog (Instr.index 45 (Value.agg (rowW t n).toArray) (Value.int IntKind.i64 k)) wr = .ok (.int .i64 (-1)) wr := hix
        clear c hix
        go_wp2_with fail
        go_roundw
        case rel => exact ⟨k + 1, by go_num, by omega, by rw [HM.out]; exact R⟩
        case measure => simp [intOf]; omega
      · have HM := Hid.intro (memK_yes c)
        obtain ⟨x, hx⟩ : ∃ x, t.who n k - 1 = x := ⟨_, rfl⟩
        rw [hx] at HM
        rw [show (t.who n k : Int) - 1 = (x : Int) by omega] at hix
        have hne := neg1_ne x
        obtain ⟨a, cap, hv⟩ := own_form R.out.own
        rw [hv]
        have HV := Hid.intro hv
        have hlm := memK_len t n k
        generalize hN : (memK t n k).length = N at *
        have HN := Hid.intro hN
        clear hv hN c hx
        go_wp2_with (at_builtin; refine wpList_append_lies _ rfl _ _ 55 (by rfl) w.heap.size 3 i0 (.int .i64 0) 1 8 Tryz.underlying55 hi hz0 hz1 hz2 rfl (by decide) (.slice a N cap) N (rowOf (memK t n k)) (by rfl) (by rw [← HV.out, ← HN.out]; exact R.out.own.alloc _) ⟨wr.heap.size, 0, none⟩ 1 1 [.int .i64 x] (by rfl) rfl (cell_one_new _ _ _) (by simp [Value.oneCell']) (by decide) (by unfold maxLen; omega) (by omega) (by have := R.out.bel.size; simp; omega) (wr.heap.size + 1) (by simp) ?_; intro gg cap2 w1 hown hgrow hat hlt2; have Q1 : Hid (LO w (memK t n k ++ [x]) (.slice (some ⟨gg, 0, none⟩) (N + 1) cap2) w1) := R.out.more HN.out hown _ (by rw [HV.out]; exact hgrow); clear hown hgrow hat hlt2)
        go_roundw
        case rel => exact ⟨k + 1, by go_num, by omega, by rw [HM.out]; exact Q1⟩
        case measure => simp [intOf]; omega
    · have hk21 : k = 21 := by omega
      subst hk21
      go_wp2
      go_ret
      exact ⟨_, rfl, R.out⟩
def membL (t : T) (z : Int) : List Nat := if Sp.isE t z = 0 then Sp.memb t z.toNat else []
set_option maxRecDepth 100000 in
set_option maxHeartbeats 400000 in
theorem membersT_any (b : Nat) (z : Int) (t : T) (w : World) (h : Tb true w b t) :
    Calls Tryz.prog 125 #[.pointer (some ⟨b, 0, none⟩), .int .i64 z] w fun e w' => ∃ v, e = .returned (.tuple #[v, errV (Sp.isE t z)]) ∧ LO w (membL t z) v w' := by
  have HF := Hid.intro h
  by_cases k : Sp.isE t z = 0
  · have HK := Hid.intro k
    obtain ⟨n, rfl, hn, hh⟩ := Sp.isE_zero k
    have HH := Hid.intro hh
    have hnI : (n : Int) < 6 := by omega
    clear h k hh
    go_enter Tryz.func125, Tryz.ntmps125
    go_wp2_with fail
    refine (spwrong_any b n t _ HF.out).mono ?_
    rintro e w1 ⟨rfl, hw⟩
    subst w1
    rw [HK.out, errV_zero]
    go_wp2_with fail
    refine (members_any b n t _ HF.out hn HH.out).mono ?_
    rintro e w1 ⟨v, rfl, hL⟩
    have HL := Hid.intro hL
    clear hL
    go_wp2_with fail
    go_ret2
    exact ⟨v, by rw [HK.out]; rfl, by unfold membL; rw [if_pos HK.out, Int.toNat_natCast]; exact HL.out⟩
  · have HW := Hid.intro k
    clear h k
    go_enter Tryz.func125, Tryz.ntmps125
    go_wp2_with fail
    refine (spwrong_any b z t _ HF.out).mono ?_
    rintro e w1 ⟨rfl, hw⟩
    subst w1
    rw [errV_ne HW.out]
    go_wp2
    go_ret2
    exact ⟨_, by rw [errV_ne HW.out]; rfl, by unfold membL; rw [if_neg HW.out]; exact LO.nil w⟩
end Go.Proofs.YtghogbngmcolmaaGreat
namespace Go.Proofs.YtghogbngmcolmaaGreat
open Go.RowKit
open Sp (T)
def mkF (k i : Nat) : Int := if i < k then -1 else 0
theorem mkF_up (k : Nat) : Sp.upI (mkF k) k (-1) = mkF (k + 1) := by
  funext i
  unfold Sp.upI mkF
  by_cases e : i = k
  · rw [if_pos e, if_pos (by omega)]
  · rw [if_neg e]
    by_cases c : i < k
    · rw [if_pos c, if_pos (by omega)]
    · rw [if_neg c, if_neg (by omega)]
section
variable {ops : Array Oper} {rest : List Oper} {x : Oper} {a : Act} {w : World} {Q : Exit → Act → World → Prop}
theorem wpList_alloc_sp (hgd : x.guard = none) (ho : x.op = .alloc 143) (h : wpList Tryz.prog ops Q rest (a.put x.dst (.pointer (some ⟨w.heap.size, 0, none⟩))) (w.alloc (.cells (spA false 0 (mkF 0)) 143))) : wpList Tryz.prog ops Q (x :: rest) a w :=
  wpList_plain hgd fun _ hK => by
    unfold Oper.wp execOp
    simp only [ho]
    simp [go_sem]
    exact hK _ _ h
theorem wpList_build_sp0 (hgd : x.guard = none) (ho : x.op = .build 143 #[]) (h : wpList Tryz.prog ops Q rest (a.put x.dst (.agg (spA false 0 (mkF 0)))) w) : wpList Tryz.prog ops Q (x :: rest) a w :=
  wpList_plain hgd fun _ hK => by
    unfold Oper.wp execOp
    simp only [ho]
    simp [go_sem]
    exact hK _ _ h
theorem wpList_build_sp2 (hgd : x.guard = none) (y : Operand) (p : Int) (ho : x.op = .build 143 #[(0, .const (.bool true)), (1, y)]) (hy : a.eval y = .int .i64 p) (h : wpList Tryz.prog ops Q rest (a.put x.dst (.agg (spA true p (mkF 0)))) w) : wpList Tryz.prog ops Q (x :: rest) a w :=
  wpList_plain hgd fun _ hK => by
    unfold Oper.wp execOp
    simp only [ho, List.map_toArray, List.map_cons, List.map_nil, hy, BigFrame.eval_const]
    simp [go_sem]
    exact hK _ _ h
end
end Go.Proofs.YtghogbngmcolmaaGreat
namespace Go.Proofs.YtghogbngmcolmaaGreat
open Go.RowKit
open Sp (T)
theorem there_new (w : World) (cs : Array Value) (T : TypeId) (k : Nat) (hk : k ≤ cs.size) : (w.alloc (.cells cs T)).there w.heap.size 0 k := fun j hj => by
  have h := heap_alloc_new w (.cells cs T)
  exact ⟨by rw [cell_blk h, Array.getElem?_eq_getElem (by omega)]; rfl, frozen_blk h _⟩
def rowS (t : T) : List Value := (List.range 138).map (cellT true t)
theorem rowS_len (t : T) : (rowS t).length = 138 := by simp [rowS]
theorem Tb.rangeS {w : World} {b : Nat} {t : T} (h : Tb true w b t) : w.rangeAt b 0 (rowS t) := fun j v hv => by
  have hj : j < 138 := by have := (List.getElem?_eq_some_iff.1 hv).1; rwa [rowS_len] at this
  rw [Nat.zero_add, h.cell j (by omega)]
  simp [rowS, hj] at hv
  rw [hv]
def spOf (t : T) (k : Nat) : Array Value := spA (t.here k) (t.par k) (fun p => cw true (t.here k) (t.who k p))
theorem rowS_ex (t : T) (k : Nat) (hk : k < 6) : (rowS t).toArray.extract (k * 23) (k * 23 + 23) = spOf t k := by
  apply Array.ext_getElem?
  intro i
  rw [Array.getElem?_extract]
  by_cases hi : i < 23
  · rw [if_pos (by simp [rowS_len]; omega)]
    unfold spOf
    rw [spA_at _ _ _ i hi]
    have : (rowS t).toArray[k * 23 + i]? = some (cellT true t (k * 23 + i)) := by rw [List.getElem?_toArray, rowS, List.getElem?_map, List.getElem?_range (by omega)]; rfl
    rw [this]
    by_cases e0 : i = 0
    · subst e0; rw [if_pos rfl, Nat.add_zero, cellT_here true t k hk]
    · by_cases e1 : i = 1
      · subst e1; rw [if_neg (by omega), if_pos rfl, cellT_par true t k hk]
      · rw [if_neg e0, if_neg e1]
        have := cellT_who true t k (i - 2) hk (by omega)
        rw [show k * 23 + 2 + (i - 2) = k * 23 + i by omega] at this
        rw [this]
  · rw [if_neg (by simp [rowS_len]; omega), Array.getElem?_eq_none (by unfold spOf; rw [spA_size]; omega)]
theorem index_rowS (t : T) (k : Nat) (hk : k < 6) (w : World) : Sem.run Tryz.prog (Instr.index 144 (Value.agg (rowS t).toArray) (Value.int IntKind.i64 k)) w = .ok (.agg (spOf t k)) w := by
  have hu : Tryz.prog.underlying 144 = some (.array 6 143) := by kernel_rfl
  have h1 : (k : Int) < 6 := by omega
  have hx := rowS_ex t k hk
  simp at hx
  simp [Instr.index, Sem.run_bind, run_underlying hu, go_sem, hx, hk]
theorem spOf_size (t : T) (k : Nat) : (spOf t k).size = 23 := spA_size _ _ _
theorem spOf_one (t : T) (k : Nat) : (spOf t k).all (·.oneCell') = true := spA_one _ _ _
theorem new_space {w w0 : World} (hb : Below w0.heap.size w0 w) (cs : Array Value) (T : TypeId) (hs : cs.size = 23) (t : Sp.T) (k : Nat) :
    ((w.alloc (.cells cs T)).setCells w.heap.size 0 (spOf t k).toList).cell? ⟨w.heap.size, 0, none⟩ = some (.bool (t.here k)) ∧ ((w.alloc (.cells cs T)).setCells w.heap.size 0 (spOf t k).toList).cell? ⟨w.heap.size, 1, none⟩ = some (.int .i64 (t.par k)) ∧ Below w0.heap.size w0 ((w.alloc (.cells cs T)).setCells w.heap.size 0 (spOf t k).toList) := by
  have ht := there_new w cs T 23 (by omega)
  have hl : (spOf t k).toList.length = 23 := by rw [Array.length_toList, spOf_size]
  have hin : ∀ j, j < 23 → ((w.alloc (.cells cs T)).setCells w.heap.size 0 (spOf t k).toList).cell? ⟨w.heap.size, 0 + j, none⟩ = (spOf t k)[j]? := fun j hj => by
    rw [World.cell?_setCells_in w.heap.size (spOf t k).toList 0 _ (fun i hi => (ht i (by omega)).1) j (by omega), ← Array.getElem?_toList, List.getElem?_eq_getElem (by omega)]
  refine ⟨?_, ?_, ?_⟩
  · have := hin 0 (by omega); rw [Nat.zero_add] at this; rw [this]; exact spA_at _ _ _ 0 (by omega)
  · have := hin 1 (by omega); rw [Nat.zero_add] at this; rw [this]; exact spA_at _ _ _ 1 (by omega)
  · have f : Frm w.heap.size w0 ((w.alloc (.cells cs T)).setCells w.heap.size 0 (spOf t k).toList) := Frm.setCells _ _ (Frm.of_below (hb.alloc hb.size _))
    have hsz := hb.size
    exact ⟨f.os, f.tape, f.output, f.size, fun j hj => f.block j hj (by omega)⟩
set_option maxRecDepth 100000 in
set_option maxHeartbeats 1000000 in
theorem above_any (b n : Nat) (t : T) (w : World) (h : Tb true w b t) :
    Calls Tryz.prog 127 #[.pointer (some ⟨b, 0, none⟩), .int .i64 n] w fun e w' => e = .returned (.bool (Sp.kids t n)) ∧ Below w.heap.size w w' := by
  have HR := Hid.intro h.rangeS
  have hsz : Hid ((Tryz.prog.info? 144).map (·.size) = some (rowS t).length) := Hid.intro (by rw [rowS_len]; kernel_rfl)
  have hs1 : Hid (∀ k, (Tryz.prog.info? 143).map (·.size) = some (spOf t k).size) := Hid.intro (fun k => by rw [spOf_size]; kernel_rfl)
  clear h
  go_enter Tryz.func127, Tryz.ntmps127
  go_wp2_with (refine wpList_load_mid rfl 144 _ rfl b 0 rfl (rowS t) (.array 6 143) HR.out (by kernel_rfl) rfl hsz.out ?_)
  go_loopw [11] (fun i wr => ∃ (k : Nat), i = .int .i64 k ∧ k ≤ 6 ∧ Hid (Below w.heap.size w wr ∧ ∀ j, j < k → Sp.kidP t n j = false)) (fun i _ => 6 - (intOf i).toNat)
  case atStart => exact ⟨0, rfl, by omega, Below.refl _ _, fun j hj => by omega⟩
  case round =>
    obtain ⟨k, rfl, hk, R⟩ := hrel
    by_cases hlt : k < 6
    · have hltI : (k : Int) < 6 := by omega
      have hix := index_rowS t k hlt wr
      have HKB : Hid (Sp.kidP t n k = (t.here k && decide (t.par k = (n : Int)))) := Hid.intro rfl
      have NX : Hid (Sp.kidP t n k = false → ∀ j, j < k + 1 → Sp.kidP t n j = false) := Hid.intro (fun c j hj => by
        by_cases e : j = k
        · rw [e]; exact c
        · exact R.out.2 j (by omega))
      have NSP := Hid.intro (new_space R.out.1 (spA false 0 (mkF 0)) 143 (spA_size _ _ _) t k)
      have HHK : Hid (Sp.kidP t n k = true → Sp.kids t n = true) := Hid.intro (fun c => by unfold Sp.kids; exact List.any_eq_true.2 ⟨k, List.mem_range.2 hlt, c⟩)
      generalize t.here k = hh at *
      generalize t.par k = pp at *
      cases hh
      · go_wp2_with (first | (refine wpList_alloc_sp rfl rfl ?_) | (refine wpList_store_mid rfl 143 _ _ rfl wr.heap.size 0 (spOf t k) rfl rfl (by rw [spOf_size]; exact there_new _ _ _ 23 (by rw [spA_size]; exact Nat.le_refl _)) (hs1.out k) (spOf_one t k) ?_; generalize hW : World.setCells _ _ _ _ = W2; obtain ⟨n0, n1⟩ : W2.cell? ⟨wr.heap.size, 0, none⟩ = some _ ∧ W2.cell? ⟨wr.heap.size, 1, none⟩ = some _ := (by rw [← hW]; exact ⟨NSP.out.1, NSP.out.2.1⟩); have NB : Hid (Below w.heap.size w W2) := Hid.intro (by rw [← hW]; exact NSP.out.2.2); clear hW))
        go_roundw
        case rel => exact ⟨k + 1, by go_num, by omega, NB.out, NX.out (by rw [HKB.out]; rfl)⟩
        case measure => simp [intOf]; omega
      · by_cases hp : pp = (n : Int)
        · subst hp
          go_wp2_with (first | (refine wpList_alloc_sp rfl rfl ?_) | (refine wpList_store_mid rfl 143 _ _ rfl wr.heap.size 0 (spOf t k) rfl rfl (by rw [spOf_size]; exact there_new _ _ _ 23 (by rw [spA_size]; exact Nat.le_refl _)) (hs1.out k) (spOf_one t k) ?_; generalize hW : World.setCells _ _ _ _ = W2; obtain ⟨n0, n1⟩ : W2.cell? ⟨wr.heap.size, 0, none⟩ = some _ ∧ W2.cell? ⟨wr.heap.size, 1, none⟩ = some _ := (by rw [← hW]; exact ⟨NSP.out.1, NSP.out.2.1⟩); have NB : Hid (Below w.heap.size w W2) := Hid.intro (by rw [← hW]; exact NSP.out.2.2); clear hW))
          go_ret
          exact ⟨ret_bool (HHK.out (by rw [HKB.out]; simp)).symm, NB.out⟩
        · have hp' : (pp == (n : Int)) = false := by simp; exact hp
          go_wp2_with (first | (refine wpList_alloc_sp rfl rfl ?_) | (refine wpList_store_mid rfl 143 _ _ rfl wr.heap.size 0 (spOf t k) rfl rfl (by rw [spOf_size]; exact there_new _ _ _ 23 (by rw [spA_size]; exact Nat.le_refl _)) (hs1.out k) (spOf_one t k) ?_; generalize hW : World.setCells _ _ _ _ = W2; obtain ⟨n0, n1⟩ : W2.cell? ⟨wr.heap.size, 0, none⟩ = some _ ∧ W2.cell? ⟨wr.heap.size, 1, none⟩ = some _ := (by rw [← hW]; exact ⟨NSP.out.1, NSP.out.2.1⟩); have NB : Hid (Below w.heap.size w W2) := Hid.intro (by rw [← hW]; exact NSP.out.2.2); clear hW))
          go_roundw
          case rel => exact ⟨k + 1, by go_num, by omega, NB.out, NX.out (by rw [HKB.out, decide_eq_false hp]; simp)⟩
          case measure => simp [intOf]; omega
    · have hltI : ¬ (k : Int) < 6 := by omega
      go_wp2_with fail
      go_ret
      refine ⟨ret_bool ?_, R.out.1⟩
      cases hk2 : Sp.kids t n
      · rfl
      · obtain ⟨j, hj, kj⟩ := List.any_eq_true.1 hk2
        rw [R.out.2 j (by have := List.mem_range.1 hj; omega)] at kj; cases kj
structure SpNS (w W : World) (b2 b3 : Nat) (p : Int) (k : Nat) : Prop where
  bel : Below w.heap.size w W
  le : w.heap.size ≤ b2
  ne : b2 < b3
  two : ∃ cs, W.heap[b2]? = some (.cells cs 143 (0, 0)) ∧ cs.size = 23
  tre : W.heap[b3]? = some (.cells (spA true p (mkF k)) 143 (0, 0))
theorem SpNS.set {w W : World} {b2 b3 : Nat} {p : Int} {k : Nat} (h : SpNS w W b2 b3 p k) (hk : k < 21) : SpNS w (W.setCell ⟨b3, 2 + k, none⟩ (.int .i64 (-1))) b2 b3 p (k + 1) := by
  have h1 := h.le
  have h2 := h.ne
  refine ⟨h.bel.setCell (by show _ ≤ b3; omega) _, h1, h2, ?_, ?_⟩
  · obtain ⟨cs, c1, c2⟩ := h.two
    exact ⟨cs, (setBlk _ _ _ _ (by omega)).trans c1, c2⟩
  · rw [blk_set h.tre, spA_set _ _ _ k (-1) hk, mkF_up]
theorem heap_setCells_full (b : Nat) (T : TypeId) (vs : List Value) (w : World) (C : Array Value) (h : w.heap[b]? = some (.cells C T (0, 0))) (hs : C.size = vs.length) : (w.setCells b 0 vs).heap[b]? = some (.cells vs.toArray T (0, 0)) := by
  obtain ⟨C', h1, h2⟩ := heap_setCells_blk b vs 0 w C h
  rw [h1]
  congr 2
  apply Array.ext_getElem?
  intro i
  by_cases hi : i < vs.length
  · have := World.cell?_setCells_in b vs 0 w (fun j hj => by rw [cell_blk h, Array.getElem?_eq_getElem (by omega)]; rfl) i hi
    rw [cell_blk h1, Nat.zero_add] at this
    rw [this, List.getElem?_toArray, List.getElem?_eq_getElem hi]
  · rw [Array.getElem?_eq_none (by omega), Array.getElem?_eq_none (by simp; omega)]
theorem SpNS.start (w : World) (p : Int) : SpNS w (((w.alloc (.cells (spA false 0 (mkF 0)) 143)).alloc (.cells (spA false 0 (mkF 0)) 143)).setCells (w.alloc (.cells (spA false 0 (mkF 0)) 143)).heap.size 0 (spA true p (mkF 0)).toList) w.heap.size (w.alloc (.cells (spA false 0 (mkF 0)) 143)).heap.size p 0 := by
  have e1 : (w.alloc (.cells (spA false 0 (mkF 0)) 143)).heap.size = w.heap.size + 1 := by simp
  have f : Frm (w.alloc (.cells (spA false 0 (mkF 0)) 143)).heap.size w (((w.alloc (.cells (spA false 0 (mkF 0)) 143)).alloc (.cells (spA false 0 (mkF 0)) 143)).setCells (w.alloc (.cells (spA false 0 (mkF 0)) 143)).heap.size 0 (spA true p (mkF 0)).toList) := Frm.setCells _ _ (Frm.of_below (((Below.refl _ w).alloc (Nat.le_refl _) _).alloc (by simp) _))
  refine ⟨⟨f.os, f.tape, f.output, f.size, fun j hj => f.block j hj (by omega)⟩, Nat.le_refl _, by omega, ⟨_, ?_, spA_size false 0 (mkF 0)⟩, ?_⟩
  · rw [heap_setCells_ne _ _ _ _ _ (by omega)]
    rw [Below.heap_alloc _ _ _ (by omega)]
    exact heap_alloc_new w _
  · have := heap_setCells_full (w.alloc (.cells (spA false 0 (mkF 0)) 143)).heap.size 143 (spA true p (mkF 0)).toList ((w.alloc (.cells (spA false 0 (mkF 0)) 143)).alloc (.cells (spA false 0 (mkF 0)) 143)) _ (heap_alloc_new _ _) (by rw [spA_size, spA_len])
    rw [this]
theorem SpNS.range {w W : World} {b2 b3 : Nat} {p : Int} {k : Nat} (h : SpNS w W b2 b3 p k) : W.rangeAt b3 0 (spA true p (mkF k)).toList := fun j v hv => by
  rw [Nat.zero_add, cell_blk h.tre, ← Array.getElem?_toList, hv]
theorem SpNS.there {w W : World} {b2 b3 : Nat} {p : Int} {k : Nat} (h : SpNS w W b2 b3 p k) (n : Nat) (hn : n = 23) : W.there b2 0 n := by
  obtain ⟨cs, c1, c2⟩ := h.two
  intro j hj
  exact ⟨by rw [cell_blk c1, Array.getElem?_eq_getElem (by omega)]; rfl, frozen_blk c1 _⟩
theorem SpNS.start' (w : World) (p : Int) : SpNS w (((w.alloc (.cells (spA false 0 (mkF 0)) 143)).alloc (.cells (spA false 0 (mkF 0)) 143)).setCells (w.heap.size + 1) 0 (spA true p (mkF 0)).toList) w.heap.size (w.heap.size + 1) p 0 := by
  have := SpNS.start w p
  rw [show (w.alloc (.cells (spA false 0 (mkF 0)) 143)).heap.size = w.heap.size + 1 by simp] at this
  exact this
theorem SpNS.cell {w W : World} {b2 b3 : Nat} {p : Int} {k : Nat} (h : SpNS w W b2 b3 p k) (hk : k < 21) : W.cell? ⟨b3, 2 + k, none⟩ = some (.int .i64 (mkF k k)) := by
  rw [cell_blk h.tre, spA_at _ _ _ (2 + k) (by omega), if_neg (by omega), if_neg (by omega), show 2 + k - 2 = k by omega]
theorem SpNS.fz {w W : World} {b2 b3 : Nat} {p : Int} {k : Nat} (h : SpNS w W b2 b3 p k) (o : Nat) : W.frozen? ⟨b3, o, none⟩ = false := frozen_blk h.tre o
theorem SpNS.done {w W : World} {b2 b3 : Nat} {p : Int} {k : Nat} (h : SpNS w W b2 b3 p k) (cs : List Value) (hc : cs.length = 23) : (W.setCells b2 0 cs).rangeAt b2 0 cs ∧ Below w.heap.size w (W.setCells b2 0 cs) := by
  refine ⟨World.rangeAt_setCells_same _ _ _ _ (h.there _ hc), ?_⟩
  have f : Frm b2 W (W.setCells b2 0 cs) := Frm.setCells _ _ (Frm.refl _ _)
  exact f.below h.bel h.le h.bel.size
set_option maxRecDepth 100000 in
set_option maxHeartbeats 1000000 in
theorem newSpace_any (p : Int) (w : World) :
    Calls Tryz.prog 97 #[.int .i64 p] w fun e w' => e = .returned (.agg (spA true p (mkF 21))) ∧ Below w.heap.size w w' := by
  have hs1 : Hid ((Tryz.prog.info? 143).map (·.size) = some (spA true p (mkF 0)).size) := Hid.intro (by rw [spA_size]; kernel_rfl)
  have hs2 : Hid ((Tryz.prog.info? 143).map (·.size) = some (spA true p (mkF 21)).toList.length) := Hid.intro (by rw [spA_len]; kernel_rfl)
  have hs3' : Hid ((Tryz.prog.info? 143).map (·.size) = some (spA true p (mkF 21)).size) := Hid.intro (by rw [spA_size]; kernel_rfl)
  have S0 := Hid.intro (SpNS.start' w p)
  go_enter Tryz.func97, Tryz.ntmps97
  go_wp2_with (first | (refine wpList_alloc_sp rfl rfl ?_) | (refine wpList_build_sp2 rfl _ p rfl rfl ?_) | (refine wpList_store_mid rfl 143 _ _ rfl _ 0 (spA true p (mkF 0)) rfl rfl (by rw [spA_size]; exact there_new _ _ _ 23 (by rw [spA_size]; exact Nat.le_refl _)) hs1.out (spA_one _ _ _) ?_))
  refine wp_gen (fun W => SpNS w W w.heap.size (w.heap.size + 1) p 0) S0.out ?_
  intro W1 h1
  have S1 := Hid.intro h1
  clear h1 S0 hs1
  generalize w.heap.size + 1 = b3 at *
  obtain ⟨b2, hb2⟩ : ∃ b2, w.heap.size = b2 := ⟨_, rfl⟩
  rw [hb2] at S1 ⊢
  have HB2 := Hid.intro hb2
  clear hb2
  go_loopw [7] (fun i wr => ∃ (k : Nat), i = .int .i64 k ∧ k ≤ 21 ∧ Hid (SpNS w wr b2 b3 p k)) (fun i _ => 21 - (intOf i).toNat)
  case atStart => exact ⟨0, rfl, by omega, S1⟩
  case round =>
    clear S1
    obtain ⟨k, rfl, hk, S⟩ := hrel
    by_cases hlt : k < 21
    · have hltI : (k : Int) < 21 := by omega
      have c0 := S.out.cell hlt
      have cf := S.out.fz
      go_wp2_with fail
      go_roundw
      case rel => exact ⟨k + 1, by go_num, by omega, S.out.set hlt⟩
      case measure => simp [intOf]; omega
    · have hk21 : k = 21 := by omega
      subst hk21
      obtain ⟨A, hA⟩ : ∃ A, spA true p (mkF 21) = A := ⟨_, rfl⟩
      have hl : Hid (A.toList.length = 23) := Hid.intro (by rw [← hA]; exact spA_len _ _ _)
      have hr : Hid (wr.rangeAt b3 0 A.toList) := Hid.intro (by rw [← hA]; exact S.out.range)
      have h1 : Hid (A.all (·.oneCell') = true) := Hid.intro (by rw [← hA]; exact spA_one _ _ _)
      have ht : Hid (wr.there b2 0 A.size) := Hid.intro (S.out.there _ (by rw [← hA]; exact spA_size _ _ _))
      have hD := Hid.intro (S.out.done A.toList hl.out)
      rw [hA] at hs2
      have hs3 : Hid ((Tryz.prog.info? 143).map (·.size) = some A.size) := Hid.intro (by rw [← hA]; exact hs3'.out)
      have HA := Hid.intro hA
      clear hA S
      go_wp2_with (first | (refine wpList_load_mid rfl 143 _ rfl b3 0 rfl A.toList _ hr.out Tryz.underlying143 rfl hs2.out ?_; rw [Array.toArray_toList]) | (refine wpList_store_mid rfl 143 _ _ rfl b2 0 A rfl rfl ht.out hs3.out h1.out ?_))
      have hld := run_loadVar_mid (P := Tryz.prog) (wr.setCells b2 0 A.toList) b2 0 143 A.toList _ hD.out.1 Tryz.underlying143 rfl hs2.out
      rw [Array.toArray_toList] at hld
      generalize hW : World.setCells _ _ _ _ = W2 at *
      refine bodyPost_ret (v := .agg A) (by simp [results, Tryz.results97, Act.put, asAddr, hld]) rfl ⟨by rw [HA.out], hD.out.2⟩
end Go.Proofs.YtghogbngmcolmaaGreat

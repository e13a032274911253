/- The code's memory: a new one; May, Wants, Frame, Resident. -/
import Derived.Test.YtnppahmlifnnnabNb
namespace Go.Proofs.Ytnppahmlifnnnab
open Go.RowKit
open Bd (P)
open Mv (Me Bk)

section
attribute [local go_sem] div8
set_option maxRecDepth 100000 in
set_option maxHeartbeats 1000000 in
theorem vmay_any (b r : Nat) (z : Int) (wr : Bool) (m : Me) (w : World) (h : UAt w b r m) :
    Calls Try.prog 31 #[.pointer (some ⟨b, 0, none⟩), .int .i64 z, .bool wr] w fun e w' => e = .returned (.bool (Mv.mayB m z wr)) ∧ Below w.heap.size w w' := by
  have BL : Hid (∀ o, Below w.heap.size w (w.alloc o)) := Hid.intro (fun o => (Below.refl _ _).alloc (Nat.le_refl _) o)
  by_cases k : z < 0 ∨ 127 < z
  · have HE : Hid (Mv.mayB m z wr = false) := Hid.intro (if_pos k)
    by_cases h0 : z < 0
    · clear k h
      go_enter Try.func31, Try.ntmps31
      go_wp2
      go_ret
      exact ⟨ret_bool HE.out.symm, Below.refl _ _⟩
    · have h1 : decide (z < 0) = false := decide_eq_false h0
      have h2 : 128 ≤ z := by omega
      clear k h0 h
      go_enter Try.func31, Try.ntmps31
      go_wp2
      go_ret
      exact ⟨ret_bool HE.out.symm, Below.refl _ _⟩
  · obtain ⟨x, rfl⟩ := Int.eq_ofNat_of_zero_le (show 0 ≤ z by omega)
    have h2 : decide (128 ≤ (x : Int)) = false := by simp; omega
    have c1 := h.cIs (x / 8) (by omega)
    have c2 := h.cFr (x / 8) (by omega)
    have h8 : (x : Int) / 8 < 16 := by omega
    have h80 : (0 : Int) ≤ (x : Int) / 8 := by omega
    have HE : Hid (Mv.mayB m x wr = (decide (m.is (x / 8) = 2) || (decide (m.is (x / 8) = 1) && !wr))) := Hid.intro (by unfold Mv.mayB; rw [if_neg k, Int.toNat_natCast])
    obtain ⟨u, hu⟩ : ∃ u, m.is (x / 8) = u := ⟨_, rfl⟩
    rw [hu] at c1 HE
    clear k h hu
    by_cases e2 : u = 2
    · subst e2
      go_enter Try.func31, Try.ntmps31
      go_wp2_with fail
      go_ret
      exact ⟨ret_bool (by rw [HE.out]; rfl), BL.out _⟩
    · have e2' : ((u : Int) == 2) = false := by simp; omega
      by_cases e1 : u = 1
      · subst e1
        cases wr
        · go_enter Try.func31, Try.ntmps31
          go_wp2_with fail
          go_ret
          exact ⟨ret_bool (by rw [HE.out]; rfl), BL.out _⟩
        · go_enter Try.func31, Try.ntmps31
          go_wp2_with fail
          go_ret
          exact ⟨ret_bool (by rw [HE.out]; rfl), BL.out _⟩
      · have e1' : ((u : Int) == 1) = false := by simp; omega
        go_enter Try.func31, Try.ntmps31
        go_wp2_with fail
        go_ret
        exact ⟨ret_bool (by rw [HE.out, decide_eq_false e2, decide_eq_false e1]; rfl), BL.out _⟩
set_option maxRecDepth 100000 in
set_option maxHeartbeats 1000000 in
theorem vwants_any (b r : Nat) (z : Int) (m : Me) (w : World) (h : UAt w b r m) :
    Calls Try.prog 35 #[.pointer (some ⟨b, 0, none⟩), .int .i64 z] w fun e w' => e = .returned (.bool (Mv.wantsB m z)) ∧ Below w.heap.size w w' := by
  have HF := Hid.intro h
  cases hm : Mv.mayB m z false
  · have HE : Hid (Mv.wantsB m z = false ∧ Mv.mayB m z false = false) := Hid.intro ⟨by unfold Mv.wantsB; rw [hm]; rfl, hm⟩
    clear h hm
    go_enter Try.func35, Try.ntmps35
    go_wp2_with fail
    refine (vmay_any b r z false m _ HF.out).mono ?_
    rintro e w1 ⟨rfl, hb⟩
    have HB := Hid.intro hb
    clear hb
    rw [HE.out.2]
    go_wp2_with fail
    go_ret
    exact ⟨ret_bool HE.out.1.symm, HB.out⟩
  · have hz : ¬ (z < 0 ∨ 127 < z) := fun c => by unfold Mv.mayB at hm; rw [if_pos c] at hm; cases hm
    obtain ⟨x, rfl⟩ := Int.eq_ofNat_of_zero_le (show 0 ≤ z by omega)
    have h8 : (x : Int) / 8 < 16 := by omega
    have h80 : (0 : Int) ≤ (x : Int) / 8 := by omega
    have HX : Hid (x / 8 < 16) := Hid.intro (by omega)
    have HE : Hid (Mv.wantsB m x = decide (m.fr (x / 8) = 0) ∧ Mv.mayB m x false = true) := Hid.intro ⟨by unfold Mv.wantsB; rw [hm, Int.toNat_natCast]; rfl, hm⟩
    clear h hm hz
    go_enter Try.func35, Try.ntmps35
    go_wp2_with fail
    refine (vmay_any b r x false m _ HF.out).mono ?_
    rintro e w1 ⟨rfl, hb⟩
    have c1 := (HF.out.below hb).cFr (x / 8) HX.out
    have HB := Hid.intro hb
    clear hb
    rw [HE.out.2]
    obtain ⟨u, hu⟩ : ∃ u, m.fr (x / 8) = u := ⟨_, rfl⟩
    rw [hu] at c1 HE
    clear hu
    by_cases e0 : u = 0
    · subst e0
      have c1' : w1.cell? ⟨b, 1 + x / 8 * 2 + 1, none⟩ = some (.int .i64 (-1)) := c1
      clear c1
      go_wp2_with fail
      go_ret
      exact ⟨ret_bool (by rw [HE.out.1]; rfl), HB.out⟩
    · have e0' : ((u : Int) - 1 == -1) = false := by simp; omega
      go_wp2_with fail
      go_ret
      exact ⟨ret_bool (by rw [HE.out.1, decide_eq_false e0]), HB.out⟩
end
def Mv.frN (m : Me) (z : Int) : Int := if z < 0 ∨ 15 < z then -1 else (m.fr z.toNat : Int) - 1
set_option maxRecDepth 100000 in
theorem vframe_any (b r : Nat) (z : Int) (m : Me) (w : World) (h : UAt w b r m) :
    Calls Try.prog 67 #[.pointer (some ⟨b, 0, none⟩), .int .i64 z] w fun e w' => e = .returned (.int .i64 (Mv.frN m z)) ∧ w' = w := by
  by_cases k : z < 0 ∨ 15 < z
  · have HE : Hid (Mv.frN m z = -1) := Hid.intro (if_pos k)
    by_cases h0 : z < 0
    · clear k h
      go_enter Try.func67, Try.ntmps67
      go_wp2
      go_ret
      rw [HE.out]; exact ⟨rfl, rfl⟩
    · have h1 : decide (z < 0) = false := decide_eq_false h0
      have h2 : 16 ≤ z := by omega
      clear k h0 h
      go_enter Try.func67, Try.ntmps67
      go_wp2
      go_ret
      rw [HE.out]; exact ⟨rfl, rfl⟩
  · obtain ⟨x, rfl⟩ := Int.eq_ofNat_of_zero_le (show 0 ≤ z by omega)
    have HE : Hid (Mv.frN m x = (m.fr x : Int) - 1) := Hid.intro (by unfold Mv.frN; rw [if_neg k, Int.toNat_natCast])
    have h2 : decide (16 ≤ (x : Int)) = false := by simp; omega
    have h3 : (x : Int) < 16 := by omega
    have c1 := h.cFr x (by omega)
    clear k h
    go_enter Try.func67, Try.ntmps67
    go_wp2_with fail
    go_ret
    rw [HE.out]; exact ⟨rfl, rfl⟩
/-- All pages of a memory, as a row. -/
def rowP (m : Me) : List Value := (List.range 32).map fun o => if o % 2 = 0 then Value.int .i64 (m.is (o / 2) : Int) else .int .i64 ((m.fr (o / 2) : Int) - 1)
theorem rowP_len (m : Me) : (rowP m).length = 32 := by simp [rowP]
theorem UAt.range {w : World} {b r : Nat} {m : Me} (h : UAt w b r m) : w.rangeAt b 1 (rowP m) := fun j v hv => by
  have hj : j < 32 := by have := (List.getElem?_eq_some_iff.1 hv).1; rwa [rowP_len] at this
  simp [rowP, hj] at hv
  rw [h.cell _ (by omega), ← hv]
  unfold cellU
  rw [if_neg (by omega), show 1 + j - 1 = j by omega]
theorem rowP_ex (m : Me) (x : Nat) (h : x < 16) : (rowP m).toArray.extract (x * 2) (x * 2 + 2) = #[.int .i64 (m.is x : Int), .int .i64 ((m.fr x : Int) - 1)] := by
  have hs : (rowP m).toArray.size = 32 := by simp [rowP]
  apply Array.ext_getElem?
  intro i
  rw [Array.getElem?_extract]
  by_cases hi : i < 2
  · rw [if_pos (by rw [hs]; omega)]
    have e : (rowP m).toArray[x * 2 + i]? = some (if (x * 2 + i) % 2 = 0 then Value.int .i64 (m.is ((x * 2 + i) / 2) : Int) else .int .i64 ((m.fr ((x * 2 + i) / 2) : Int) - 1)) := by
      simp [rowP, show x * 2 + i < 32 by omega]
    rw [e, show (x * 2 + i) / 2 = x by omega]
    match i, hi with
    | 0, _ => rw [if_pos (by omega)]; rfl
    | 1, _ => rw [if_neg (by omega)]; rfl
  · rw [if_neg (by rw [hs]; omega), Array.getElem?_eq_none (by simp; omega)]
theorem index_rowP (m : Me) (x : Nat) (h : x < 16) (w : World) : Sem.run Try.prog (Instr.index 114 (Value.agg (rowP m).toArray) (Value.int IntKind.i64 x)) w = .ok (.agg #[.int .i64 (m.is x : Int), .int .i64 ((m.fr x : Int) - 1)]) w := by
  have hu : Try.prog.underlying 114 = some (.array 16 113) := by kernel_rfl
  have hx := rowP_ex m x h
  have h1 : (x : Int) < 16 := by omega
  obtain ⟨A, hA⟩ : ∃ A, (rowP m).toArray = A := ⟨_, rfl⟩
  rw [hA] at hx ⊢
  simp [Instr.index, Sem.run_bind, run_underlying hu, go_sem, hx]
  intro c; omega
theorem rowP_size (m : Me) : (Try.prog.info? 114).map (·.size) = some (rowP m).length := by rw [rowP_len]; kernel_rfl
set_option maxRecDepth 100000 in
set_option maxHeartbeats 1000000 in
theorem vresident_any (b r : Nat) (m : Me) (w : World) (h : UAt w b r m) :
    Calls Try.prog 58 #[.pointer (some ⟨b, 0, none⟩)] w fun e w' => e = .returned (.int .i64 (Mv.resK m 16 : Int)) ∧ Below w.heap.size w w' := by
  have hsz := Hid.intro (rowP_size m)
  have HR := Hid.intro h.range
  clear h
  go_enter Try.func58, Try.ntmps58
  go_wp2_with (refine wpList_load_mid rfl 114 _ rfl b 1 rfl (rowP m) (.array 16 113) HR.out (by kernel_rfl) rfl hsz.out ?_)
  go_loopw [3, 10] (fun s i wr => ∃ (k : Nat), i = .int .i64 k ∧ s = .int .i64 (Mv.resK m k : Int) ∧ k ≤ 16 ∧ Hid (Below w.heap.size w wr)) (fun _ i _ => 16 - (intOf i).toNat)
  case atStart => exact ⟨0, rfl, rfl, by omega, Below.refl _ _⟩
  case round =>
    obtain ⟨k, rfl, rfl, hk, T⟩ := hrel
    by_cases hlt : k < 16
    · have hltI : (k : Int) < 16 := by omega
      have hix := index_rowP m k hlt
      have LS : Hid (Mv.resK m (k + 1) = Mv.resK m k + if m.fr k = 0 then 0 else 1) := Hid.intro rfl
      have BL : Hid (∀ o, Below w.heap.size w (wr.alloc o)) := Hid.intro (fun o => T.out.alloc T.out.size o)
      have lb := resK_le m k
      generalize m.is k = u0 at *
      generalize m.fr k = u at *
      by_cases e1 : u = 0
      · have LE : Hid (Mv.resK m (k + 1) = Mv.resK m k) := Hid.intro (by rw [LS.out, if_pos e1]; rfl)
        subst e1
        clear LS
        go_wp2_with fail
        go_roundw
        case rel => exact ⟨k + 1, by go_num, by rw [LE.out], by omega, BL.out _⟩
        case measure => simp [intOf]; omega
      · have LE : Hid (Mv.resK m (k + 1) = Mv.resK m k + 1) := Hid.intro (by rw [LS.out, if_neg e1])
        have e1' : ((u : Int) - 1 == -1) = false := by simp; omega
        generalize Mv.resK m k = lk at *
        clear LS e1
        go_wp2_with fail
        go_roundw
        case rel => exact ⟨k + 1, by go_num, by rw [LE.out]; go_num, by omega, BL.out _⟩
        case measure => simp [intOf]; omega
    · have hk64 : k = 16 := by omega
      subst hk64
      go_wp2_with fail
      go_ret
      exact ⟨rfl, T.out⟩
end Go.Proofs.Ytnppahmlifnnnab

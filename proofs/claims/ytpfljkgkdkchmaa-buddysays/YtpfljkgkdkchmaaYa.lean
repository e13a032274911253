/- The law BuddySays: the closed fact 'blocks'; asBlocks. -/
import Derived.Test.YtpfljkgkdkchmaaXj
import Derived.Test.YtpfljkgkdkchmaaXf
import Derived.Test.YtpfljkgkdkchmaaXl
import Derived.Test.YtpfljkgkdkchmaaBo
namespace Go.Proofs.Ytpfljkgkdkchmaa
open Go.RowKit
open Bd (P)

namespace Bd
theorem best0 : Best b0 0 0 := ⟨by omega, by decide, rfl, fun j _ h _ => by
  by_cases c : j = 0
  · subst c; exact .inr ⟨rfl, Nat.le_refl _⟩
  · have : (if j = 0 then 7 else 0) > 0 := h
    rw [if_neg c] at this; omega⟩
theorem take0 {e : Int} {r : Nat} {p : P} (h : TakeTo b0 0 e r p) : e = 0 ∧ r = 0 ∧ p = takeB b0 0 0 := by
  have k : TakeTo b0 0 0 0 (takeB b0 0 0) := .inr (.inr ⟨by decide, best0, rfl, rfl⟩)
  exact h.unique k
def p1 : P := takeB b0 0 0
theorem p1_e : giveE p1 0 = 0 := by decide +kernel
theorem p1_n : ordN p1 0 = 0 := by decide +kernel
theorem p1_l : left p1 = 63 := by decide +kernel
theorem freE_ge (z : Int) : 0 ≤ freE z := by unfold freE; split <;> omega
theorem freL_len (p : P) (z : Int) : (freL p z).length ≤ 64 := by
  unfold freL
  split
  · simp
  · exact freK_len p _ 64
theorem TakeTo.ge {p p' : P} {z e : Int} {r : Nat} (h : TakeTo p z e r p') : 0 ≤ e := by
  rcases h with ⟨_, rfl, _⟩ | ⟨_, _, rfl, _⟩ | ⟨_, _, rfl, _⟩ <;> omega
theorem inv1 : Inv p1 ∧ NB p1 64 := inv0.1.take inv0.2 (z := 0) (e := 0) (r := 0) (.inr (.inr ⟨by decide, best0, rfl, rfl⟩))
end Bd
set_option maxRecDepth 100000 in
set_option maxHeartbeats 1000000 in
theorem blocks_any (w : World) : Calls Try.prog 77 #[] w fun e w' => e = .returned (.bool true) ∧ Below w.heap.size w w' := by
  go_enter Try.func77, Try.ntmps77
  go_wp2_with fail
  refine (cnew_any _).mono ?_
  rintro e W1 ⟨rfl, f1, b1, _⟩
  have H1 := Hid.intro (And.intro f1 b1)
  clear f1 b1
  go_wp2_with fail
  refine (ctake_any w.heap.size 0 Bd.b0 _ H1.out.1 Bd.inv0.1 Bd.inv0.2).mono ?_
  rintro e W2 ⟨r, E, p', rfl, t2, f2, r2⟩
  obtain ⟨rfl, rfl, rfl⟩ := Bd.take0 t2
  have H2 : Hid (CAt W2 w.heap.size Bd.p1 ∧ Below w.heap.size w W2) := Hid.intro (And.intro f2 (r2.below H1.out.2 (Nat.le_refl _) H1.out.2.size))
  clear f2 r2 t2
  rw [errV_zero]
  go_wp2_with fail
  refine (corder_any w.heap.size 0 Bd.p1 _ H2.out.1 Bd.inv1.1).mono ?_
  rintro e W3 ⟨rfl, hW⟩
  subst W3
  rw [Bd.p1_e, Bd.p1_n, errV_zero]
  go_wp2_with (first | (go_at_call 16; refine (same_nil _).mono ?_; rintro e w' ⟨rfl, rfl⟩) | (go_at_call 152; refine (cleft_any w.heap.size Bd.p1 _ H2.out.1 Bd.inv1.1.le).mono ?_; rintro e w4 ⟨rfl, hb4⟩; rw [Bd.p1_l]; have H4 : Hid (Below w.heap.size w w4) := Hid.intro (H2.out.2.trans (hb4.mono H2.out.2.size)); clear hb4))
  go_ret
  exact ⟨rfl, H4.out⟩

/-- Both pools, and what was there. -/
structure PB (w W : World) (b r : Nat) (p : P) : Prop where
  bel : Below w.heap.size w W
  code : CAt W b p
  ref : KAt W r p
theorem PB.below {w W W' : World} {b r : Nat} {p : P} (h : PB w W b r p) (k : Below W.heap.size W W') : PB w W' b r p := ⟨h.bel.trans (k.mono h.bel.size), h.code.below k, h.ref.below k⟩
theorem PB.drewN {w W : World} {b r : Nat} {p : P} (h : PB w W b r p) (n : Nat) : PB w (W.drewN n) b r p := ⟨below_drewN h.bel n, h.code.drewN n, h.ref.drewN n⟩
set_option maxRecDepth 100000 in
set_option maxHeartbeats 2000000 in
theorem asBlocks_any (b r : Nat) (p : P) (w : World) (hb : CAt w b p) (hr : KAt w r p) (hI : Bd.Inv p) :
    Calls Try.prog 84 #[.pointer (some ⟨b, 0, none⟩), .pointer (some ⟨r, 0, none⟩)] w fun e w' => e = .returned (.bool true) ∧ Below w.heap.size w w' := by
  have S0 : Hid (PB w w b r p) := Hid.intro ⟨Below.refl _ _, hb, hr⟩
  have HI := Hid.intro hI
  clear hb hr hI
  go_enter Try.func84, Try.ntmps84
  go_wp2_with fail
  go_loopw [5] (fun i wr => ∃ (z : Int), i = .int .i64 z ∧ -1 ≤ z ∧ z ≤ 8 ∧ Hid (PB w wr b r p)) (fun i _ => (8 - intOf i).toNat)
  case atStart => exact ⟨-1, rfl, by omega, by omega, S0⟩
  case round =>
    clear S0
    obtain ⟨z, rfl, hz1, hz2, S⟩ := hrel
    by_cases hz : z < 8
    · go_wp2_with fail
      refine (cfree_any b z p _ S.out.code).mono ?_
      rintro e W1 ⟨v1, rfl, h1⟩
      have L1 := Hid.intro h1
      have S1 := Hid.intro (S.out.below h1.bel)
      clear h1
      go_wp2_with fail
      refine (kfree_any r z p _ S1.out.ref).mono ?_
      rintro e W2 ⟨v2, rfl, h2⟩
      have L2 := Hid.intro h2
      have S2 := Hid.intro (S1.out.below h2.bel)
      clear h2
      go_wp2_with fail
      refine (same_any _ (Bd.freE_ge z) _).mono ?_
      rintro e W3 ⟨rfl, hW⟩
      subst W3
      go_wp2_with fail
      refine (sameN_any L1.out L2.out (by have := Bd.freL_len p z; omega)).mono ?_
      rintro e W3 ⟨rfl, nq, hW⟩
      have S3 : Hid (PB w W3 b r p) := Hid.intro (by rw [hW]; exact S2.out.drewN nq)
      clear hW L1 L2 S S1 S2
      go_wp2_with fail
      go_roundw
      case rel => exact ⟨z + 1, by go_num, by omega, by omega, S3⟩
      case measure => simp [intOf]; omega
    · go_wp2_with fail
      go_loopw [10] (fun i wr => ∃ (k : Int), i = .int .i64 k ∧ -1 ≤ k ∧ k ≤ 65 ∧ Hid (PB w wr b r p)) (fun i _ => (65 - intOf i).toNat)
      case atStart => exact ⟨-1, rfl, by omega, by omega, S⟩
      case round =>
        clear S
        obtain ⟨k, rfl, hk1, hk2, S⟩ := hrel
        by_cases hk : k < 65
        · go_wp2_with fail
          refine (corder_any b k p _ S.out.code HI.out).mono ?_
          rintro e W4 ⟨rfl, hW⟩
          subst W4
          go_wp2_with fail
          refine (kis_any r k p _ S.out.ref).mono ?_
          rintro e W4 ⟨rfl, hW⟩
          subst W4
          go_wp2_with fail
          refine (same_any _ (giveE_ge p k) _).mono ?_
          rintro e W4 ⟨rfl, hW⟩
          subst W4
          by_cases f0 : Bd.giveE p k = 0
          · have k' := f0
            unfold Bd.giveE at k'
            by_cases c1 : k < 0 ∨ 63 < k
            · rw [if_pos c1] at k'; omega
            · rw [if_neg c1] at k'
              obtain ⟨j, rfl⟩ := Int.eq_ofNat_of_zero_le (show 0 ≤ k by omega)
              rw [Int.toNat_natCast] at k'
              have ht : p.tk j = true := by
                cases t : p.tk j
                · rw [t, if_neg (by decide)] at k'; omega
                · rfl
              have hj : j < 64 := by omega
              have hjI : (j : Int) < 64 := by omega
              have op := HI.out.tk j hj ht
              have o7 := HI.out.le j hj
              have c2 := S.out.ref.cOrd j hj
              have en : Bd.ordN p j = p.ord j - 1 := by unfold Bd.ordN; rw [if_pos f0, Int.toNat_natCast]; rfl
              rw [f0, en]
              obtain ⟨u, hu⟩ : ∃ u, p.ord j = u + 1 := ⟨p.ord j - 1, by omega⟩
              rw [hu] at c2
              rw [hu, Nat.add_sub_cancel]
              have u7 : u ≤ 7 := by omega
              have hw1 : wrap64 (u : Int) = (u : Int) := IntWalk.wrap64_in (u : Int) ⟨by omega, by omega⟩
              clear f0 k' c1 ht op o7 en hu
              go_wp2_with fail
              go_roundw
              case rel => exact ⟨(j : Int) + 1, by go_num, by omega, by omega, S⟩
              case measure => simp [intOf]; omega
          · have en : Bd.ordN p k = 0 := if_neg f0
            have fp : 0 < Bd.giveE p k := by have := giveE_ge p k; omega
            rw [en]
            generalize Bd.giveE p k = E at *
            clear en
            go_wp2_with fail
            go_roundw
            case rel => exact ⟨k + 1, by go_num, by omega, by omega, S⟩
            case measure => simp [intOf]; omega
        · go_wp2_with fail
          refine (cleft_any b p _ S.out.code HI.out.le).mono ?_
          rintro e W1 ⟨rfl, h1⟩
          have S1 := Hid.intro (S.out.below h1)
          clear h1
          go_wp2_with fail
          refine (kleft_any r p _ S1.out.ref HI.out.le).mono ?_
          rintro e W2 ⟨rfl, hW⟩
          subst W2
          go_wp2_with fail
          go_ret
          exact ⟨ret_bool (by simp), S1.out.bel⟩
end Go.Proofs.Ytpfljkgkdkchmaa

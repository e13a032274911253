/- The law SpacesSays: lists that are the same; the closed fact 'tables'; asTable. -/
import Derived.Test.YtgabfkaadflciaaVl
namespace Go.Proofs.Ytgabfkaadflciaa
open Go.RowKit
open Sp (T)

theorem LO.cells {u w : World} {L : List Nat} {v : Value} (h : LO u L v w) (hl : 0 < L.length) : ∃ gg cap, v = .slice (some ⟨gg, 0, none⟩) L.length cap ∧ gg < w.heap.size ∧ ∀ i, i < L.length → w.cell? ⟨gg, 0 + i, none⟩ = some (.int .i64 ((L.getD i 0 : Nat) : Int)) := by
  have ho := h.own
  obtain ⟨gg, cap, hv, _, hg⟩ := ho.form hl
  refine ⟨gg, cap, hv, hg, fun i hi => ?_⟩
  rw [hv] at ho
  rw [Nat.zero_add, ho.cellAt i (by omega)]
  exact rowOf_at _ _ _ (by rw [List.getD_eq_getElem?_getD, List.getElem?_eq_getElem hi]; rfl)
theorem sameN_any {u w1 w2 : World} {L : List Nat} {v1 v2 : Value} (h1 : LO u L v1 w1) (h2 : LO w1 L v2 w2) (hL : L.length < 1000000) :
    Calls Try.prog 21 #[v1, v2] w2 fun e w' => e = .returned (.bool true) ∧ ∃ k, w' = w2.drewN k := by
  by_cases hl : L.length = 0
  · obtain ⟨a1, c1, e1⟩ := own_form h1.own
    obtain ⟨a2, c2, e2⟩ := own_form h2.own
    rw [e1, e2, hl]
    exact sameNumbers_none a1 a2 c1 c2 w2
  · obtain ⟨g1, c1, e1, l1, k1⟩ := h1.cells (by omega)
    obtain ⟨g2, c2, e2, l2, k2⟩ := h2.cells (by omega)
    rw [e1, e2]
    exact sameNumbers_some g1 g2 0 0 L.length c1 c2 (fun i => ((L.getD i 0 : Nat) : Int)) hL w2 (fun i hi => (h2.bel.cell (p := ⟨g1, 0 + i, none⟩) l1).trans (k1 i hi)) k2

namespace Sp
theorem isE_ge (t : T) (z : Int) : 0 ≤ isE t z := by rcases isE_cases t z with h | h <;> omega
theorem procE_ge (z : Int) : 0 ≤ procE z := by rcases procE_cases z with h | h <;> omega
theorem pairE_ge (t : T) (z x : Int) : 0 ≤ pairE t z x := by unfold pairE; have := isE_ge t z; have := procE_ge x; split <;> omega
theorem addE_ge (t : T) (z : Int) : 0 ≤ addE t z := by unfold addE; have := isE_ge t z; split; split; omega; split <;> omega; omega
theorem dropE_ge (t : T) (z : Int) : 0 ≤ dropE t z := by unfold dropE; have := isE_ge t z; split; split <;> omega; omega
theorem entE_ge (t : T) (z x : Int) : 0 ≤ entE t z x := by unfold entE; have := pairE_ge t z x; split; split <;> omega; omega
theorem inE_ge (t : T) (x : Int) : 0 ≤ inE t x := by unfold inE; have := procE_ge x; split; split <;> omega; omega
theorem pidE_ge (t : T) (x z : Int) : 0 ≤ pidE t x z := by unfold pidE; have := pairE_ge t z x; split; split <;> omega; omega
theorem findE_ge (t : T) (z p : Int) : 0 ≤ findE t z p := by unfold findE; have := isE_ge t z; split; split <;> omega; omega
def a1 : T := addT t0 0
def a2 : T := entT a1 1 7
theorem a1_e : addE t0 0 = 0 := by decide +kernel
theorem a1_n : addN t0 0 = 1 := by decide +kernel
theorem a2_e : entE a1 1 7 = 0 := by decide +kernel
theorem a2_n : entN a1 1 7 = 1 := by decide +kernel
theorem a3_e : findE a2 0 1 = 0 := by decide +kernel
theorem a3_n : findN a2 0 1 = 7 := by decide +kernel
end Sp

set_option maxRecDepth 100000 in
set_option maxHeartbeats 1000000 in
theorem tables_any (w : World) : Calls Try.prog 61 #[] w fun e w' => e = .returned (.bool true) ∧ Below w.heap.size w w' := by
  obtain ⟨d1, I1⟩ := Sp.inv0.add 0
  have I1' : Hid (Sp.Inv Sp.a1 d1) := I1
  clear I1
  go_enter Try.func61, Try.ntmps61
  go_wp2_with fail
  refine (new_any _).mono ?_
  rintro e W1 ⟨rfl, f1, b1, _⟩
  have H1 := Hid.intro (And.intro f1 b1)
  clear f1 b1
  go_wp2_with fail
  refine (add_any w.heap.size 0 Sp.t0 _ _ H1.out.1 Sp.inv0).mono ?_
  rintro e W2 ⟨rfl, f2, r2⟩
  have H2 : Hid (Tb true W2 w.heap.size Sp.a1 ∧ Below w.heap.size w W2) := Hid.intro (And.intro f2 (r2.below H1.out.2 (Nat.le_refl _) H1.out.2.size))
  clear f2 r2
  rw [Sp.a1_e, Sp.a1_n, errV_zero]
  go_wp2_with fail
  refine (enter_any w.heap.size 1 7 Sp.a1 _ _ H2.out.1 I1'.out).mono ?_
  rintro e W3 ⟨rfl, f3, r3⟩
  have H3 : Hid (Tb true W3 w.heap.size Sp.a2 ∧ Below w.heap.size w W3) := Hid.intro (And.intro f3 (r3.below H2.out.2 (Nat.le_refl _) H2.out.2.size))
  clear f3 r3
  rw [Sp.a2_e, Sp.a2_n, errV_zero]
  go_wp2_with fail
  refine (find_any w.heap.size 0 1 Sp.a2 _ H3.out.1).mono ?_
  rintro e W4 ⟨rfl, hW⟩
  subst W4
  rw [Sp.a3_e, Sp.a3_n, errV_zero]
  go_wp2_with (go_at_call 15; refine (same_nil _).mono ?_; rintro e w' ⟨rfl, rfl⟩)
  go_ret
  exact ⟨rfl, H3.out.2⟩

/-- Both tables, and what was there. -/
structure SB (w W : World) (b r : Nat) (t : T) : Prop where
  bel : Below w.heap.size w W
  code : Tb true W b t
  ref : Tb false W r t
theorem SB.below {w W W' : World} {b r : Nat} {t : T} (h : SB w W b r t) (k : Below W.heap.size W W') : SB w W' b r t := ⟨h.bel.trans (k.mono h.bel.size), h.code.below k, h.ref.below k⟩
theorem SB.drewN {w W : World} {b r : Nat} {t : T} (h : SB w W b r t) (n : Nat) : SB w (W.drewN n) b r t := ⟨below_drewN h.bel n, h.code.drewN n, h.ref.drewN n⟩
theorem membL_len (t : T) (z : Int) : (membL t z).length ≤ 21 := by
  unfold membL
  split
  · exact memK_len t _ 21
  · simp
theorem all_len (t : T) : (Sp.all t).length ≤ 6 := allK_len t 6
set_option maxRecDepth 100000 in
set_option maxHeartbeats 2000000 in
theorem asTable_any (b r : Nat) (t : T) (d : Nat → Nat) (w : World) (hb : Tb true w b t) (hr : Tb false w r t) (hI : Sp.Inv t d) :
    Calls Try.prog 72 #[.pointer (some ⟨b, 0, none⟩), .pointer (some ⟨r, 0, none⟩)] w fun e w' => e = .returned (.bool true) ∧ Below w.heap.size w w' := by
  have S0 : Hid (SB w w b r t) := Hid.intro ⟨Below.refl _ _, hb, hr⟩
  have HI := Hid.intro hI
  clear hb hr hI
  go_enter Try.func72, Try.ntmps72
  go_wp2_with fail
  go_loopw [5] (fun i wr => ∃ (z : Int), i = .int .i64 z ∧ -1 ≤ z ∧ z ≤ 7 ∧ Hid (SB w wr b r t)) (fun i _ => (7 - intOf i).toNat)
  case atStart => exact ⟨-1, rfl, by omega, by omega, S0⟩
  case round =>
    clear S0
    obtain ⟨z, rfl, hz1, hz2, S⟩ := hrel
    by_cases hz : z ≤ 6
    · go_wp2_with fail
      refine (membersT_any b z t _ S.out.code).mono ?_
      rintro e W1 ⟨v1, rfl, h1⟩
      have L1 := Hid.intro h1
      have S1 := Hid.intro (S.out.below h1.bel)
      clear h1
      go_wp2_with fail
      refine (rmembers_any r z t _ S1.out.ref HI.out.who0 HI.out.wle).mono ?_
      rintro e W2 ⟨v2, rfl, h2⟩
      have L2 := Hid.intro h2
      have S2 := Hid.intro (S1.out.below h2.bel)
      clear h2
      go_wp2_with fail
      refine (same_any _ (Sp.isE_ge t z) _).mono ?_
      rintro e W3 ⟨rfl, hW⟩
      subst W3
      go_wp2_with fail
      refine (sameN_any L1.out L2.out (by have := membL_len t z; omega)).mono ?_
      rintro e W3 ⟨rfl, nq, hW⟩
      have S3 : Hid (SB w W3 b r t) := Hid.intro (by rw [hW]; exact S2.out.drewN nq)
      clear hW L1 L2 S S1 S2
      go_wp2_with fail
      go_loopw [10] (fun i wr => ∃ (k : Int), i = .int .i64 k ∧ -1 ≤ k ∧ k ≤ 22 ∧ Hid (SB w wr b r t)) (fun i _ => (22 - intOf i).toNat)
      case atStart => exact ⟨-1, rfl, by omega, by omega, S3⟩
      case round =>
        clear S3
        obtain ⟨k, rfl, hk1, hk2, S⟩ := hrel
        by_cases hk : k ≤ 21
        · go_wp2_with fail
          refine (pidT_any b k z t _ S.out.code HI.out.who0).mono ?_
          rintro e W4 ⟨rfl, hW⟩
          subst W4
          go_wp2_with fail
          refine (rpid_any r k z t _ S.out.ref HI.out.who0).mono ?_
          rintro e W4 ⟨rfl, hW⟩
          subst W4
          go_wp2_with fail
          refine (find_any b z k t _ S.out.code).mono ?_
          rintro e W4 ⟨rfl, hW⟩
          subst W4
          go_wp2_with fail
          refine (rfind_any r z k t _ S.out.ref HI.out.wle).mono ?_
          rintro e W4 ⟨rfl, hW⟩
          subst W4
          go_wp2_with fail
          refine (same_any _ (Sp.pidE_ge t k z) _).mono ?_
          rintro e W4 ⟨rfl, hW⟩
          subst W4
          go_wp2_with fail
          refine (same_any _ (Sp.findE_ge t z k) _).mono ?_
          rintro e W4 ⟨rfl, hW⟩
          subst W4
          go_wp2_with fail
          go_roundw
          case rel => exact ⟨k + 1, by go_num, by omega, by omega, S⟩
          case measure => simp [intOf]; omega
        · go_wp2_with fail
          go_roundw
          case rel => exact ⟨z + 1, by go_num, by omega, by omega, S⟩
          case measure => simp [intOf]; omega
    · go_wp2_with fail
      go_loopw [19] (fun i wr => ∃ (k : Int), i = .int .i64 k ∧ -1 ≤ k ∧ k ≤ 21 ∧ Hid (SB w wr b r t)) (fun i _ => (21 - intOf i).toNat)
      case atStart => exact ⟨-1, rfl, by omega, by omega, S⟩
      case round =>
        clear S
        obtain ⟨k, rfl, hk1, hk2, S⟩ := hrel
        by_cases hk : k ≤ 20
        · go_wp2_with fail
          refine (of_any b k t _ S.out.code).mono ?_
          rintro e W4 ⟨rfl, hW⟩
          subst W4
          go_wp2_with fail
          refine (rin_any r k t _ S.out.ref HI.out.of_le).mono ?_
          rintro e W4 ⟨rfl, hW⟩
          subst W4
          go_wp2_with fail
          refine (same_any _ (Sp.inE_ge t k) _).mono ?_
          rintro e W4 ⟨rfl, hW⟩
          subst W4
          go_wp2_with fail
          go_roundw
          case rel => exact ⟨k + 1, by go_num, by omega, by omega, S⟩
          case measure => simp [intOf]; omega
        · go_wp2_with fail
          refine (all_any b t _ S.out.code).mono ?_
          rintro e W1 ⟨v1, rfl, h1⟩
          have L1 := Hid.intro h1
          have S1 := Hid.intro (S.out.below h1.bel)
          clear h1
          go_wp2_with fail
          refine (rall_any r t _ S1.out.ref).mono ?_
          rintro e W2 ⟨v2, rfl, h2⟩
          have L2 := Hid.intro h2
          have S2 := Hid.intro (S1.out.below h2.bel)
          clear h2
          go_wp2_with fail
          refine (sameN_any L1.out L2.out (by have := all_len t; omega)).mono ?_
          rintro e W3 ⟨rfl, nq, hW⟩
          have S3 : Hid (SB w W3 b r t) := Hid.intro (by rw [hW]; exact S2.out.drewN nq)
          clear hW L1 L2 S S1 S2
          go_wp2_with fail
          go_ret
          exact ⟨rfl, S3.out.bel⟩
end Go.Proofs.Ytgabfkaadflciaa

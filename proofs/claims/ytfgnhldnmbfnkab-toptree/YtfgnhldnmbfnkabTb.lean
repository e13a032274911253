/- The code's forest: node, ofKind, dir, file, Of, Tree, Up, Root, Hold. -/
import Derived.Test.YtfgnhldnmbfnkabTa
namespace Go.Proofs.Ytfgnhldnmbfnkab
open Go.RowKit
open Tr (Fo Nd)

/-- A pointer to a node, where nothing is wrong. -/
def ptrE (b : Nat) (z E : Int) : Value := if E = 0 then .pointer (some ⟨b, z.toNat * 62, none⟩) else .pointer none
theorem ptrE_ok (b n : Nat) : ptrE b (n : Int) 0 = .pointer (some ⟨b, n * 62, none⟩) := by unfold ptrE; rw [if_pos rfl, Int.toNat_natCast]
theorem ptrE_no {b : Nat} {z E : Int} (h : E ≠ 0) : ptrE b z E = .pointer none := if_neg h
set_option maxRecDepth 100000 in
set_option maxHeartbeats 400000 in
theorem tnode_any (b : Nat) (z : Int) (F : Fo) (w : World) (h : FAt w b F) :
    Calls Try.prog 116 #[.pointer (some ⟨b, 0, none⟩), .int .i64 z] w fun e w' => e = .returned (.tuple #[ptrE b z (Tr.nodeE F z), errV (Tr.nodeE F z)]) ∧ w' = w := by
  by_cases c : z < 0 ∨ 39 < z
  · have E : Hid (Tr.nodeE F z = 1) := Hid.intro (if_pos c)
    have E2 : Hid (ptrE b z 1 = .pointer none) := Hid.intro (ptrE_no (by decide))
    by_cases c1 : z < 0
    · clear c
      go_enter Try.func116, Try.ntmps116
      go_wp2_with fail
      go_ret2
      rw [E.out, E2.out]
      exact ⟨rfl, rfl⟩
    · have c2 : decide (40 ≤ z) = true := by simp; omega
      have c3 : decide (z < 0) = false := by simp; omega
      clear c
      go_enter Try.func116, Try.ntmps116
      go_wp2_with fail
      go_ret2
      rw [E.out, E2.out]
      exact ⟨rfl, rfl⟩
  · obtain ⟨n, rfl⟩ := Int.eq_ofNat_of_zero_le (show 0 ≤ z by omega)
    have n40 : n < 40 := by omega
    have nI : (n : Int) < 40 := by omega
    have c2 : decide (40 ≤ (n : Int)) = false := by simp; omega
    have c0 := h.cKind n n40
    by_cases k0 : (F.nd n).kind = 0
    · have E : Hid (Tr.nodeE F (n : Int) = 2) := Hid.intro (by unfold Tr.nodeE; rw [if_neg c, Int.toNat_natCast, if_pos k0])
      have E2 : Hid (ptrE b (n : Int) 2 = .pointer none) := Hid.intro (ptrE_no (by decide))
      rw [k0] at c0
      have c0' : w.cell? ⟨b, n * 62, none⟩ = some (.int .i64 0) := c0
      clear h c c0 k0
      go_enter Try.func116, Try.ntmps116
      go_wp2_with fail
      go_ret2
      rw [E.out, E2.out]
      exact ⟨rfl, rfl⟩
    · have E : Hid (Tr.nodeE F (n : Int) = 0) := Hid.intro (by unfold Tr.nodeE; rw [if_neg c, Int.toNat_natCast, if_neg k0])
      have E2 : Hid (ptrE b (n : Int) 0 = .pointer (some ⟨b, n * 62, none⟩)) := Hid.intro (ptrE_ok b n)
      have k0' : (((F.nd n).kind : Int) == 0) = false := by simp; omega
      generalize (F.nd n).kind = kk at *
      clear h c k0
      go_enter Try.func116, Try.ntmps116
      go_wp2_with fail
      go_ret2
      rw [E.out, E2.out]
      exact ⟨rfl, rfl⟩
set_option maxRecDepth 100000 in
set_option maxHeartbeats 400000 in
theorem tofKind_any (b : Nat) (z : Int) (k : Nat) (F : Fo) (w : World) (h : FAt w b F) :
    Calls Try.prog 138 #[.pointer (some ⟨b, 0, none⟩), .int .i64 z, .int .i64 (k : Int)] w fun e w' => e = .returned (.tuple #[ptrE b z (Tr.isE F z k), errV (Tr.isE F z k)]) ∧ w' = w := by
  have HF := Hid.intro h
  by_cases c : Tr.nodeE F z = 0
  · obtain ⟨n, rfl, n40, _⟩ := Tr.nodeE_ok c
    have c0 := h.cKind n n40
    have EP : Hid (Tr.nodeE F (n : Int) = 0) := Hid.intro c
    by_cases d : (F.nd n).kind = k
    · have E : Hid (Tr.isE F (n : Int) k = 0) := Hid.intro (by unfold Tr.isE; rw [if_neg (fun e => e c), Int.toNat_natCast, if_pos d])
      have E2 : Hid (ptrE b (n : Int) 0 = .pointer (some ⟨b, n * 62, none⟩)) := Hid.intro (ptrE_ok b n)
      rw [d] at c0
      clear h c d
      go_enter Try.func138, Try.ntmps138
      go_wp2_with fail
      refine (tnode_any b n F _ HF.out).mono ?_
      rintro e w1 ⟨rfl, hw⟩
      subst w1
      rw [EP.out, E2.out, errV_zero]
      go_wp2_with fail
      go_ret2
      rw [E.out, E2.out]
      exact ⟨rfl, rfl⟩
    · have E : Hid (Tr.isE F (n : Int) k = 11) := Hid.intro (by unfold Tr.isE; rw [if_neg (fun e => e c), Int.toNat_natCast, if_neg d])
      have E2 : Hid (ptrE b (n : Int) 0 = .pointer (some ⟨b, n * 62, none⟩) ∧ ptrE b (n : Int) 11 = .pointer none) := Hid.intro ⟨ptrE_ok b n, ptrE_no (by decide)⟩
      have d' : (((F.nd n).kind : Int) == (k : Int)) = false := by simp; omega
      generalize (F.nd n).kind = kk at *
      clear h c d
      go_enter Try.func138, Try.ntmps138
      go_wp2_with fail
      refine (tnode_any b n F _ HF.out).mono ?_
      rintro e w1 ⟨rfl, hw⟩
      subst w1
      rw [EP.out, E2.out.1, errV_zero]
      go_wp2_with fail
      go_ret2
      rw [E.out, E2.out.2]
      exact ⟨rfl, rfl⟩
  · have E : Hid (Tr.isE F z k = Tr.nodeE F z) := Hid.intro (if_pos c)
    have E2 : Hid (ptrE b z (Tr.nodeE F z) = .pointer none ∧ errV (Tr.nodeE F z) = .iface 128 (.int .i64 (Tr.nodeE F z))) := Hid.intro ⟨ptrE_no c, errV_ne c⟩
    clear h c
    go_enter Try.func138, Try.ntmps138
    go_wp2_with fail
    refine (tnode_any b z F _ HF.out).mono ?_
    rintro e w1 ⟨rfl, hw⟩
    subst w1
    rw [E2.out.1, E2.out.2]
    go_wp2_with fail
    go_ret2
    rw [E.out, E2.out.1, E2.out.2]
    exact ⟨rfl, rfl⟩
theorem tdir_any (b : Nat) (z : Int) (F : Fo) (w : World) (h : FAt w b F) :
    Calls Try.prog 113 #[.pointer (some ⟨b, 0, none⟩), .int .i64 z] w fun e w' => e = .returned (.tuple #[ptrE b z (Tr.isE F z 2), errV (Tr.isE F z 2)]) ∧ w' = w := by
  have HF := Hid.intro (tofKind_any b z 2 F w h)
  clear h
  obtain ⟨v1, hv1⟩ : ∃ v, ptrE b z (Tr.isE F z 2) = v := ⟨_, rfl⟩
  obtain ⟨v2, hv2⟩ : ∃ v, errV (Tr.isE F z 2) = v := ⟨_, rfl⟩
  rw [hv1, hv2] at HF ⊢
  clear hv1 hv2
  go_enter Try.func113, Try.ntmps113
  go_wp2_with fail
  refine HF.out.mono ?_
  rintro e w1 ⟨rfl, hw⟩
  subst w1
  go_wp2_with fail
  go_ret2
  exact ⟨rfl, rfl⟩
theorem tfile_any (b : Nat) (z : Int) (F : Fo) (w : World) (h : FAt w b F) :
    Calls Try.prog 110 #[.pointer (some ⟨b, 0, none⟩), .int .i64 z] w fun e w' => e = .returned (.tuple #[ptrE b z (Tr.isE F z 1), errV (Tr.isE F z 1)]) ∧ w' = w := by
  have HF := Hid.intro (tofKind_any b z 1 F w h)
  clear h
  obtain ⟨v1, hv1⟩ : ∃ v, ptrE b z (Tr.isE F z 1) = v := ⟨_, rfl⟩
  obtain ⟨v2, hv2⟩ : ∃ v, errV (Tr.isE F z 1) = v := ⟨_, rfl⟩
  rw [hv1, hv2] at HF ⊢
  clear hv1 hv2
  go_enter Try.func110, Try.ntmps110
  go_wp2_with fail
  refine HF.out.mono ?_
  rintro e w1 ⟨rfl, hw⟩
  subst w1
  go_wp2_with fail
  go_ret2
  exact ⟨rfl, rfl⟩
end Go.Proofs.Ytfgnhldnmbfnkab

/- The code's pipes: Share, Of. -/
import Derived.Test.YtddjjfapbbeahaaPb
namespace Go.Proofs.Ytddjjfapbbeahaa
open Go.RowKit
open Pp (Pi)

set_option maxRecDepth 100000 in
set_option maxHeartbeats 1000000 in
theorem pshare_any (b : Nat) (z : Int) (wr : Bool) (S : Nat → Pi) (w : World) (h : PAt w b S) (hb : ∀ n, n < 8 → Pp.tim (S n) wr < 2 ^ 60) :
    Calls Try.prog 10 #[.pointer (some ⟨b, 0, none⟩), .int .i64 z, .bool wr] w fun e w' => e = .returned (errV (Pp.opE S z wr)) ∧ PAt w' b (Pp.shaF S z wr) ∧ Frm b w w' := by
  have HF := Hid.intro h
  by_cases c : Pp.opE S z wr = 0
  · obtain ⟨n, rfl, n8, _, t0⟩ := Pp.opE_ok c
    have EP : Hid (Pp.opE S (n : Int) wr = 0 ∧ pptE b (n : Int) 0 = .pointer (some ⟨b, n * 15, none⟩)) := Hid.intro ⟨c, pptE_ok b n⟩
    have c0 := h.tim n n8 wr
    have hl := hb n n8
    have T := Hid.intro (ptimes_any b (n * 15) wr)
    have FIN : Hid (PAt (w.setCell ⟨b, n * 15 + (if wr then 14 else 13), none⟩ (.int .i64 ((Pp.tim (S n) wr + 1 : Nat) : Int))) b (Pp.shaF S (n : Int) wr)) := Hid.intro (by
      unfold Pp.shaF
      rw [if_pos c, Int.toNat_natCast]
      exact h.setT n n8 wr _)
    have cf := h.frozen
    generalize (if wr then 14 else 13) = o at c0 T FIN
    generalize Pp.tim (S n) wr = k at *
    have hw : IntKind.i64.wrap ((k : Int) + 1) = (k : Int) + 1 := IntWalk.i64_in _ ⟨by omega, by omega⟩
    clear h c hb t0
    go_enter Try.func10, Try.ntmps10
    go_wp2_with fail
    refine (pop_any b n wr S _ HF.out).mono ?_
    rintro e w1 ⟨rfl, hw1⟩
    subst w1
    rw [EP.out.1, EP.out.2, errV_zero]
    go_wp2_with fail
    refine (T.out _).mono ?_
    rintro e w1 ⟨rfl, hw1⟩
    subst w1
    go_wp2_with fail
    go_ret
    rw [EP.out.1]
    exact ⟨rfl, FIN.out, (Frm.refl b w).setCell _ _⟩
  · have E2 : Hid (pptE b z (Pp.opE S z wr) = .pointer none ∧ errV (Pp.opE S z wr) = .iface 61 (.int .i64 (Pp.opE S z wr)) ∧ Pp.shaF S z wr = S) := Hid.intro ⟨pptE_no c, errV_ne c, if_neg c⟩
    clear h c hb
    go_enter Try.func10, Try.ntmps10
    go_wp2_with fail
    refine (pop_any b z wr S _ HF.out).mono ?_
    rintro e w1 ⟨rfl, hw1⟩
    subst w1
    rw [E2.out.1, E2.out.2.1]
    go_wp2_with fail
    go_ret
    rw [E2.out.2.2, E2.out.2.1]
    exact ⟨rfl, HF.out, Frm.refl _ _⟩
/-- What Of tells. -/
def Pp.ofV (S : Nat → Pi) (z : Int) : Array Value := if Pp.pipE S z = 0 then #[.int .i64 ((S z.toNat).tx.size : Int), .int .i64 ((S z.toNat).reads : Int), .int .i64 ((S z.toNat).writes : Int), .nilIface] else #[.int .i64 0, .int .i64 0, .int .i64 0, errV (Pp.pipE S z)]
set_option maxRecDepth 100000 in
set_option maxHeartbeats 1000000 in
theorem pof_any (b : Nat) (z : Int) (S : Nat → Pi) (w : World) (h : PAt w b S) :
    Calls Try.prog 17 #[.pointer (some ⟨b, 0, none⟩), .int .i64 z] w fun e w' => e = .returned (.tuple (Pp.ofV S z)) ∧ PAt w' b S ∧ Below w.heap.size w w' := by
  have HF := Hid.intro h
  by_cases c : Pp.pipE S z = 0
  · obtain ⟨n, rfl, n8, _⟩ := Pp.pipE_ok c
    have EP : Hid (Pp.pipE S (n : Int) = 0 ∧ pptE b (n : Int) 0 = .pointer (some ⟨b, n * 15, none⟩)) := Hid.intro ⟨c, pptE_ok b n⟩
    have FIN : Hid (Pp.ofV S (n : Int) = #[.int .i64 ((S n).tx.size : Int), .int .i64 ((S n).reads : Int), .int .i64 ((S n).writes : Int), .nilIface]) := Hid.intro (by unfold Pp.ofV; rw [if_pos c, Int.toNat_natCast])
    have c1 := h.many n n8
    have c2 := h.reads n n8
    have c3 := h.writes n n8
    generalize (S n).tx.size = k1 at *
    generalize (S n).reads = k2 at *
    generalize (S n).writes = k3 at *
    clear h c
    go_enter Try.func17, Try.ntmps17
    go_wp2_with fail
    refine (ppipe_any b n S _ HF.out).mono ?_
    rintro e w1 ⟨rfl, hw1⟩
    subst w1
    rw [EP.out.1, EP.out.2, errV_zero]
    go_upto_region 4 with fail
    go_big_quiet (fail)
    go_wp2_with fail
    (try simp only [Exit.then]); refine bodyPost_ret (Pp.results4 rfl _ _ _) rfl ?_
    rw [FIN.out]
    exact ⟨rfl, HF.out.drewN _, Pp.below_drewN _ _ _⟩
  · have E2 : Hid (pptE b z (Pp.pipE S z) = .pointer none ∧ errV (Pp.pipE S z) = .iface 61 (.int .i64 (Pp.pipE S z)) ∧ Pp.ofV S z = #[.int .i64 0, .int .i64 0, .int .i64 0, errV (Pp.pipE S z)]) := Hid.intro ⟨pptE_no c, errV_ne c, if_neg c⟩
    clear h c
    go_enter Try.func17, Try.ntmps17
    go_wp2_with fail
    refine (ppipe_any b z S _ HF.out).mono ?_
    rintro e w1 ⟨rfl, hw1⟩
    subst w1
    rw [E2.out.1, E2.out.2.1]
    go_wp2_with fail
    (try simp only [Exit.then]); refine bodyPost_ret (Pp.results4 rfl _ _ _) rfl ?_
    rw [E2.out.2.2, E2.out.2.1]
    exact ⟨rfl, HF.out, Below.refl _ _⟩
end Go.Proofs.Ytddjjfapbbeahaa

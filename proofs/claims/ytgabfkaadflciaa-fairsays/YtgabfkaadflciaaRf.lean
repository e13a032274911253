/- The document's own sched: AddGroup, AddTask, DropGroup, DropTask, MoveTask, NewSched. -/
import Derived.Test.YtgabfkaadflciaaRe
namespace Go.Proofs.Ytgabfkaadflciaa
open Go.RowKit
open Fr (Un M)

set_option maxRecDepth 100000 in
set_option maxHeartbeats 1000000 in
theorem raddGroup_any (b : Nat) (z g wt : Int) (m : M) (w : World) (h : RAt w b m) :
    Calls Try.prog 103 #[.pointer (some ⟨b, 0, none⟩), .int .i64 z, .int .i64 g, .int .i64 wt] w fun e w' => e = .returned (.int .i64 (Fr.addGroupE m z g wt)) ∧ RAt w' b (Fr.addGroupM m z g wt) ∧ Frm b w w' := by
  have HF := Hid.intro h
  clear h
  by_cases k : z < 0 ∨ 10 ≤ z
  · have e : Hid (Fr.addGroupE m z g wt = 1 ∧ Fr.addGroupM m z g wt = m) := Hid.intro (by
      have e : Fr.addGroupE m z g wt = 1 := if_pos k
      refine ⟨e, ?_⟩
      unfold Fr.addGroupM Fr.addM; rw [e]; rfl)
    by_cases k1 : z < 0
    · clear k
      go_enter Try.func103, Try.ntmps103
      go_wp2
      go_ret
      rw [e.out.1, e.out.2]; exact ⟨rfl, HF.out, Frm.refl b w⟩
    · have d1 : decide (z < 0) = false := by simp; omega
      have d2 : 9 < z := by omega
      clear k k1
      go_enter Try.func103, Try.ntmps103
      go_wp2
      go_ret
      rw [e.out.1, e.out.2]; exact ⟨rfl, HF.out, Frm.refl b w⟩
  · obtain ⟨n, rfl⟩ := Int.eq_ofNat_of_zero_le (show 0 ≤ z by omega)
    have e : Hid (Fr.addGroupE m n g wt = Fr.addE m n g wt) := Hid.intro (by unfold Fr.addGroupE; rw [if_neg k, Int.toNat_natCast])
    have d1 : ¬ (9 : Int) < (n : Int) := by omega
    have hn : n < 30 := by omega
    clear k
    go_enter Try.func103, Try.ntmps103
    go_wp2_with fail
    refine (radd_any b n n g wt rfl m _ HF.out hn).mono ?_
    rintro e w1 ⟨rfl, f1, r1⟩
    have FIN : Hid (RAt w1 b (Fr.addGroupM m n g wt) ∧ Frm b w w1) := Hid.intro ⟨by unfold Fr.addGroupM; rw [e.out, Int.toNat_natCast]; exact f1, r1⟩
    clear f1 r1
    go_wp2_with fail
    go_ret
    rw [e.out]; exact ⟨rfl, FIN.out⟩

set_option maxRecDepth 100000 in
set_option maxHeartbeats 1000000 in
theorem raddTask_any (b : Nat) (z g wt : Int) (m : M) (w : World) (h : RAt w b m) :
    Calls Try.prog 104 #[.pointer (some ⟨b, 0, none⟩), .int .i64 z, .int .i64 g, .int .i64 wt] w fun e w' => e = .returned (.int .i64 (Fr.addTaskE m z g wt)) ∧ RAt w' b (Fr.addTaskM m z g wt) ∧ Frm b w w' := by
  have HF := Hid.intro h
  clear h
  by_cases k : z < 0 ∨ 20 ≤ z
  · have e : Hid (Fr.addTaskE m z g wt = 1 ∧ Fr.addTaskM m z g wt = m) := Hid.intro (by
      have e : Fr.addTaskE m z g wt = 1 := if_pos k
      refine ⟨e, ?_⟩
      unfold Fr.addTaskM Fr.addM; rw [e]; rfl)
    by_cases k1 : z < 0
    · clear k
      go_enter Try.func104, Try.ntmps104
      go_wp2
      go_ret
      rw [e.out.1, e.out.2]; exact ⟨rfl, HF.out, Frm.refl b w⟩
    · have d1 : decide (z < 0) = false := by simp; omega
      have d2 : 19 < z := by omega
      clear k k1
      go_enter Try.func104, Try.ntmps104
      go_wp2
      go_ret
      rw [e.out.1, e.out.2]; exact ⟨rfl, HF.out, Frm.refl b w⟩
  · obtain ⟨n, rfl⟩ := Int.eq_ofNat_of_zero_le (show 0 ≤ z by omega)
    have e : Hid (Fr.addTaskE m n g wt = Fr.addE m (10 + n) g wt) := Hid.intro (by unfold Fr.addTaskE; rw [if_neg k, Int.toNat_natCast])
    have d1 : ¬ (19 : Int) < (n : Int) := by omega
    have hn : 10 + n < 30 := by omega
    clear k
    go_enter Try.func104, Try.ntmps104
    go_wp2_with fail
    refine (radd_any b (10 + n) _ g wt (by omega) m _ HF.out hn).mono ?_
    rintro e w1 ⟨rfl, f1, r1⟩
    have FIN : Hid (RAt w1 b (Fr.addTaskM m n g wt) ∧ Frm b w w1) := Hid.intro ⟨by unfold Fr.addTaskM; rw [e.out, Int.toNat_natCast]; exact f1, r1⟩
    clear f1 r1
    go_wp2_with fail
    go_ret
    rw [e.out]; exact ⟨rfl, FIN.out⟩

set_option maxRecDepth 100000 in
set_option maxHeartbeats 1000000 in
theorem rdropTask_any (b : Nat) (z : Int) (m : M) (w : World) (h : RAt w b m) (hI : Fr.Inv m) :
    Calls Try.prog 108 #[.pointer (some ⟨b, 0, none⟩), .int .i64 z] w fun e w' => e = .returned (.int .i64 (Fr.taskE m z)) ∧ ∃ m', Fr.DropTo m z m' ∧ RAt w' b m' ∧ Frm b w w' := by
  have HF := Hid.intro h
  have HI := Hid.intro hI
  clear h hI
  rcases taskE_cases m z with k | k
  · have HK := Hid.intro k
    obtain ⟨n, rfl, hn, hh⟩ := Fr.taskE_zero k
    have hnI : (n : Int) < 20 := by omega
    clear k hh
    go_enter Try.func108, Try.ntmps108
    go_wp2_with fail
    refine (rwake_any b n false m _ HF.out HI.out).mono ?_
    rintro e w1 ⟨rfl, m1, k1, f1, r1⟩
    rw [HK.out]
    have K1 : Hid (Fr.Look (m.set (10 + n) { m.u (10 + n) with awake := false }) (10 + n) m1) := Hid.intro (by
      rcases k1 with ⟨_, k1⟩ | ⟨k1, _⟩
      · exact k1
      · exact absurd HK.out k1)
    have A1 := Hid.intro f1
    have R1 := Hid.intro r1
    obtain ⟨c0, c1, c2, c3, c4, c5, c6, c7, c8, c9, ca, cb⟩ := f1.cells (10 + n) (by omega)
    have cf := f1.frozen
    clear k1 f1 r1
    go_wp2_with fail
    go_ret
    rw [HK.out]
    exact ⟨rfl, _, .inl ⟨HK.out, m1, K1.out, rfl⟩, A1.out.put (10 + n) Un.no (by omega), R1.out.set12 _ _ _ _ _ _ _ _ _ _ _ _ _ _ _ _ _ _ _ _ _ _ _ _⟩
  · have HK := Hid.intro k
    obtain ⟨E, hE⟩ : ∃ E, Fr.taskE m z = E := ⟨_, rfl⟩
    have HE := Hid.intro hE
    rw [hE] at k
    have k' : (E == 0) = false := by simp; omega
    clear hE
    go_enter Try.func108, Try.ntmps108
    go_wp2_with fail
    refine (rwake_any b z false m _ HF.out HI.out).mono ?_
    rintro e w1 ⟨rfl, m1, k1, f1, r1⟩
    rw [HE.out]
    have FIN : Hid (∃ m', Fr.DropTo m z m' ∧ RAt w1 b m' ∧ Frm b w w1) := Hid.intro (by
      rcases k1 with ⟨k1, _⟩ | ⟨_, e⟩
      · have := HK.out; omega
      · rw [e] at f1; exact ⟨m, .inr ⟨by have := HK.out; omega, rfl⟩, f1, r1⟩)
    clear k1 f1 r1
    go_wp2_with fail
    go_ret
    rw [HE.out]; exact ⟨rfl, FIN.out⟩

end Go.Proofs.Ytgabfkaadflciaa

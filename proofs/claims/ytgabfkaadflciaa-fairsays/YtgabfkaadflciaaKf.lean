/- The closed fact 'runs'; the law FairSays. -/
import Derived.Test.YtgabfkaadflciaaKe
import Derived.Handy
import Derived.BigQuiet
namespace Go.Proofs.Ytgabfkaadflciaa
open Go.RowKit
open Fr (Un M)

namespace Fr
def r1 : M := addTaskM m0 4 0 10
def r2 : M := line (r1.set 14 { r1.u 14 with awake := true }) 14
def r3 : M := payR (up1 r2) 14
theorem r1_add : addTaskE m0 4 0 10 = 0 := by decide +kernel
theorem r1_task : taskE r1 4 = 0 := by decide +kernel
theorem r2_wake : WakeTo r1 4 true r2 := .inl ⟨r1_task, Look.up (by decide) (by
  have e : grp (r1.set (10 + (4 : Int).toNat) { r1.u (10 + (4 : Int).toNat) with awake := true }) (10 + (4 : Int).toNat) = 0 := by decide +kernel
  rw [e]; exact Look.root _)⟩
theorem renew_id {m : M} (h : ∀ n, n < 10 → (m.u n).quota = 0) : ∀ k n, n + k = 10 → Renew m n m
  | 0, n, e => by obtain rfl : n = 10 := by omega
                  exact Renew.done m
  | k + 1, n, e => Renew.step (by omega) (.inr ⟨fun c => by have := h n (by omega); omega, rfl⟩) (renew_id h k (n + 1) (by omega))
theorem r2_quota : ∀ n, n < 10 → (r2.u n).quota = 0 := by decide +kernel
theorem r2_best : Best (up1 r2) 0 14 := ⟨by decide, by decide +kernel, by decide +kernel⟩
theorem r3_tick : Tick r2 4 r3 := ⟨r2, renew_id r2_quota 10 0 rfl, .inr ⟨14, Pick.down (by decide) r2_best (Pick.task (by decide)), by decide, Pays.up (by decide) (by
  have e : grp (up1 r2) 14 = 0 := by decide +kernel
  rw [e]; exact Pays.root _)⟩⟩
theorem r3_task : taskE r3 4 = 0 := by decide +kernel
theorem r3_ran : (r3.u 14).ran = 1 := by decide +kernel
theorem r3_now : r3.now = 1 := by decide +kernel
end Fr

set_option maxRecDepth 100000 in
set_option maxHeartbeats 1000000 in
theorem runs_any (w : World) : Calls Try.prog 48 #[] w fun e w' => e = .returned (.bool true) ∧ Below w.heap.size w w' := by
  go_enter Try.func48, Try.ntmps48
  go_wp2_with fail
  refine (new_any _).mono ?_
  rintro e W1 ⟨rfl, f1, b1, _⟩
  have H1 := Hid.intro (And.intro f1 b1)
  clear f1 b1
  go_wp2_with fail
  refine (addTask_any w.heap.size 4 0 10 Fr.m0 _ H1.out.1 Fr.inv0).mono ?_
  rintro e W2 ⟨rfl, f2, r2⟩
  have H2 := Hid.intro (And.intro f2 (r2.below H1.out.2 (Nat.le_refl _) H1.out.2.size))
  clear f2 r2
  rw [Fr.r1_add, errV_zero]
  go_wp2_with fail
  refine (wake_any w.heap.size 4 true _ _ H2.out.1 (Fr.inv0.addTask 4 0 10)).mono ?_
  rintro e W3 ⟨rfl, m3, k3, f3, r3⟩
  obtain rfl := Fr.r2_wake.unique k3
  have H3 := Hid.intro (And.intro f3 (r3.below H2.out.2 (Nat.le_refl _) H2.out.2.size))
  have I3 := Hid.intro ((Fr.inv0.addTask 4 0 10).wake k3)
  clear k3 f3 r3
  rw [show Fr.taskE (Fr.addTaskM Fr.m0 4 0 10) 4 = 0 from Fr.r1_task, errV_zero]
  go_wp2_with fail
  refine (tick_any w.heap.size _ _ H3.out.1 I3.out (by show 0 < 1000000; omega)).mono ?_
  rintro e W4 ⟨x, m4, rfl, k4, f4, r4⟩
  obtain ⟨rfl, rfl⟩ := Fr.r3_tick.unique k4
  have H4 := Hid.intro (And.intro f4 (r4.below H3.out.2 (Nat.le_refl _) H3.out.2.size))
  clear k4 f4 r4
  go_wp2_with fail
  refine (ran_any w.heap.size 4 _ _ H4.out.1).mono ?_
  rintro e W5 ⟨rfl, hW⟩
  subst W5
  rw [show ranI Fr.r3 4 = 1 by unfold ranI; rw [if_pos Fr.r3_task]; show ((Fr.r3.u 14).ran : Int) = 1; rw [Fr.r3_ran]; rfl, Fr.r3_task, errV_zero]
  go_wp2_with fail
  refine (same_nil _).mono ?_
  rintro e W5 ⟨rfl, hW⟩
  subst W5
  go_wp2_with fail
  refine (now_any w.heap.size _ _ H4.out.1).mono ?_
  rintro e W5 ⟨rfl, hW⟩
  subst W5
  rw [Fr.r3_now]
  go_wp2_with fail
  go_ret
  exact ⟨rfl, H4.out.2⟩

/-- What the law has in its hands. -/
structure FL (w W : World) (b r : Nat) (m : M) : Prop where
  bel : Below w.heap.size w W
  le : w.heap.size ≤ b
  le' : w.heap.size ≤ r
  fb : FB W b r m
theorem FL.step {w W W' : World} {b r : Nat} {m m' : M} (h : FL w W b r m) (k : FB W' b r m') (t : Two b r W W') : FL w W' b r m' := ⟨t.behind h.bel h.le h.le' h.bel.size, h.le, h.le', k⟩
theorem FL.drewN {w W : World} {b r : Nat} {m : M} (h : FL w W b r m) (n : Nat) : FL w (W.drewN n) b r m := ⟨below_drewN h.bel n, h.le, h.le', ⟨h.fb.fair.drewN n, h.fb.ref.drewN n, h.fb.inv, h.fb.syn, h.fb.ne⟩⟩

set_option maxRecDepth 100000 in
set_option maxHeartbeats 400000 in
theorem fs_far (a0 : Option Addr) (n0 c0 : Nat) (w : World) (h : 100 < n0) :
    Calls Try.prog 7 #[.slice a0 n0 c0] w fun e w' => e = .returned (.bool true) ∧ Below w.heap.size w w' := by
  have d : decide ((n0 : Int) ≤ 100) = false := by simp; omega
  go_enter Try.func7, Try.ntmps7
  go_wp2_with fail
  refine (runs_any _).mono ?_
  rintro e W1 ⟨rfl, hb⟩
  have HB := Hid.intro hb
  clear hb
  go_wp2_with fail
  refine (light_any _ _ _ _ _).mono ?_
  rintro e W2 ⟨rfl, rfl⟩
  rw [d]
  go_wp2
  go_ret
  exact ⟨rfl, HB.out⟩

set_option maxRecDepth 100000 in
set_option maxHeartbeats 4000000 in
theorem fs_near (a0 : Option Addr) (n0 c0 : Nat) (w : World) (h0 : IsActs0 w a0 n0) (hn : n0 ≤ 100) :
    Calls Try.prog 7 #[.slice a0 n0 c0] w fun e w' => e = .returned (.bool true) ∧ Below w.heap.size w w' := by
  have d : decide ((n0 : Int) ≤ 100) = true := by simp; omega
  have H0 := Hid.intro h0
  clear h0
  go_enter Try.func7, Try.ntmps7
  go_wp2_with fail
  refine (runs_any _).mono ?_
  rintro e W1 ⟨rfl, hb1⟩
  have HB := Hid.intro hb1
  clear hb1
  go_wp2_with fail
  refine (light_any _ _ _ _ _).mono ?_
  rintro e W2 ⟨rfl, hW2⟩
  subst W2
  rw [d]
  go_wp2_with fail
  refine (new_any _).mono ?_
  rintro e W2 ⟨rfl, f2, b2, l2⟩
  have H2 := Hid.intro (And.intro f2 (And.intro b2 l2))
  clear f2 b2 l2
  go_wp2_with fail
  refine (rnew_any _).mono ?_
  rintro e W3 ⟨rfl, f3, b3, l3⟩
  have S0 : Hid (FL w W3 W1.heap.size W2.heap.size Fr.m0 ∧ Fr.m0.now ≤ 50 * 0) := Hid.intro ⟨⟨(HB.out.trans (H2.out.2.1.mono HB.out.size)).trans (b3.mono (Nat.le_trans HB.out.size (Nat.le_of_lt H2.out.2.2))), HB.out.size, Nat.le_trans HB.out.size (Nat.le_of_lt H2.out.2.2), ⟨H2.out.1.same (b3.block _ H2.out.2.2), f3, Fr.inv0, Fr.sync0, by have := H2.out.2.2; omega⟩⟩, by show 0 ≤ 50 * 0; omega⟩
  clear f3 b3 l3 H2 HB d
  generalize W1.heap.size = b at *
  generalize W2.heap.size = r at *
  go_wp2_with fail
  go_loopw [6] (fun i wr => ∃ (k : Nat) (m : M), i = .int .i64 k ∧ k ≤ n0 ∧ Hid (FL w wr b r m ∧ m.now ≤ 50 * k)) (fun i _ => n0 - (intOf i).toNat)
  case atStart => exact ⟨0, Fr.m0, rfl, by omega, S0⟩
  case round =>
    clear S0
    obtain ⟨k, m, rfl, hk, S⟩ := hrel
    by_cases hlt : k < n0
    · have hltI : (k : Int) < (n0 : Int) := by omega
      obtain ⟨b0, o0, ax, ha, hc⟩ := H0.out.2 (by omega)
      subst ha
      obtain ⟨kd, P, Q, R, K, On, S1, T1, hax⟩ : ∃ kd A B C K On S1 T1, ax k = ⟨kd, A, B, C, K, On, S1, T1⟩ := ⟨_, _, _, _, _, _, _, _, rfl⟩
      have bl : b0 < w.heap.size := World.block_lt_of_cell? _ _ (hc k hlt 0 (by omega))
      have cl : ∀ j, j < 8 → wr.cell? ⟨b0, o0 + k * 8 + j, none⟩ = some ((⟨kd, P, Q, R, K, On, S1, T1⟩ : Act8).cell j) := fun j hj => by
        rw [← hax]; exact (S.out.1.bel.cell (p := ⟨b0, o0 + k * 8 + j, none⟩) bl).trans (hc k hlt j hj)
      have c0' : wr.cell? ⟨b0, o0 + k * 8, none⟩ = some (.string kd) := cl 0 (by omega)
      have c1 : wr.cell? ⟨b0, o0 + k * 8 + 1, none⟩ = some (.int .i64 P) := cl 1 (by omega)
      have c2 : wr.cell? ⟨b0, o0 + k * 8 + 2, none⟩ = some (.int .i64 Q) := cl 2 (by omega)
      have c3 : wr.cell? ⟨b0, o0 + k * 8 + 3, none⟩ = some (.int .i64 R) := cl 3 (by omega)
      have c4 : wr.cell? ⟨b0, o0 + k * 8 + 4, none⟩ = some (.int .u64 K) := cl 4 (by omega)
      have c5 : wr.cell? ⟨b0, o0 + k * 8 + 5, none⟩ = some (.bool On) := cl 5 (by omega)
      have c6 : wr.cell? ⟨b0, o0 + k * 8 + 6, none⟩ = some (.string S1) := cl 6 (by omega)
      have c7 : wr.cell? ⟨b0, o0 + k * 8 + 7, none⟩ = some (.string T1) := cl 7 (by omega)
      clear cl hax bl hc
      go_wp2_with fail
      refine (scheduled_any b r m kd P Q R K On S1 T1 _ S.out.1.fb (by have := S.out.2; omega)).mono ?_
      rintro e W4 ⟨rfl, m4, f4, n4, t4⟩
      have S4 : Hid (FL w W4 b r m4 ∧ m4.now ≤ 50 * (k + 1)) := Hid.intro ⟨S.out.1.step f4 t4, by have := S.out.2; omega⟩
      clear f4 n4 t4 c0' c1 c2 c3 c4 c5 c6 c7 S
      have x1 := S4.out.1.fb.ref.now
      go_wp2_with fail
      go_quiet ((go_at_call 52; exact Calls.quiet_of_same (now_any b m4 _ (S4.out.1.fb.fair.drewN _))))
      go_wp2_with fail
      go_roundw
      case rel => exact ⟨k + 1, m4, by go_num, by omega, S4.out.1.drewN _, S4.out.2⟩
      case measure => simp [intOf]; omega
    · have hkn : k = n0 := by omega
      subst hkn
      clear hlt
      go_wp2_with fail
      have S5 : Hid (FL w wr b r m) := Hid.intro S.out.1
      clear S
      go_loopw [8] (fun i wr => ∃ (z : Int), i = .int .i64 z ∧ -1 ≤ z ∧ z ≤ 21 ∧ Hid (FL w wr b r m)) (fun i _ => (21 - intOf i).toNat)
      case atStart => exact ⟨-1, rfl, by omega, by omega, S5⟩
      case round =>
        clear S5
        obtain ⟨z, rfl, hz1, hz2, S⟩ := hrel
        by_cases hz : z ≤ 20
        · go_wp2_with fail
          refine (ran_any b z m _ S.out.fb.fair).mono ?_
          rintro e W5 ⟨rfl, hW⟩
          subst W5
          go_wp2_with fail
          refine (rtask_any r z m _ S.out.fb.ref).mono ?_
          rintro e W5 ⟨rfl, hW⟩
          subst W5
          by_cases ht : Fr.taskE m z = 0
          · obtain ⟨n, rfl, hn20, _⟩ := Fr.taskE_zero ht
            have hr : ranI m n = ((m.u (10 + n)).ran : Int) := by unfold ranI; rw [if_pos ht, Int.toNat_natCast]
            have cc := (S.out.fb.ref.cells (10 + n) (by omega)).c6
            have hnI : (n : Int) < 20 := by omega
            have h30 : (10 : Int) + (n : Int) < 30 := by omega
            have h00 : (0 : Int) ≤ 10 + (n : Int) := by omega
            have hwr : IntKind.i64.wrap (10 + (n : Int)) = 10 + (n : Int) := IntWalk.i64_in _ ⟨by omega, by omega⟩
            rw [hr, ht, errV_zero]
            clear ht hr
            go_wp2_with fail
            refine (same_nil _).mono ?_
            rintro e W5 ⟨rfl, hW⟩
            subst W5
            go_wp2_with fail
            go_roundw
            case rel => exact ⟨(n : Int) + 1, by go_num, by omega, by omega, S.out⟩
            case measure => simp [intOf]; omega
          · have hr : ranI m z = 0 := by unfold ranI; rw [if_neg ht]
            have hp := taskE_cases m z
            rw [hr, errV_ne ht]
            obtain ⟨E, hE⟩ : ∃ E, Fr.taskE m z = E := ⟨_, rfl⟩
            rw [hE] at ht hp ⊢
            have hp' : 0 < E := by omega
            have hp2 : (E == 0) = false := by simp; omega
            clear hr ht hp hE
            go_wp2_with fail
            refine (same_err E hp' _).mono ?_
            rintro e W5 ⟨rfl, hW⟩
            subst W5
            go_wp2_with fail
            go_roundw
            case rel => exact ⟨z + 1, by go_num, by omega, by omega, S.out⟩
            case measure => simp [intOf]; omega
        · go_wp2_with fail
          go_ret
          exact ⟨rfl, S.out.bel⟩

theorem fs_any (a : Option Addr) (len cap : Nat) (w : World) (h : IsActs0 w a len) :
    Calls Try.prog 7 #[.slice a len cap] w fun e w' => e = .returned (.bool true) ∧ Below w.heap.size w w' := by
  by_cases hf : 100 < len
  · exact fs_far a len cap w hf
  · exact fs_near a len cap w h (by omega)
end Go.Proofs.Ytgabfkaadflciaa

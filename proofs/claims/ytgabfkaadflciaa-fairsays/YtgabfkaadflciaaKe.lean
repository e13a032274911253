/- scheduled, act by act (ticks; whatever act). -/
import Derived.Test.YtgabfkaadflciaaKc
import Derived.Test.YtgabfkaadflciaaKd
namespace Go.Proofs.Ytgabfkaadflciaa
open Go.RowKit
open Fr (Un M)

set_option maxRecDepth 100000 in
set_option maxHeartbeats 2000000 in
theorem sch_tick (b r : Nat) (m : M) (kd : ByteArray) (P Q R : Int) (K : Nat) (On : Bool) (S1 T1 : ByteArray) (w : World) (h : FB w b r m) (hn : m.now ≤ 900000) (k0 : (kd.toList == [103, 114, 111, 117, 112]) = false) (k1 : (kd.toList == [116, 97, 115, 107]) = false) (k2 : (kd.toList == [110, 111, 103, 114, 111, 117, 112]) = false) (k3 : (kd.toList == [110, 111, 116, 97, 115, 107]) = false) (k4 : (kd.toList == [109, 111, 118, 101]) = false) (k5 : (kd.toList == [119, 97, 107, 101]) = false) (k6 : (kd.toList == [102, 114, 101, 101, 122, 101]) = false) (k7 : (kd.toList == [113, 117, 111, 116, 97]) = false) :
    Calls Try.prog 51 #[.pointer (some ⟨b, 0, none⟩), .pointer (some ⟨r, 0, none⟩), .agg #[.string kd, .int .i64 P, .int .i64 Q, .int .i64 R, .int .u64 K, .bool On, .string S1, .string T1]] w fun e w' => e = .returned (.bool true) ∧ Both w b r m w' := by
  have HF := Hid.intro h
  clear h
  obtain ⟨lim, hlim⟩ : ∃ lim : Int, (if 50 < Q then 50 else Q) = lim := ⟨_, rfl⟩
  have hl50 : lim ≤ 50 := by rw [← hlim]; split <;> omega
  go_enter Try.func51, Try.ntmps51
  go_wp2_with fail
  refine wp_gen (fun W' => FB W' b r m ∧ Two b r w W' ∧ W'.heap[w.heap.size]? = some (.cells #[.string kd, .int .i64 P, .int .i64 Q, .int .i64 R, .int .u64 K, .bool On, .string S1, .string T1] 36 (0, 0))) ⟨HF.out.below ((Below.refl _ _).alloc (Nat.le_refl _) _), Two.below ((Below.refl _ _).alloc (Nat.le_refl _) _), heap_alloc_new w _⟩ ?_
  rintro W3 ⟨h3, t3, hbx⟩
  have S3 := Hid.intro (And.intro h3 (And.intro t3 hbx))
  have HBA : Hid (w.heap.size ≠ b ∧ w.heap.size ≠ r) := ⟨by have := HF.out.fair.lt; omega, by have := HF.out.ref.lt; omega⟩
  clear h3 t3 hbx HF
  generalize w.heap.size = ba at *
  go_loopw [7] (fun i wr => ∃ (j : Nat) (m' : M), i = .int .i64 j ∧ j ≤ 50 ∧ Hid (FB wr b r m' ∧ m'.now = m.now + j ∧ Two b r w wr ∧ wr.heap[ba]? = some (.cells #[.string kd, .int .i64 P, .int .i64 Q, .int .i64 R, .int .u64 K, .bool On, .string S1, .string T1] 36 (0, 0)))) (fun i _ => 50 - (intOf i).toNat)
  case atStart => exact ⟨0, m, rfl, by omega, S3.out.1, rfl, S3.out.2.1, S3.out.2.2⟩
  case round =>
    clear S3
    obtain ⟨j, m', rfl, hj, S⟩ := hrel
    have x2 := act_cells S.out.2.2.2 2 _ rfl
    by_cases hB : (j : Int) < lim
    · have hj50 : j < 50 := by omega
      have hl := Hid.intro (Array.getElem?_eq_some_iff.1 S.out.2.2.2).1
      go_wp2_with fail
      refine (tick_any b m' _ S.out.1.fair S.out.1.inv (by have := S.out.2.1; omega)).mono ?_
      rintro e w4 ⟨x, m4, rfl, k4, f4, r4⟩
      have P4 := Hid.intro (And.intro k4 (And.intro f4 r4))
      clear k4 f4 r4 x2
      go_wp2_with fail
      refine (rtick_any r m' _ (S.out.1.ref' P4.out.2.2) S.out.1.inv (by have := S.out.2.1; omega)).mono ?_
      rintro e w5 ⟨y, m5, rfl, k5, f5, r5⟩
      obtain ⟨rfl, rfl⟩ := P4.out.1.unique k5
      have P5 : Hid (FB w5 b r m4 ∧ m4.now = m.now + (j + 1) ∧ Two b r w w5 ∧ w5.heap[ba]? = some (.cells #[.string kd, .int .i64 P, .int .i64 Q, .int .i64 R, .int .u64 K, .bool On, .string S1, .string T1] 36 (0, 0))) := Hid.intro ⟨S.out.1.step P4.out.2.1 f5 r5 (S.out.1.inv.tick k5).1 (Fr.Sync.tick S.out.1.inv S.out.1.syn k5), by rw [(S.out.1.inv.tick k5).2, S.out.2.1]; omega, (S.out.2.2.1.left P4.out.2.2).right r5, (r5.block ba (Nat.lt_of_lt_of_le hl.out P4.out.2.2.size) HBA.out.2).trans ((P4.out.2.2.block ba hl.out HBA.out.1).trans S.out.2.2.2)⟩
      clear k5 f5 r5
      go_wp2_with fail
      go_roundw
      case rel => exact ⟨j + 1, m4, by go_num, by omega, P5.out⟩
      case measure => simp [intOf]; omega
    · go_wp2_with fail
      go_ret
      exact ⟨rfl, m', S.out.1, by rw [S.out.2.1]; omega, S.out.2.2.1⟩

theorem scheduled_any (b r : Nat) (m : M) (kd : ByteArray) (P Q R : Int) (K : Nat) (On : Bool) (S1 T1 : ByteArray) (w : World) (h : FB w b r m) (hn : m.now ≤ 900000) :
    Calls Try.prog 51 #[.pointer (some ⟨b, 0, none⟩), .pointer (some ⟨r, 0, none⟩), .agg #[.string kd, .int .i64 P, .int .i64 Q, .int .i64 R, .int .u64 K, .bool On, .string S1, .string T1]] w fun e w' => e = .returned (.bool true) ∧ Both w b r m w' := by
  by_cases k0 : (kd.toList == [103, 114, 111, 117, 112]) = true
  · exact sch_group b r m kd P Q R K On S1 T1 w h  k0
  · by_cases k1 : (kd.toList == [116, 97, 115, 107]) = true
    · exact sch_task b r m kd P Q R K On S1 T1 w h (by simpa using k0) k1
    · by_cases k2 : (kd.toList == [110, 111, 103, 114, 111, 117, 112]) = true
      · exact sch_nogroup b r m kd P Q R K On S1 T1 w h (by simpa using k0) (by simpa using k1) k2
      · by_cases k3 : (kd.toList == [110, 111, 116, 97, 115, 107]) = true
        · exact sch_notask b r m kd P Q R K On S1 T1 w h (by simpa using k0) (by simpa using k1) (by simpa using k2) k3
        · by_cases k4 : (kd.toList == [109, 111, 118, 101]) = true
          · exact sch_move b r m kd P Q R K On S1 T1 w h (by simpa using k0) (by simpa using k1) (by simpa using k2) (by simpa using k3) k4
          · by_cases k5 : (kd.toList == [119, 97, 107, 101]) = true
            · exact sch_wake b r m kd P Q R K On S1 T1 w h (by simpa using k0) (by simpa using k1) (by simpa using k2) (by simpa using k3) (by simpa using k4) k5
            · by_cases k6 : (kd.toList == [102, 114, 101, 101, 122, 101]) = true
              · exact sch_freeze b r m kd P Q R K On S1 T1 w h (by simpa using k0) (by simpa using k1) (by simpa using k2) (by simpa using k3) (by simpa using k4) (by simpa using k5) k6
              · by_cases k7 : (kd.toList == [113, 117, 111, 116, 97]) = true
                · exact sch_quota b r m kd P Q R K On S1 T1 w h (by simpa using k0) (by simpa using k1) (by simpa using k2) (by simpa using k3) (by simpa using k4) (by simpa using k5) (by simpa using k6) k7
                · exact sch_tick b r m kd P Q R K On S1 T1 w h hn (by simpa using k0) (by simpa using k1) (by simpa using k2) (by simpa using k3) (by simpa using k4) (by simpa using k5) (by simpa using k6) (by simpa using k7)
end Go.Proofs.Ytgabfkaadflciaa

/- TopSignals. -/
import Derived.Test.YtpdphbhlnfeijaaSc
import Derived.StillTailTactics
namespace Go.Proofs.Ytpdphbhlnfeijaa
open Go.RowKit
open Sg (S1)

theorem boxT_new (w : World) : CX (w.alloc (.cells (boxA Sg.nul) 30)) w.heap.size Sg.nul ∧ Below w.heap.size w (w.alloc (.cells (boxA Sg.nul) 30)) :=
  ⟨CX.of_blk (heap_alloc_new w _), (Below.refl _ _).alloc (Nat.le_refl _) _⟩
theorem zeroB9 : arrB 9 (fun _ => false) = #[.bool false, .bool false, .bool false, .bool false, .bool false, .bool false, .bool false, .bool false, .bool false] := rfl
/-- What is held and waits, as the law has written it down. -/
def Sg.Kn (X : Nat → S1) (H V : Nat → Bool) : Prop := ∀ n, 1 ≤ n → n ≤ 8 → H n = (X n).hd ∧ ((X n).wt = true → V n = true)
/-- What the law has in its hands. -/
structure TY (w W : World) (b hb wb : Nat) (X : Nat → S1) (H V : Nat → Bool) : Prop where
  bel : Below w.heap.size w W
  le : w.heap.size ≤ b
  leh : w.heap.size ≤ hb
  lew : w.heap.size ≤ wb
  neh : b ≠ hb
  new : b ≠ wb
  nhw : hb ≠ wb
  code : CX W b X
  hel : BAt W hb 9 32 H
  wai : BAt W wb 9 32 V
  kn : Sg.Kn X H V
section
variable {w W W' : World} {b hb wb : Nat} {X X' : Nat → S1} {H V : Nat → Bool}
theorem TY.below (h : TY w W b hb wb X H V) (k : Below W.heap.size W W') : TY w W' b hb wb X H V :=
  ⟨h.bel.trans (k.mono h.bel.size), h.le, h.leh, h.lew, h.neh, h.new, h.nhw, h.code.below k h.code.lt, h.hel.same (k.block _ h.hel.lt), h.wai.same (k.block _ h.wai.lt), h.kn⟩
theorem TY.drew (h : TY w W b hb wb X H V) : TY w W.drew b hb wb X H V := ⟨h.bel.drew, h.le, h.leh, h.lew, h.neh, h.new, h.nhw, h.code.drew, h.hel, h.wai, h.kn⟩
/-- The box has turned; what the law has written down is told apart. -/
structure TZ (w W : World) (b hb wb : Nat) (X : Nat → S1) (H V : Nat → Bool) : Prop where
  bel : Below w.heap.size w W
  le : w.heap.size ≤ b
  leh : w.heap.size ≤ hb
  lew : w.heap.size ≤ wb
  neh : b ≠ hb
  new : b ≠ wb
  nhw : hb ≠ wb
  code : CX W b X
  hel : BAt W hb 9 32 H
  wai : BAt W wb 9 32 V
theorem TY.z (h : TY w W b hb wb X H V) (c : CX W' b X') (k : Frm b W W') : TZ w W' b hb wb X' H V :=
  ⟨k.below h.bel h.le h.bel.size, h.le, h.leh, h.lew, h.neh, h.new, h.nhw, c, h.hel.same (k.block _ h.hel.lt (Ne.symm h.neh)), h.wai.same (k.block _ h.wai.lt (Ne.symm h.new))⟩
theorem TZ.y (h : TZ w W b hb wb X H V) (k : Sg.Kn X H V) : TY w W b hb wb X H V := ⟨h.bel, h.le, h.leh, h.lew, h.neh, h.new, h.nhw, h.code, h.hel, h.wai, k⟩
theorem TZ.drew (h : TZ w W b hb wb X H V) : TZ w W.drew b hb wb X H V := ⟨h.bel.drew, h.le, h.leh, h.lew, h.neh, h.new, h.nhw, h.code.drew, h.hel, h.wai⟩
theorem TZ.setW (h : TZ w W b hb wb X H V) (n : Nat) (hn : n < 9) (v : Bool) : TZ w (W.setCell ⟨wb, n, none⟩ (.bool v)) b hb wb X H (updB V n v) :=
  ⟨h.bel.setCell h.lew _, h.le, h.leh, h.lew, h.neh, h.new, h.nhw, h.code.same (setBlk _ _ _ _ h.new), h.hel.same (setBlk _ _ _ _ h.nhw), h.wai.set n v hn⟩
theorem TZ.setH (h : TZ w W b hb wb X H V) (n : Nat) (hn : n < 9) (v : Bool) : TZ w (W.setCell ⟨hb, n, none⟩ (.bool v)) b hb wb X (updB H n v) V :=
  ⟨h.bel.setCell h.leh _, h.le, h.leh, h.lew, h.neh, h.new, h.nhw, h.code.same (setBlk _ _ _ _ h.neh), h.hel.set n v hn, h.wai.same (setBlk _ _ _ _ (Ne.symm h.nhw))⟩
end
namespace Sg
variable {X : Nat → S1} {H V : Nat → Bool}
theorem Kn.sen (h : Kn X H V) (n : Nat) (h1 : 1 ≤ n) (h8 : n ≤ 8) (v : Bool) (hv : (senF X n n).wt = true → v = true) : Kn (senF X n) H (updB V n v) := fun m m1 m8 => by
  by_cases e : m = n
  · subst e
    rw [updB_same]
    refine ⟨?_, hv⟩
    rw [(h m m1 m8).1]
    unfold senF
    rw [if_pos (isE_ok (by omega) (by omega)), Int.toNat_natCast, put_same]
  · rw [updB_ne _ _ _ _ e]
    have : senF X n m = X m := by unfold senF; rw [if_pos (isE_ok (by omega) (by omega)), Int.toNat_natCast, put_ne _ _ _ _ e]
    rw [this]
    exact h m m1 m8
theorem Kn.hol (h : Kn X H V) (n : Nat) (on : Bool) (e0 : holE n = 0) : Kn (holF X n on) (updB H n on) V := fun m m1 m8 => by
  unfold holF
  rw [if_pos e0, Int.toNat_natCast]
  by_cases e : m = n
  · subst e
    rw [updB_same, put_same]
    exact ⟨rfl, (h m m1 m8).2⟩
  · rw [updB_ne _ _ _ _ e, put_ne _ _ _ _ e]
    exact h m m1 m8
theorem Kn.how (h : Kn X H V) (n : Nat) (k : Int) (e0 : howE n k = 0) : Kn (howF X n k) H V := fun m m1 m8 => by
  unfold howF
  rw [if_pos e0, Int.toNat_natCast]
  by_cases e : m = n
  · subst e
    rw [put_same]
    refine ⟨(h m m1 m8).1, fun hw => (h m m1 m8).2 ?_⟩
    have hw' : ((X m).wt && !ign m k) = true := hw
    rw [Bool.and_eq_true] at hw'
    exact hw'.1
  · rw [put_ne _ _ _ _ e]
    exact h m m1 m8
theorem Kn.off (h : Kn X H V) (n : Nat) (hn : (X n).wt = false) : Kn X H (updB V n false) := fun m m1 m8 => by
  by_cases e : m = n
  · subst e
    rw [updB_same]
    exact ⟨(h m m1 m8).1, fun hw => by rw [hn] at hw; cases hw⟩
  · rw [updB_ne _ _ _ _ e]
    exact h m m1 m8
theorem how_off (n : Nat) (k : Int) (e0 : howE n k = 0) (hi : ign n k = true) : (howF X n k n).wt = false := by
  unfold howF
  rw [if_pos e0, Int.toNat_natCast, put_same]
  show ((X n).wt && !ign n k) = false
  rw [hi]
  simp
theorem Kn.tak (h : Kn X H V) (n : Nat) : Kn (takF X n) H V := fun m m1 m8 => by
  unfold takF
  by_cases c : n = 0
  · rw [if_pos c]; exact h m m1 m8
  · rw [if_neg c]
    by_cases e : m = n
    · subst e
      rw [put_same]
      exact ⟨(h m m1 m8).1, fun hw => by cases hw⟩
    · rw [put_ne _ _ _ _ e]
      exact h m m1 m8
theorem tak_off (n : Nat) (hn : n ≠ 0) : (takF X n n).wt = false := by
  unfold takF
  rw [if_neg hn, put_same]
theorem Kn.fir (h : Kn X H V) {k : Int} {n : Nat} (f : FirTo X k n) (hn : n ≠ 0) : 1 ≤ n ∧ n ≤ 8 ∧ V n = true ∧ H n = false := by
  rcases f with ⟨f, _⟩ | ⟨f1, f8, fo, _⟩
  · exact absurd f hn
  · unfold ok at fo
    simp only [Bool.and_eq_true, Bool.not_eq_true', decide_eq_true_eq] at fo
    exact ⟨f1, f8, (h n f1 f8).2 fo.1.1, by rw [(h n f1 f8).1]; exact fo.1.2⟩
theorem kn0 : Kn nul (fun _ => false) (fun _ => false) := fun _ _ _ => ⟨rfl, fun h => by cases h⟩
end Sg
def Sg.waiC (X : Nat → S1) (n : Nat) (v : Bool) : Bool := (X n).wt || v
set_option maxRecDepth 100000 in
set_option maxHeartbeats 1000000 in
theorem tg_far (a0 : Option Addr) (n0 c0 : Nat) (w : World) (h : 150 < n0) :
    Calls Try.prog 4 #[.slice a0 n0 c0] w fun e w' => e = .returned (.bool true) ∧ Below w.heap.size w w' := by
  have d : decide ((n0 : Int) ≤ 150) = false := by simp; omega
  go_enter Try.func4, Try.ntmps4
  go_upto_region 2 with (refine wp_buildBox0 rfl rfl ?_)
  refine wp_gen (fun W' => CX W' w.heap.size Sg.nul ∧ Below w.heap.size w W') (boxT_new w) ?_
  rintro W1 ⟨f1, b1⟩
  have F1 := Hid.intro f1
  have B1 := Hid.intro b1
  clear f1 b1
  go_wp2_with fail
  refine (send_any w.heap.size 5 _ _ F1.out).mono ?_
  rintro e W2 ⟨rfl, f2, k2⟩
  have F2 := Hid.intro f2
  have B2 := Hid.intro (k2.below B1.out (Nat.le_refl _) B1.out.size)
  clear f2 k2 F1 B1
  rw [show Sg.isE 5 = 0 from rfl, errV_zero]
  go_wp2_with fail
  refine (waits_any w.heap.size 5 _ _ F2.out).mono ?_
  rintro e w' ⟨rfl, hw'⟩
  subst w'
  rw [show Sg.waiB (Sg.senF Sg.nul 5) 5 = true from rfl]
  go_upto_region 5 with (refine wp_buildBox0 rfl rfl ?_)
  refine wp_gen (fun W' => CX W' W2.heap.size Sg.nul ∧ Below W2.heap.size W2 W') (boxT_new W2) ?_
  rintro W3 ⟨f3, b3⟩
  have B3 := Hid.intro (B2.out.trans (b3.mono B2.out.size))
  clear f3 b3
  go_wp2_with fail
  refine (light_any _ _ _ _ _).mono ?_
  rintro e W4 ⟨rfl, hW⟩
  subst W4
  rw [d]
  go_wp2_with fail
  go_ret
  exact ⟨rfl, B3.out⟩
set_option maxRecDepth 100000 in
set_option maxHeartbeats 8000000 in
theorem tg_near (a0 : Option Addr) (n0 c0 : Nat) (w : World) (h0 : IsActs0 w a0 n0) (hn : n0 ≤ 150) :
    Calls Try.prog 4 #[.slice a0 n0 c0] w fun e w' => e = .returned (.bool true) ∧ Below w.heap.size w w' := by
  have d : decide ((n0 : Int) ≤ 150) = true := by simp; omega
  have H0 := Hid.intro h0
  clear h0
  go_enter Try.func4, Try.ntmps4
  go_upto_region 2 with (refine wp_buildBox0 rfl rfl ?_)
  refine wp_gen (fun W' => CX W' w.heap.size Sg.nul ∧ Below w.heap.size w W') (boxT_new w) ?_
  rintro W1 ⟨f1, b1⟩
  have F1 := Hid.intro f1
  have B1 := Hid.intro b1
  clear f1 b1
  go_wp2_with fail
  refine (send_any w.heap.size 5 _ _ F1.out).mono ?_
  rintro e W2 ⟨rfl, f2, k2⟩
  have F2 := Hid.intro f2
  have B2 := Hid.intro (k2.below B1.out (Nat.le_refl _) B1.out.size)
  clear f2 k2 F1 B1
  rw [show Sg.isE 5 = 0 from rfl, errV_zero]
  go_wp2_with fail
  refine (waits_any w.heap.size 5 _ _ F2.out).mono ?_
  rintro e w' ⟨rfl, hw'⟩
  subst w'
  rw [show Sg.waiB (Sg.senF Sg.nul 5) 5 = true from rfl]
  go_upto_region 5 with (refine wp_buildBox0 rfl rfl ?_)
  refine wp_gen (fun W' => CX W' W2.heap.size Sg.nul ∧ Below W2.heap.size W2 W') (boxT_new W2) ?_
  rintro W3 ⟨f3, b3⟩
  have F3 := Hid.intro (And.intro f3 (And.intro (B2.out.trans (b3.mono B2.out.size)) B2.out.size))
  clear f3 b3 F2 B2
  go_wp2_with fail
  refine (light_any _ _ _ _ _).mono ?_
  rintro e W4 ⟨rfl, hW⟩
  subst W4
  rw [d]
  go_upto_region 8 with fail
  refine wp_gen (fun W' => TY w W' W2.heap.size W3.heap.size (W3.heap.size + 1) Sg.nul (fun _ => false) (fun _ => false)) ?_ ?_
  · have l3 := F3.out.1.lt
    have s3 := F3.out.2.2
    have hb : Below W3.heap.size W3 ((W3.alloc (.cells (arrB 9 (fun _ => false)) 32)).alloc (.cells (arrB 9 (fun _ => false)) 32)) := ((Below.refl _ W3).alloc (Nat.le_refl _) _).alloc (by simp) _
    refine ⟨F3.out.2.1.trans (hb.mono (by omega)), s3, by omega, by omega, by omega, by omega, by omega, F3.out.1.below hb l3, ?_, ?_, Sg.kn0⟩
    · show ((W3.heap.push _).push _)[W3.heap.size]? = _
      simp only [Array.getElem?_push, Array.size_push]
      rw [if_neg (by omega), if_pos trivial]
      rfl
    · show ((W3.heap.push _).push _)[W3.heap.size + 1]? = _
      simp only [Array.getElem?_push, Array.size_push]
      rw [if_pos trivial]
      rfl
  rintro W5 S5
  have S0 := Hid.intro S5
  clear S5 F3 d
  generalize W2.heap.size = b at *
  generalize W3.heap.size + 1 = wb at *
  generalize W3.heap.size = hb at *
  go_wp2_with fail
  go_loopw [6] (fun i wr => ∃ (k : Nat) (X : Nat → S1) (H V : Nat → Bool), i = .int .i64 k ∧ k ≤ n0 ∧ Hid (TY w wr b hb wb X H V)) (fun i _ => n0 - (intOf i).toNat)
  case atStart => exact ⟨0, _, _, _, rfl, by omega, S0⟩
  case round =>
    clear S0
    obtain ⟨k, X, H, V, rfl, hk, S⟩ := hrel
    by_cases hlt : k < n0
    · have hltI : (k : Int) < (n0 : Int) := by omega
      obtain ⟨b0, o0, ax, ha, hc⟩ := H0.out.2 (by omega)
      subst ha
      obtain ⟨kd, P, Q, R, K, On, S1, T1, hax⟩ : ∃ kd A B C K On S1 T1, ax k = ⟨kd, A, B, C, K, On, S1, T1⟩ := ⟨_, _, _, _, _, _, _, _, rfl⟩
      have bl : b0 < w.heap.size := World.block_lt_of_cell? _ _ (hc k hlt 0 (by omega))
      have cl : ∀ j, j < 8 → wr.cell? ⟨b0, o0 + k * 8 + j, none⟩ = some ((⟨kd, P, Q, R, K, On, S1, T1⟩ : Act8).cell j) := fun j hj => by
        rw [← hax]; exact (S.out.bel.cell (p := ⟨b0, o0 + k * 8 + j, none⟩) bl).trans (hc k hlt j hj)
      have c0' : wr.cell? ⟨b0, o0 + k * 8, none⟩ = some (.string kd) := cl 0 (by omega)
      have c1 : wr.cell? ⟨b0, o0 + k * 8 + 1, none⟩ = some (.int .i64 P) := cl 1 (by omega)
      have c2 : wr.cell? ⟨b0, o0 + k * 8 + 2, none⟩ = some (.int .i64 Q) := cl 2 (by omega)
      have c3 : wr.cell? ⟨b0, o0 + k * 8 + 3, none⟩ = some (.int .i64 R) := cl 3 (by omega)
      have c4 : wr.cell? ⟨b0, o0 + k * 8 + 4, none⟩ = some (.int .u64 K) := cl 4 (by omega)
      have c5 : wr.cell? ⟨b0, o0 + k * 8 + 5, none⟩ = some (.bool On) := cl 5 (by omega)
      have c6 : wr.cell? ⟨b0, o0 + k * 8 + 6, none⟩ = some (.string S1) := cl 6 (by omega)
      have c7 : wr.cell? ⟨b0, o0 + k * 8 + 7, none⟩ = some (.string T1) := cl 7 (by omega)
      clear cl hax bl hc
      go_upto_region 12 with fail
      have hbw := Hid.intro (And.intro S.out.code.lt (And.intro S.out.hel.lt S.out.wai.lt))
      refine wp_gen (fun W' => TY w W' b hb wb X H V ∧ W'.heap[wr.heap.size]? = some (.cells #[.string kd, .int .i64 P, .int .i64 Q, .int .i64 R, .int .u64 K, .bool On, .string S1, .string T1] 38 (0, 0))) ⟨S.out.below ((Below.refl _ _).alloc (Nat.le_refl _) _), heap_alloc_new wr _⟩ ?_
      rintro W3 ⟨hS3, hbx⟩
      clear c0' c1 c2 c3 c4 c5 c6 c7 S
      have HBA : Hid (wr.heap.size < W3.heap.size ∧ wr.heap.size ≠ b ∧ wr.heap.size ≠ hb ∧ wr.heap.size ≠ wb) := ⟨(Array.getElem?_eq_some_iff.1 hbx).1, by have := hbw.out; omega, by have := hbw.out; omega, by have := hbw.out; omega⟩
      clear hbw
      generalize wr.heap.size = ba at *
      have S3 := Hid.intro hS3
      have HK := Hid.intro hS3.kn
      have x0 := act_cells hbx 0 _ rfl
      have x1 := act_cells hbx 1 _ rfl
      have x2 := act_cells hbx 2 _ rfl
      have x5 := act_cells hbx 5 _ rfl
      clear hS3 hbx
      have KF : Hid (∀ w' : World, w'.heap[ba]? = W3.heap[ba]? → w'.cell? ⟨ba, 1, none⟩ = some (.int .i64 P) ∧ w'.cell? ⟨ba, 2, none⟩ = some (.int .i64 Q) ∧ w'.cell? ⟨ba, 5, none⟩ = some (.bool On)) := Hid.intro (fun w' e => ⟨(World.cell?_of_block e).trans x1, (World.cell?_of_block e).trans x2, (World.cell?_of_block e).trans x5⟩)
      go_upto_block 2 with fail
      go_cut [8, 9] from 38 to 134 (fun _ _ wc => ∃ X' H' V', Hid (TY w wc b hb wb X' H' V'))
      case first =>
        by_cases k1 : (kd.toList == [115, 101, 110, 100]) = true
        · as_aux_lemma =>
          go_wp2_with fail
          refine (send_any b P X _ S3.out.code).mono ?_
          rintro e W4 ⟨rfl, t4, f4⟩
          have Z4 := Hid.intro (S3.out.z t4 f4)
          have K4 := Hid.intro (KF.out W4 (f4.block ba HBA.out.1 HBA.out.2.1))
          clear t4 f4 x0 x1 x2 x5
          by_cases e0 : Sg.isE P = 0
          · obtain ⟨p1, p8⟩ := Sg.isE_0 e0
            obtain ⟨n, rfl⟩ : ∃ n : Nat, P = n := ⟨P.toNat, by omega⟩
            have n9 : n < 9 := by omega
            have n9i : (n : Int) < 9 := by omega
            have WB : Hid (Sg.waiB (Sg.senF X n) n = (Sg.senF X n n).wt) := Hid.intro (by unfold Sg.waiB; rw [if_pos e0, Int.toNat_natCast])
            have FIN : Hid (∀ v, ((Sg.senF X n n).wt = true → v = true) → TY w (W4.drew.setCell ⟨wb, n, none⟩ (.bool v)) b hb wb (Sg.senF X n) H (updB V n v)) := Hid.intro (fun v hv => (Z4.out.drew.setW n n9 v).y (HK.out.sen n (by omega) (by omega) v hv))
            rw [e0, errV_zero]
            obtain ⟨y1, _, _⟩ := K4.out
            have cw : W4.drew.cell? ⟨wb, n, none⟩ = some (.bool (V n)) := Z4.out.wai.cell n n9
            have fw : W4.drew.frozen? ⟨wb, n, none⟩ = false := Z4.out.wai.frozen n
            have HBW := Hid.intro (show ba ≠ wb from HBA.out.2.2.2)
            clear p1 p8 e0
            by_cases wt : (Sg.senF X n n).wt = true
            · have WB2 := Hid.intro (WB.out.trans wt)
              have y1d : W4.drew.cell? ⟨ba, 1, none⟩ = some (.int .i64 n) := y1
              have WC : Hid (Calls Try.prog 19 #[.pointer (some ⟨b, 0, none⟩), .int .i64 n] W4.drew fun e w' => e = .returned (.bool true) ∧ w' = W4.drew) := Hid.intro (by
                have := waits_any b n _ _ Z4.out.code.drew
                rw [WB2.out] at this
                exact this)
              clear wt
              go_upto_region 15 with fail
              refine wp_region_still_tail 12 (by kernel_rfl) (by kernel_rfl) ?_
              simp only [List.take_succ_cons, List.take_zero, List.drop_succ_cons, List.drop_zero]
              iterate 5 still_step
              still_call WC.out
              iterate 6 still_step
              refine wpStill_nil ?_
              go_wp2_with fail
              go_meet
              case rel => exact ⟨_, _, _, FIN.out true (fun _ => rfl)⟩
            · have wt' : (Sg.senF X n n).wt = false := by simpa using wt
              obtain ⟨v, hv⟩ : ∃ v, V n = v := ⟨_, rfl⟩
              rw [hv] at cw
              have K0 : Hid (W4.cell? ⟨ba, 1, none⟩ = some (.int .i64 n) ∧ W4.cell? ⟨wb, n, none⟩ = some (.bool v)) := Hid.intro ⟨y1, cw⟩
              have K5 : Hid ((W4.drew.setCell ⟨wb, n, none⟩ (.bool v)).cell? ⟨ba, 1, none⟩ = some (.int .i64 n) ∧ (W4.drew.setCell ⟨wb, n, none⟩ (.bool v)).cell? ⟨wb, n, none⟩ = some (.bool v)) := Hid.intro ⟨by rw [World.cell?_of_block (setBlk _ _ _ _ HBW.out)]; exact y1, World.cell?_setCell_same _ _ _ cw⟩
              have WB2 := Hid.intro (WB.out.trans wt')
              have FI2 := Hid.intro (FIN.out v (fun h => absurd h (by rw [wt']; decide)))
              clear wt wt' hv FIN
              go_wp2_with fail
              go_region_held3 (fun w' => w'.cell? ⟨ba, 1, none⟩ = some (.int .i64 n) ∧ w'.cell? ⟨wb, n, none⟩ = some (.bool v)) (first | exact K0.out | exact K5.out) ((go_at_call 19; refine (waits_any b n _ _ Z4.out.code.drew).mono ?_; rintro e w5 ⟨rfl, hw5⟩; subst w5; rw [WB2.out]))
              go_wp2_with fail
              go_meet
              case rel => exact ⟨_, _, _, FI2.out⟩
          · rw [errV_ne e0]
            have FIN : Hid (TY w W4 b hb wb (Sg.senF X P) H V) := Hid.intro (Z4.out.y (by rw [show Sg.senF X P = X from if_neg e0]; exact HK.out))
            clear e0
            go_wp2_with fail
            go_meet
            case rel => exact ⟨_, _, _, FIN.out⟩
        · have k1' : (kd.toList == [115, 101, 110, 100]) = false := by simpa using k1
          clear k1
          by_cases k2 : (kd.toList == [104, 111, 108, 100]) = true
          · as_aux_lemma =>
            go_wp2_with fail
            refine (hold_any b P On X _ S3.out.code).mono ?_
            rintro e W4 ⟨rfl, t4, f4⟩
            have Z4 := Hid.intro (S3.out.z t4 f4)
            have K4 := Hid.intro (KF.out W4 (f4.block ba HBA.out.1 HBA.out.2.1))
            clear t4 f4 x0 x1 x2 x5
            by_cases e0 : Sg.holE P = 0
            · obtain ⟨p1, p8⟩ := Sg.holE_0 e0
              obtain ⟨n, rfl⟩ : ∃ n : Nat, P = n := ⟨P.toNat, by omega⟩
              have n9 : n < 9 := by omega
              have n9i : (n : Int) < 9 := by omega
              have FIN : Hid (TY w (W4.setCell ⟨hb, n, none⟩ (.bool On)) b hb wb (Sg.holF X n On) (updB H n On) V) := Hid.intro ((Z4.out.setH n n9 On).y (HK.out.hol n On e0))
              rw [e0, errV_zero]
              obtain ⟨y1, _, y5⟩ := K4.out
              have cw := Z4.out.hel.cell n n9
              have fw := Z4.out.hel.frozen n
              clear p1 p8 e0
              go_wp2_with fail
              go_meet
              case rel => exact ⟨_, _, _, FIN.out⟩
            · rw [errV_ne e0]
              have FIN : Hid (TY w W4 b hb wb (Sg.holF X P On) H V) := Hid.intro (Z4.out.y (by rw [show Sg.holF X P On = X from if_neg e0]; exact HK.out))
              clear e0
              go_wp2_with fail
              go_meet
              case rel => exact ⟨_, _, _, FIN.out⟩
          · have k2' : (kd.toList == [104, 111, 108, 100]) = false := by simpa using k2
            clear k2
            by_cases k3 : (kd.toList == [104, 111, 119]) = true
            · as_aux_lemma =>
              go_wp2_with fail
              refine (how_any b P Q X _ S3.out.code).mono ?_
              rintro e W4 ⟨rfl, t4, f4⟩
              have Z4 := Hid.intro (S3.out.z t4 f4)
              obtain ⟨y1, y2, _⟩ := KF.out W4 (f4.block ba HBA.out.1 HBA.out.2.1)
              clear t4 f4 x0 x1 x2 x5
              by_cases e0 : Sg.howE P Q = 0
              · obtain ⟨p1, p8, q0, q2⟩ := Sg.howE_0 e0
                obtain ⟨n, rfl⟩ : ∃ n : Nat, P = n := ⟨P.toNat, by omega⟩
                have n9 : n < 9 := by omega
                have n9i : (n : Int) < 9 := by omega
                have E0 := Hid.intro e0
                rw [e0, errV_zero]
                clear p1 p8 e0
                by_cases q1 : Q = 1
                · subst q1
                  have FIN : Hid (TY w (W4.setCell ⟨wb, n, none⟩ (.bool false)) b hb wb (Sg.howF X n 1) H (updB V n false)) := Hid.intro ((Z4.out.setW n n9 false).y ((HK.out.how n 1 E0.out).off n (Sg.how_off n 1 E0.out rfl)))
                  have cw := Z4.out.wai.cell n n9
                  have fw := Z4.out.wai.frozen n
                  have z1 : (W4.setCell ⟨wb, n, none⟩ (.bool false)).cell? ⟨ba, 1, none⟩ = some (.int .i64 n) := by rw [World.cell?_of_block (setBlk _ _ _ _ HBA.out.2.2.2)]; exact y1
                  have z2 : (W4.setCell ⟨wb, n, none⟩ (.bool false)).cell? ⟨ba, 2, none⟩ = some (.int .i64 1) := by rw [World.cell?_of_block (setBlk _ _ _ _ HBA.out.2.2.2)]; exact y2
                  clear q0 q2
                  go_upto_region 22 with fail
                  obtain ⟨t3, ht3⟩ : ∃ t3, ((n : Int) == 3) = t3 := ⟨_, rfl⟩
                  cases t3
                  · go_wp2_with fail
                    go_meet
                    case rel => exact ⟨_, _, _, FIN.out⟩
                  · go_wp2_with fail
                    go_meet
                    case rel => exact ⟨_, _, _, FIN.out⟩
                · have q1' : (Q == 1) = false := by simp [q1]
                  by_cases q3 : n = 3 ∧ Q = 0
                  · obtain ⟨rfl, rfl⟩ := q3
                    have FIN : Hid (TY w (W4.setCell ⟨wb, 3, none⟩ (.bool false)) b hb wb (Sg.howF X (3 : Nat) 0) H (updB V 3 false)) := Hid.intro ((Z4.out.setW 3 n9 false).y ((HK.out.how 3 0 E0.out).off 3 (Sg.how_off 3 0 E0.out rfl)))
                    have cw := Z4.out.wai.cell 3 n9
                    have fw := Z4.out.wai.frozen 3
                    have y1' : W4.cell? ⟨ba, 1, none⟩ = some (.int .i64 3) := y1
                    clear q0 q2 q1 y1
                    go_wp2_with fail
                    go_meet
                    case rel => exact ⟨_, _, _, FIN.out⟩
                  · have FIN : Hid (TY w W4 b hb wb (Sg.howF X n Q) H V) := Hid.intro (Z4.out.y (HK.out.how n Q E0.out))
                    have Q3 := Hid.intro q3
                    clear q0 q2 q1 q3
                    by_cases n3 : n = 3
                    · have qq : (Q == 0) = false := by simp; exact fun h => Q3.out ⟨n3, h⟩
                      have nn : ((n : Int) == 3) = true := by simp; omega
                      clear n3
                      go_wp2_with fail
                      go_meet
                      case rel => exact ⟨_, _, _, FIN.out⟩
                    · have nn : ((n : Int) == 3) = false := by simp; omega
                      clear n3
                      go_wp2_with fail
                      go_meet
                      case rel => exact ⟨_, _, _, FIN.out⟩
              · have FIN : Hid (TY w W4 b hb wb (Sg.howF X P Q) H V) := Hid.intro (Z4.out.y (by rw [show Sg.howF X P Q = X from if_neg e0]; exact HK.out))
                rw [errV_ne e0]
                have Q3 : Hid (¬ (P = 3 ∧ Q = 0)) := Hid.intro (fun ⟨h1, h2⟩ => e0 (by rw [h1, h2]; rfl))
                clear e0
                by_cases n3 : P = 3
                · have qq : (Q == 0) = false := by simp; exact fun h => Q3.out ⟨n3, h⟩
                  have nn : (P == 3) = true := by simp; omega
                  clear n3
                  go_wp2_with fail
                  go_meet
                  case rel => exact ⟨_, _, _, FIN.out⟩
                · have nn : (P == 3) = false := by simp; omega
                  clear n3
                  go_wp2_with fail
                  go_meet
                  case rel => exact ⟨_, _, _, FIN.out⟩
            · have k3' : (kd.toList == [104, 111, 119]) = false := by simpa using k3
              clear k3
              by_cases k4 : (kd.toList == [116, 97, 107, 101]) = true
              · as_aux_lemma =>
                go_wp2_with fail
                refine (take_any b X _ S3.out.code).mono ?_
                rintro e W4 ⟨n, rfl, hn, t4, f4⟩
                have Z4 := Hid.intro (S3.out.z t4 f4)
                have HN := Hid.intro hn
                clear t4 f4 hn x0 x1 x2 x5
                by_cases n0' : n = 0
                · subst n0'
                  have FIN : Hid (TY w W4 b hb wb (Sg.takF X 0) H V) := Hid.intro (Z4.out.y HK.out)
                  rw [show Sg.isB 0 = false from rfl]
                  go_wp2_with fail
                  go_meet
                  case rel => exact ⟨_, _, _, FIN.out⟩
                · obtain ⟨n1, n8, hv, hh⟩ := HK.out.fir HN.out n0'
                  have FIN : Hid (TY w (W4.setCell ⟨wb, n, none⟩ (.bool false)) b hb wb (Sg.takF X n) H (updB V n false)) := Hid.intro ((Z4.out.setW n (by omega) false).y ((HK.out.tak n).off n (Sg.tak_off n n0')))
                  rw [show Sg.isB n = true from decide_eq_true (by omega)]
                  have cw := Z4.out.wai.cell n (by omega)
                  have ch := Z4.out.hel.cell n (by omega)
                  have fw := Z4.out.wai.frozen n
                  rw [hv] at cw
                  rw [hh] at ch
                  have WB : Hid (Sg.waiB (Sg.takF X n) n = false) := Hid.intro (by unfold Sg.waiB; rw [if_pos (Sg.isE_ok (by omega) (by omega)), Int.toNat_natCast]; exact Sg.tak_off n n0')
                  have i1 : ¬ (n : Int) < 1 := by omega
                  have i8 : ¬ 8 < (n : Int) := by omega
                  have i9 : (n : Int) < 9 := by omega
                  clear n0' hv hh n1 n8
                  go_wp2_with (go_at_call 19; refine (waits_any b n _ _ Z4.out.code).mono ?_; rintro e w5 ⟨rfl, hw5⟩; subst w5; rw [WB.out])
                  go_meet
                  case rel => exact ⟨_, _, _, FIN.out⟩
              · have k4' : (kd.toList == [116, 97, 107, 101]) = false := by simpa using k4
                clear k4
                as_aux_lemma =>
                go_wp2_with fail
                go_meet
                case rel => exact ⟨_, _, _, S3.out⟩
      case rest =>
        clear S3 HK HBA KF x0 x1 x2 x5
        as_aux_lemma =>
        obtain ⟨X', H', V', HC⟩ := hcut
        go_wp2_with fail
        refine (ends_any b X' _ HC.out.code).mono ?_
        rintro e W4 ⟨n, rfl, hn, b4⟩
        have S4 := Hid.intro (HC.out.below b4)
        have HN := Hid.intro hn
        clear hn b4
        have TAIL : Hid (∀ n : Nat, 1 ≤ n → n ≤ 8 → Sg.waiB X' n = (X' n).wt ∧ W4.cell? ⟨wb, n, none⟩ = some (.bool (V' n)) ∧ ((X' n).wt = true → V' n = true)) := Hid.intro (fun n h1 h8 => ⟨by unfold Sg.waiB; rw [if_pos (Sg.isE_ok (by omega) (by omega)), Int.toNat_natCast], S4.out.wai.cell n (by omega), (S4.out.kn n h1 h8).2⟩)
        by_cases n0' : n = 0
        · subst n0'
          rw [show Sg.isB 0 = false from rfl]
          go_wp2_with fail
          go_loop [12] (fun i => ∃ m : Nat, i = .int .i64 m ∧ 1 ≤ m ∧ m ≤ 9) (fun i => (9 - intOf i).toNat)
          case atStart => exact ⟨1, rfl, by omega, by omega⟩
          case round =>
            obtain ⟨m, rfl, m1, m9⟩ := hrel
            by_cases hm : m < 9
            · have hmI : (m : Int) < 9 := by omega
              have E := Hid.intro (TAIL.out m m1 (by omega)).1
              have cm := (TAIL.out m m1 (by omega)).2.1
              by_cases wt : (X' m).wt = true
              · rw [(TAIL.out m m1 (by omega)).2.2 wt] at cm
                have E2 := Hid.intro (E.out.trans wt)
                clear wt
                go_wp2_with (go_at_call 19; refine (waits_any b m _ _ S4.out.code).mono ?_; rintro e w5 ⟨rfl, hw5⟩; subst w5; rw [E2.out])
                go_round
                case rel => exact ⟨m + 1, by go_num, by omega, by omega⟩
                case measure => simp [intOf]; omega
              · have wt' : (X' m).wt = false := by simpa using wt
                have E2 := Hid.intro (E.out.trans wt')
                clear wt wt'
                go_wp2_with (go_at_call 19; refine (waits_any b m _ _ S4.out.code).mono ?_; rintro e w5 ⟨rfl, hw5⟩; subst w5; rw [E2.out])
                go_round
                case rel => exact ⟨m + 1, by go_num, by omega, by omega⟩
                case measure => simp [intOf]; omega
            · have hmI : ¬ (m : Int) < 9 := by omega
              go_wp2_with fail
              go_roundw
              case rel => exact ⟨k + 1, _, _, _, by go_num, by omega, S4⟩
              case measure => simp [intOf]; omega
        · obtain ⟨n1, n8, hv, hh⟩ := S4.out.kn.fir HN.out n0'
          rw [show Sg.isB n = true from decide_eq_true (by omega)]
          have cw := S4.out.wai.cell n (by omega)
          have ch := S4.out.hel.cell n (by omega)
          rw [hv] at cw
          rw [hh] at ch
          have i1 : ¬ (n : Int) < 1 := by omega
          have i8 : ¬ 8 < (n : Int) := by omega
          have i9 : (n : Int) < 9 := by omega
          clear n0' hv hh n1 n8
          go_wp2_with fail
          clear cw ch i1 i8 i9
          go_loop [12] (fun i => ∃ m : Nat, i = .int .i64 m ∧ 1 ≤ m ∧ m ≤ 9) (fun i => (9 - intOf i).toNat)
          case atStart => exact ⟨1, rfl, by omega, by omega⟩
          case round =>
            obtain ⟨m, rfl, m1, m9⟩ := hrel
            by_cases hm : m < 9
            · have hmI : (m : Int) < 9 := by omega
              have E := Hid.intro (TAIL.out m m1 (by omega)).1
              have cm := (TAIL.out m m1 (by omega)).2.1
              by_cases wt : (X' m).wt = true
              · rw [(TAIL.out m m1 (by omega)).2.2 wt] at cm
                have E2 := Hid.intro (E.out.trans wt)
                clear wt
                go_wp2_with (go_at_call 19; refine (waits_any b m _ _ S4.out.code).mono ?_; rintro e w5 ⟨rfl, hw5⟩; subst w5; rw [E2.out])
                go_round
                case rel => exact ⟨m + 1, by go_num, by omega, by omega⟩
                case measure => simp [intOf]; omega
              · have wt' : (X' m).wt = false := by simpa using wt
                have E2 := Hid.intro (E.out.trans wt')
                clear wt wt'
                go_wp2_with (go_at_call 19; refine (waits_any b m _ _ S4.out.code).mono ?_; rintro e w5 ⟨rfl, hw5⟩; subst w5; rw [E2.out])
                go_round
                case rel => exact ⟨m + 1, by go_num, by omega, by omega⟩
                case measure => simp [intOf]; omega
            · have hmI : ¬ (m : Int) < 9 := by omega
              go_wp2_with fail
              go_roundw
              case rel => exact ⟨k + 1, _, _, _, by go_num, by omega, S4⟩
              case measure => simp [intOf]; omega
    · have hkn : k = n0 := by omega
      subst hkn
      go_wp2_with fail
      go_ret
      exact ⟨rfl, S.out.bel⟩
theorem tg_any (a : Option Addr) (len cap : Nat) (w : World) (h : IsActs0 w a len) :
    Calls Try.prog 4 #[.slice a len cap] w fun e w' => e = .returned (.bool true) ∧ Below w.heap.size w w' := by
  by_cases c : len ≤ 150
  · exact tg_near a len cap w h c
  · exact tg_far a len cap w (by omega)
end Go.Proofs.Ytpdphbhlnfeijaa

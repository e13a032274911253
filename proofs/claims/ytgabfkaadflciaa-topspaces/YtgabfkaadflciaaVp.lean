/- The law TopSpaces. -/
import Derived.Test.YtgabfkaadflciaaVo
import Derived.Deep.CutRange
import Derived.Deep.CutBlock
import Derived.Deep.DeepCutAuto
namespace Go.Proofs.Ytgabfkaadflciaa
open Go.RowKit
open Sp (T)

/-- The law's own parents are the table's. -/
def ParF (t : T) (f : Nat → Int) : Prop := ∀ n, n < 6 → t.here n = true → f n = t.par n
/-- What the law has in its hands: the table; its parents. -/
structure TS (w W : World) (b pb : Nat) (t : T) (f : Nat → Int) : Prop where
  bel : Below w.heap.size w W
  le : w.heap.size ≤ b
  lt : b < pb
  tb : Tb true W b t
  par : ZAt W pb 6 108 f
  inv : ∃ d, Sp.Inv t d
  pf : ParF t f
section
variable {w W W' : World} {b pb : Nat} {t t' : T} {f : Nat → Int}
theorem TS.below (h : TS w W b pb t f) (k : Below W.heap.size W W') : TS w W' b pb t f := ⟨h.bel.trans (k.mono h.bel.size), h.le, h.lt, h.tb.below k, h.par.same (k.block _ h.par.lt), h.inv, h.pf⟩
theorem TS.step (h : TS w W b pb t f) (k : Tb true W' b t') (r : Frm b W W') (i : ∃ d, Sp.Inv t' d) (p : ParF t' f) : TS w W' b pb t' f :=
  ⟨r.below h.bel h.le h.bel.size, h.le, h.lt, k, h.par.same (r.block _ h.par.lt (by have := h.lt; omega)), i, p⟩
theorem TS.set (h : TS w W b pb t f) (n : Nat) (v : Int) (hn : n < 6) (p : ParF t (updZ f n v)) : TS w (W.setCell ⟨pb, n, none⟩ (.int .i64 v)) b pb t (updZ f n v) := by
  have h1 := h.le
  have h2 := h.lt
  exact ⟨h.bel.setCell (by show _ ≤ pb; omega) _, h1, h2, h.tb.same (setBlk _ _ _ _ (by omega)), h.par.set n v hn, h.inv, p⟩
end
theorem ParF.drop {t : T} {f : Nat → Int} (h : ParF t f) (z : Int) : ParF (Sp.dropT t z) f := by
  unfold Sp.dropT
  split
  · intro n hn hh
    by_cases e : n = z.toNat
    · have : (if n = z.toNat then false else t.here n) = true := hh
      rw [if_pos e] at this; cases this
    · have h1 : (if n = z.toNat then false else t.here n) = true := hh
      rw [if_neg e] at h1
      show f n = if n = z.toNat then 0 else t.par n
      rw [if_neg e]; exact h n hn h1
  · exact h
theorem ParF.enter {t : T} {f : Nat → Int} (h : ParF t f) (z x : Int) : ParF (Sp.entT t z x) f := by
  unfold Sp.entT
  split
  · exact h
  · exact h
theorem ParF.leave {t : T} {f : Nat → Int} (h : ParF t f) (x : Int) : ParF (Sp.leaT t x) f := by
  unfold Sp.leaT
  split
  · exact h
  · exact h
theorem ParF.add {t : T} {f : Nat → Int} (h : ParF t f) (z : Int) (e : Sp.addE t z = 0) : ParF (Sp.addT t z) (updZ f (Sp.freeS t) z) := by
  unfold Sp.addT
  rw [if_pos e]
  intro n hn hh
  show (if n = Sp.freeS t then z else f n) = if n = Sp.freeS t then z else t.par n
  by_cases c : n = Sp.freeS t
  · rw [if_pos c, if_pos c]
  · rw [if_neg c, if_neg c]
    have h1 : (if n = Sp.freeS t then true else t.here n) = true := hh
    rw [if_neg c] at h1
    exact h n hn h1
def f0 : Nat → Int := fun n => if n = 0 then -1 else 0
theorem f0_lit : arrZ 6 f0 = #[.int .i64 (-1), .int .i64 0, .int .i64 0, .int .i64 0, .int .i64 0, .int .i64 0] := rfl
theorem parF0 : ParF Sp.t0 f0 := fun _ _ _ => rfl
theorem up1_e : Sp.findE Sp.t0 0 1 = 2 := by decide +kernel

set_option maxRecDepth 100000 in
set_option maxHeartbeats 400000 in
theorem ts_far (a0 : Option Addr) (n0 c0 : Nat) (w : World) (h : 100 < n0) :
    Calls Try.prog 12 #[.slice a0 n0 c0] w fun e w' => e = .returned (.bool true) ∧ Below w.heap.size w w' := by
  have d : decide ((n0 : Int) ≤ 100) = false := by simp; omega
  go_enter Try.func12, Try.ntmps12
  go_wp2_with fail
  refine (new_any _).mono ?_
  rintro e W1 ⟨rfl, f1, b1, _⟩
  have H1 := Hid.intro (And.intro f1 b1)
  clear f1 b1
  go_wp2_with fail
  refine (find_any w.heap.size 0 1 Sp.t0 _ H1.out.1).mono ?_
  rintro e W2 ⟨rfl, hW⟩
  subst W2
  rw [up1_e, errV_ne (by decide)]
  go_wp2_with fail
  refine (number_err 2 _).mono ?_
  rintro e W2 ⟨rfl, hW⟩
  subst W2
  go_wp2_with fail
  refine (light_any _ _ _ _ _).mono ?_
  rintro e W2 ⟨rfl, hW⟩
  subst W2
  rw [d]
  go_wp2
  go_ret
  exact ⟨rfl, H1.out.2⟩

set_option maxRecDepth 100000 in
set_option maxHeartbeats 8000000 in
theorem ts_near (a0 : Option Addr) (n0 c0 : Nat) (w : World) (h0 : IsActs0 w a0 n0) (hn : n0 ≤ 100) :
    Calls Try.prog 12 #[.slice a0 n0 c0] w fun e w' => e = .returned (.bool true) ∧ Below w.heap.size w w' := by
  have d : decide ((n0 : Int) ≤ 100) = true := by simp; omega
  have H0 := Hid.intro h0
  clear h0
  go_enter Try.func12, Try.ntmps12
  go_wp2_with fail
  refine (new_any _).mono ?_
  rintro e W1 ⟨rfl, f1, b1, _⟩
  have H1 := Hid.intro (And.intro f1 b1)
  clear f1 b1
  go_wp2_with fail
  refine (find_any w.heap.size 0 1 Sp.t0 _ H1.out.1).mono ?_
  rintro e W2 ⟨rfl, hW⟩
  subst W2
  rw [up1_e, errV_ne (by decide)]
  go_wp2_with fail
  refine (number_err 2 _).mono ?_
  rintro e W2 ⟨rfl, hW⟩
  subst W2
  go_wp2_with fail
  refine (light_any _ _ _ _ _).mono ?_
  rintro e W2 ⟨rfl, hW⟩
  subst W2
  rw [d]
  have S0 : Hid (TS w (W1.alloc (.cells (arrZ 6 f0) 108)) w.heap.size W1.heap.size Sp.t0 f0) := Hid.intro ⟨H1.out.2.alloc H1.out.2.size _, Nat.le_refl _, H1.out.1.lt, H1.out.1.below ((Below.refl _ _).alloc (Nat.le_refl _) _), heap_alloc_new W1 _, ⟨_, Sp.inv0⟩, parF0⟩
  rw [f0_lit] at S0
  go_wp2_with fail
  refine wp_gen (fun W => TS w W w.heap.size W1.heap.size Sp.t0 f0) S0.out ?_
  intro W2 h2
  have S2 := Hid.intro h2
  clear h2 S0 H1 d
  generalize W1.heap.size = pb at *
  obtain ⟨b, hb⟩ : ∃ b, w.heap.size = b := ⟨_, rfl⟩
  have HB := Hid.intro hb
  rw [hb] at S2 ⊢
  clear hb
  go_loopw [7] (fun i wr => ∃ (k : Nat) (t : T) (f : Nat → Int), i = .int .i64 k ∧ k ≤ n0 ∧ Hid (TS w wr b pb t f)) (fun i _ => n0 - (intOf i).toNat)
  case atStart => exact ⟨0, Sp.t0, f0, rfl, by omega, S2⟩
  case round =>
    clear S2
    obtain ⟨k, t, f, rfl, hk, S⟩ := hrel
    by_cases hlt : k < n0
    · have hltI : (k : Int) < (n0 : Int) := by omega
      obtain ⟨b0, o0, ax, ha, hc⟩ := H0.out.2 (by omega)
      subst ha
      obtain ⟨kd, P, Q, R, K, On, S1, T1, hax⟩ : ∃ kd A B C K On S1 T1, ax k = ⟨kd, A, B, C, K, On, S1, T1⟩ := ⟨_, _, _, _, _, _, _, _, rfl⟩
      have bl : b0 < w.heap.size := World.block_lt_of_cell? _ _ (hc k hlt 0 (by omega))
      have cl : ∀ j, j < 8 → wr.cell? ⟨b0, o0 + k * 8 + j, none⟩ = some ((⟨kd, P, Q, R, K, On, S1, T1⟩ : Act8).cell j) := fun j hj => by
        rw [← hax]; exact (S.out.bel.cell (p := ⟨b0, o0 + k * 8 + j, none⟩) bl).trans (hc k hlt j hj)
      have c0' : wr.cell? ⟨b0, o0 + k * 8, none⟩ = some (.string kd) := cl 0 (by omega)
      have c1 : wr.cell? ⟨b0, o0 + k * 8 + 1, none⟩ = some (.int .i64 P) := cl 1 (by omega)
      have c2 : wr.cell? ⟨b0, o0 + k * 8 + 2, none⟩ = some (.int .i64 Q) := cl 2 (by omega)
      have c3 : wr.cell? ⟨b0, o0 + k * 8 + 3, none⟩ = some (.int .i64 R) := cl 3 (by omega)
      have c4 : wr.cell? ⟨b0, o0 + k * 8 + 4, none⟩ = some (.int .u64 K) := cl 4 (by omega)
      have c5 : wr.cell? ⟨b0, o0 + k * 8 + 5, none⟩ = some (.bool On) := cl 5 (by omega)
      have c6 : wr.cell? ⟨b0, o0 + k * 8 + 6, none⟩ = some (.string S1) := cl 6 (by omega)
      have c7 : wr.cell? ⟨b0, o0 + k * 8 + 7, none⟩ = some (.string T1) := cl 7 (by omega)
      clear cl hax bl hc
      go_upto_region 15 with fail
      have hbw := Hid.intro (And.intro S.out.tb.lt S.out.par.lt)
      refine wp_gen (fun W' => TS w W' b pb t f ∧ W'.heap[wr.heap.size]? = some (.cells #[.string kd, .int .i64 P, .int .i64 Q, .int .i64 R, .int .u64 K, .bool On, .string S1, .string T1] 36 (0, 0))) ⟨S.out.below ((Below.refl _ _).alloc (Nat.le_refl _) _), heap_alloc_new wr _⟩ ?_
      rintro W3 ⟨hS3, hbx⟩
      clear c0' c1 c2 c3 c4 c5 c6 c7 S
      have HBA : Hid (wr.heap.size < W3.heap.size ∧ wr.heap.size ≠ b ∧ wr.heap.size ≠ pb) := ⟨(Array.getElem?_eq_some_iff.1 hbx).1, by have := hbw.out; omega, by have := hbw.out; omega⟩
      clear hbw
      generalize wr.heap.size = ba at *
      have S3 := Hid.intro hS3
      obtain ⟨d, hI⟩ := hS3.inv
      have HI := Hid.intro hI
      have x0 := act_cells hbx 0 _ rfl
      have x1 := act_cells hbx 1 _ rfl
      have x2 := act_cells hbx 2 _ rfl
      clear hS3 hbx hI
      go_upto_block 2 with fail
      go_cut [9, 10] from 40 to 81 (fun _ _ wc => ∃ t' f', Hid (TS w wc b pb t' f'))
      case first =>
        by_cases k1 : (kd.toList == [97, 100, 100]) = true
        · as_aux_lemma =>
          go_wp2_with fail
          refine (add_any b P t d _ S3.out.tb HI.out).mono ?_
          rintro e W4 ⟨rfl, t4, f4⟩
          have y1 : W4.cell? ⟨ba, 1, none⟩ = some (.int .i64 P) := (World.cell?_of_block (f4.block ba HBA.out.1 HBA.out.2.1)).trans x1
          have P4 := Hid.intro (And.intro t4 f4)
          clear t4 f4 x0 x1 x2
          by_cases e0 : Sp.addE t P = 0
          · obtain ⟨hf6, hfh⟩ : Sp.freeS t < 6 ∧ t.here (Sp.freeS t) = false := by
              obtain ⟨n', hz, h1, h2, h3, h4, h5, h6⟩ := Sp.addE_zero e0
              exact ⟨h4, h5⟩
            have hf0 : Sp.freeS t ≠ 0 := fun c => by rw [c, HI.out.tree.root.1] at hfh; cases hfh
            have en : Sp.addN t P = Sp.freeS t := by unfold Sp.addN; rw [if_pos e0]
            have PA := Hid.intro (S3.out.pf.add P e0)
            rw [e0, en, errV_zero]
            obtain ⟨x, hx⟩ : ∃ x, Sp.freeS t = x := ⟨_, rfl⟩
            rw [hx] at hf6 hf0 PA ⊢
            have x1 : decide ((x : Int) < 1) = false := by simp; omega
            have x2 : decide (5 < (x : Int)) = false := by simp; omega
            have x3 : (x : Int) < 6 := by omega
            have S5 : Hid (TS w (W4.setCell ⟨pb, x, none⟩ (.int .i64 P)) b pb (Sp.addT t P) (updZ f x P)) := Hid.intro (by
              have h1 := S3.out.le
              have h2 := S3.out.lt
              have hp4 : ZAt W4 pb 6 108 f := S3.out.par.same (P4.out.2.block _ S3.out.par.lt (by omega))
              exact ⟨(P4.out.2.below S3.out.bel h1 S3.out.bel.size).setCell (by show _ ≤ pb; omega) _, h1, h2, P4.out.1.same (setBlk _ _ _ _ (by omega)), hp4.set x P hf6, HI.out.add P, PA.out⟩)
            have q1 : W4.cell? ⟨pb, x, none⟩ = some (.int .i64 (f x)) := (S3.out.par.same (P4.out.2.block _ S3.out.par.lt (by have := S3.out.lt; omega))).cell x hf6
            have qf : ∀ o, W4.frozen? ⟨pb, o, none⟩ = false := (S3.out.par.same (P4.out.2.block _ S3.out.par.lt (by have := S3.out.lt; omega))).frozen
            clear e0 en hfh hx
            go_wp2_with fail
            go_meet
            case rel => exact ⟨_, _, S5.out⟩
          · have e3 : Sp.addT t P = t := by unfold Sp.addT; rw [if_neg e0]
            have S5 : Hid (TS w W4 b pb t f) := Hid.intro (S3.out.step (by have := P4.out.1; rw [e3] at this; exact this) P4.out.2 ⟨d, HI.out⟩ S3.out.pf)
            rw [errV_ne e0]
            clear e0 e3
            go_wp2_with fail
            go_meet
            case rel => exact ⟨_, _, S5.out⟩
        · have k1' : (kd.toList == [97, 100, 100]) = false := by simpa using k1
          clear k1
          by_cases k2 : (kd.toList == [100, 114, 111, 112]) = true
          · as_aux_lemma =>
            go_wp2_with fail
            refine (drop_any b P t _ S3.out.tb).mono ?_
            rintro e W4 ⟨rfl, t4, f4⟩
            have S5 := Hid.intro (S3.out.step t4 f4 ⟨d, HI.out.drop P⟩ (S3.out.pf.drop P))
            clear t4 f4 x0 x1 x2
            go_wp2_with fail
            go_meet
            case rel => exact ⟨_, _, S5.out⟩
          · have k2' : (kd.toList == [100, 114, 111, 112]) = false := by simpa using k2
            clear k2
            by_cases k3 : (kd.toList == [101, 110, 116, 101, 114]) = true
            · as_aux_lemma =>
              go_wp2_with fail
              refine (enter_any b P Q t d _ S3.out.tb HI.out).mono ?_
              rintro e W4 ⟨rfl, t4, f4⟩
              have S5 := Hid.intro (S3.out.step t4 f4 ⟨d, HI.out.enter P Q⟩ (S3.out.pf.enter P Q))
              clear t4 f4 x0 x1 x2
              go_wp2_with fail
              go_meet
              case rel => exact ⟨_, _, S5.out⟩
            · have k3' : (kd.toList == [101, 110, 116, 101, 114]) = false := by simpa using k3
              clear k3
              as_aux_lemma =>
              go_wp2_with fail
              refine (leave_any b Q t d _ S3.out.tb HI.out).mono ?_
              rintro e W4 ⟨rfl, t4, f4⟩
              have S5 := Hid.intro (S3.out.step t4 f4 ⟨d, HI.out.leave Q⟩ (S3.out.pf.leave Q))
              clear t4 f4 x0 x1 x2
              go_wp2_with fail
              go_meet
              case rel => exact ⟨_, _, S5.out⟩
      case rest =>
        clear S3 HI HBA x0 x1 x2
        as_aux_lemma =>
        obtain ⟨t', f', HC⟩ := hcut
        go_wp2_with fail
        go_loopw [11] (fun i wr => ∃ (p : Nat), i = .int .i64 p ∧ p ≤ 20 ∧ Hid (TS w wr b pb t' f')) (fun i _ => 20 - (intOf i).toNat)
        case atStart => exact ⟨0, rfl, by omega, HC⟩
        case round =>
          clear HC
          obtain ⟨p, rfl, hp, S⟩ := hrel
          by_cases hp20 : p < 20
          · have hpI : (p : Int) < 20 := by omega
            have z0 := S.out.par.cell 0 (by omega)
            have z1 := S.out.par.cell 1 (by omega)
            have z2 := S.out.par.cell 2 (by omega)
            have z3 := S.out.par.cell 3 (by omega)
            have z4 := S.out.par.cell 4 (by omega)
            have z5 := S.out.par.cell 5 (by omega)
            go_wp2_with fail
            obtain ⟨d', hI'⟩ := S.out.inv
            refine (placed_any b p t' d' f' _ S.out.tb hI' S.out.pf hp20).mono ?_
            rintro e W5 ⟨rfl, hb5⟩
            have S5 := Hid.intro (S.out.below hb5)
            clear hb5 hI' z0 z1 z2 z3 z4 z5 S
            go_wp2_with fail
            go_roundw
            case rel => exact ⟨p + 1, by go_num, by omega, S5⟩
            case measure => simp [intOf]; omega
          · have hpI : ¬ (p : Int) < 20 := by omega
            go_wp2_with fail
            go_roundw
            case rel => exact ⟨k + 1, t', f', by go_num, by omega, S⟩
            case measure => simp [intOf]; omega
    · have hltI : ¬ (k : Int) < (n0 : Int) := by omega
      go_wp2_with fail
      go_ret
      exact ⟨rfl, S.out.bel⟩

theorem ts_any (a : Option Addr) (len cap : Nat) (w : World) (h : IsActs0 w a len) :
    Calls Try.prog 12 #[.slice a len cap] w fun e w' => e = .returned (.bool true) ∧ Below w.heap.size w w' := by
  by_cases hf : 100 < len
  · exact ts_far a len cap w hf
  · exact ts_near a len cap w h (by omega)
end Go.Proofs.Ytgabfkaadflciaa

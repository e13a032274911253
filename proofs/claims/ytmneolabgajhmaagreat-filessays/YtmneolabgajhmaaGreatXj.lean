/- The code's open files: Seek, Of, Pipe. -/
import Derived.Test.YtmneolabgajhmaaGreatXe
import Derived.Test.YtmneolabgajhmaaGreatPg
namespace Go.Proofs.YtmneolabgajhmaaGreat
open Go.RowKit
open Fx (Fi)
open Tr (Fo Nd)
open Pp (Pi)

theorem Fx.results5 {fn : Func} {t u v x y : Tmp} (h : fn.results = #[.tmp t, .tmp u, .tmp v, .tmp x, .tmp y]) (tmps : Array Value) (P : Program) (w : World) :
    (results fn tmps).run P w = .ok (.tuple #[tmps.getD t undef, tmps.getD u undef, tmps.getD v undef, tmps.getD x undef, tmps.getD y undef]) w := by
  simp [results, h]
theorem Fx.results3 {fn : Func} {t u v : Tmp} (h : fn.results = #[.tmp t, .tmp u, .tmp v]) (tmps : Array Value) (P : Program) (w : World) :
    (results fn tmps).run P w = .ok (.tuple #[tmps.getD t undef, tmps.getD u undef, tmps.getD v undef]) w := by
  simp [results, h]
/-- A place is sought. -/
def Fx.seeE (T : Nat → Fi) (z a : Int) : Int := if Fx.filE T z ≠ 0 then Fx.filE T z else if (T z.toNat).kind ≠ 1 then 11 else if a < 0 ∨ 40 < a then 1 else 0
def Fx.seeT (T : Nat → Fi) (z a : Int) : Nat → Fi := if Fx.seeE T z a = 0 then Fx.put T z.toNat { T z.toNat with pos := a.toNat } else T
set_option maxRecDepth 100000 in
set_option maxHeartbeats 1000000 in
theorem xseek_any (t b p : Nat) (z a : Int) (T : Nat → Fi) (w : World) (h : XAt w t b p T) :
    Calls Tryz.prog 55 #[.pointer (some ⟨t, 0, none⟩), .int .i64 z, .int .i64 a] w fun e w' => e = .returned (errV (Fx.seeE T z a)) ∧ XAt w' t b p (Fx.seeT T z a) ∧ Frm t w w' := by
  have HF := Hid.intro h
  by_cases c : Fx.filE T z = 0
  · obtain ⟨n, rfl, n24, _⟩ := Fx.filE_ok c
    have EP : Hid (Fx.filE T (n : Int) = 0 ∧ fptE t (n : Int) 0 = .pointer (some ⟨t, 2 + n * 5, none⟩)) := Hid.intro ⟨c, fptE_ok t n⟩
    have DE : Fx.seeE T (n : Int) a = if (T n).kind ≠ 1 then 11 else if a < 0 ∨ 40 < a then 1 else 0 := by unfold Fx.seeE; rw [if_neg (fun d => d c), Int.toNat_natCast]
    have c0 := h.kind n n24
    have c3 := h.pos n n24
    have cf := h.frozen
    have no : ∀ E, E ≠ 0 → Fx.seeE T (n : Int) a = E → Fx.seeT T (n : Int) a = T := fun E e0 e => by unfold Fx.seeT; rw [e, if_neg e0]
    by_cases k1 : (T n).kind = 1
    · rw [k1] at c0
      have c0' : w.cell? ⟨t, 2 + n * 5, none⟩ = some (.int .i64 1) := c0
      by_cases a0 : a < 0
      · have e : Fx.seeE T (n : Int) a = 1 := by rw [DE, if_neg (fun d => d k1), if_pos (.inl a0)]
        have FIN : Hid (Fx.seeE T (n : Int) a = 1 ∧ Fx.seeT T (n : Int) a = T) := Hid.intro ⟨e, no 1 (by decide) e⟩
        clear h c DE no k1 c0 e c3
        go_enter Tryz.func55, Tryz.ntmps55
        go_wp2_with fail
        refine (xfile_any t b p n T _ HF.out).mono ?_
        rintro e w1 ⟨rfl, hw1⟩
        subst w1
        rw [EP.out.1, EP.out.2, errV_zero]
        go_wp2_with fail
        go_ret
        rw [FIN.out.1, FIN.out.2]
        exact ⟨rfl, HF.out, Frm.refl _ _⟩
      · by_cases a4 : 40 < a
        · have e : Fx.seeE T (n : Int) a = 1 := by rw [DE, if_neg (fun d => d k1), if_pos (.inr a4)]
          have FIN : Hid (Fx.seeE T (n : Int) a = 1 ∧ Fx.seeT T (n : Int) a = T) := Hid.intro ⟨e, no 1 (by decide) e⟩
          clear h c DE no k1 c0 e c3
          go_enter Tryz.func55, Tryz.ntmps55
          go_wp2_with fail
          refine (xfile_any t b p n T _ HF.out).mono ?_
          rintro e w1 ⟨rfl, hw1⟩
          subst w1
          rw [EP.out.1, EP.out.2, errV_zero]
          go_wp2_with fail
          go_ret
          rw [FIN.out.1, FIN.out.2]
          exact ⟨rfl, HF.out, Frm.refl _ _⟩
        · have e : Fx.seeE T (n : Int) a = 0 := by rw [DE, if_neg (fun d => d k1), if_neg (by omega)]
          obtain ⟨q, rfl⟩ : ∃ q : Nat, a = q := ⟨a.toNat, by omega⟩
          have FIN : Hid (Fx.seeE T (n : Int) (q : Int) = 0 ∧ XAt (w.setCell ⟨t, 2 + n * 5 + 3, none⟩ (.int .i64 (q : Int))) t b p (Fx.seeT T (n : Int) (q : Int))) := Hid.intro ⟨e, by unfold Fx.seeT; rw [if_pos e, Int.toNat_natCast, Int.toNat_natCast]; exact h.setPos n n24 q⟩
          generalize (T n).pos = ps at *
          clear h c DE no k1 c0 e
          go_enter Tryz.func55, Tryz.ntmps55
          go_wp2_with fail
          refine (xfile_any t b p n T _ HF.out).mono ?_
          rintro e w1 ⟨rfl, hw1⟩
          subst w1
          rw [EP.out.1, EP.out.2, errV_zero]
          go_wp2_with fail
          go_ret
          rw [FIN.out.1]
          exact ⟨rfl, FIN.out.2, (Frm.refl t w).setCell _ _⟩
    · have e : Fx.seeE T (n : Int) a = 11 := by rw [DE, if_pos k1]
      have FIN : Hid (Fx.seeE T (n : Int) a = 11 ∧ Fx.seeT T (n : Int) a = T) := Hid.intro ⟨e, no 11 (by decide) e⟩
      have k1' : (((T n).kind : Int) != 1) = true := by simp; omega
      have k1'' : (((T n).kind : Int) == 1) = false := by simp; omega
      generalize (T n).kind = kd at *
      clear h c DE no k1 e c3
      go_enter Tryz.func55, Tryz.ntmps55
      go_wp2_with fail
      refine (xfile_any t b p n T _ HF.out).mono ?_
      rintro e w1 ⟨rfl, hw1⟩
      subst w1
      rw [EP.out.1, EP.out.2, errV_zero]
      go_wp2_with fail
      go_ret
      rw [FIN.out.1, FIN.out.2]
      exact ⟨rfl, HF.out, Frm.refl _ _⟩
  · have E2 : Hid (fptE t z (Fx.filE T z) = .pointer none ∧ errV (Fx.filE T z) = .iface 90 (.int .i64 (Fx.filE T z)) ∧ Fx.seeE T z a = Fx.filE T z ∧ Fx.seeT T z a = T) := Hid.intro (by
      have e : Fx.seeE T z a = Fx.filE T z := if_pos c
      exact ⟨fptE_no c, errV_ne c, e, by unfold Fx.seeT; rw [e, if_neg c]⟩)
    clear h c
    go_enter Tryz.func55, Tryz.ntmps55
    go_wp2_with fail
    refine (xfile_any t b p z T _ HF.out).mono ?_
    rintro e w1 ⟨rfl, hw1⟩
    subst w1
    rw [E2.out.1, E2.out.2.1]
    go_wp2_with fail
    go_ret
    rw [E2.out.2.2.1, E2.out.2.2.2, E2.out.2.1]
    exact ⟨rfl, HF.out, Frm.refl _ _⟩
/-- What Of tells. -/
def Fx.ofV (T : Nat → Fi) (z : Int) : Array Value := if Fx.filE T z = 0 then #[.int .i64 ((T z.toNat).kind : Int), .int .i64 ((T z.toNat).num : Int), .int .i64 ((T z.toNat).pos : Int), .int .i64 ((T z.toNat).refs : Int), .nilIface] else #[.int .i64 0, .int .i64 0, .int .i64 0, .int .i64 0, errV (Fx.filE T z)]
set_option maxRecDepth 100000 in
set_option maxHeartbeats 1000000 in
theorem xof_any (t b p : Nat) (z : Int) (T : Nat → Fi) (w : World) (h : XAt w t b p T) :
    Calls Tryz.prog 13 #[.pointer (some ⟨t, 0, none⟩), .int .i64 z] w fun e w' => e = .returned (.tuple (Fx.ofV T z)) ∧ ∃ q, w' = w.drewN q := by
  have HF := Hid.intro h
  by_cases c : Fx.filE T z = 0
  · obtain ⟨n, rfl, n24, _⟩ := Fx.filE_ok c
    have EP : Hid (Fx.filE T (n : Int) = 0 ∧ fptE t (n : Int) 0 = .pointer (some ⟨t, 2 + n * 5, none⟩)) := Hid.intro ⟨c, fptE_ok t n⟩
    have FIN : Hid (Fx.ofV T (n : Int) = #[.int .i64 ((T n).kind : Int), .int .i64 ((T n).num : Int), .int .i64 ((T n).pos : Int), .int .i64 ((T n).refs : Int), .nilIface]) := Hid.intro (by unfold Fx.ofV; rw [if_pos c, Int.toNat_natCast])
    have c0 := h.kind n n24
    have c1 := h.num n n24
    have c3 := h.pos n n24
    have c4 := h.refs n n24
    generalize (T n).kind = k0 at *
    generalize (T n).num = k1 at *
    generalize (T n).pos = k3 at *
    generalize (T n).refs = k4 at *
    clear h c
    go_enter Tryz.func13, Tryz.ntmps13
    go_wp2_with fail
    refine (xfile_any t b p n T _ HF.out).mono ?_
    rintro e w1 ⟨rfl, hw1⟩
    subst w1
    rw [EP.out.1, EP.out.2, errV_zero]
    go_upto_region 4 with fail
    go_big_quiet (fail)
    go_wp2_with fail
    (try simp only [Exit.then]); refine bodyPost_ret (Fx.results5 rfl _ _ _) rfl ?_
    rw [FIN.out]
    exact ⟨rfl, nq, rfl⟩
  · have E2 : Hid (fptE t z (Fx.filE T z) = .pointer none ∧ errV (Fx.filE T z) = .iface 90 (.int .i64 (Fx.filE T z)) ∧ Fx.ofV T z = #[.int .i64 0, .int .i64 0, .int .i64 0, .int .i64 0, errV (Fx.filE T z)]) := Hid.intro ⟨fptE_no c, errV_ne c, if_neg c⟩
    clear h c
    go_enter Tryz.func13, Tryz.ntmps13
    go_wp2_with fail
    refine (xfile_any t b p z T _ HF.out).mono ?_
    rintro e w1 ⟨rfl, hw1⟩
    subst w1
    rw [E2.out.1, E2.out.2.1]
    go_wp2_with fail
    (try simp only [Exit.then]); refine bodyPost_ret (Fx.results5 rfl _ _ _) rfl ?_
    rw [E2.out.2.2, E2.out.2.1]
    exact ⟨rfl, 0, rfl⟩
/-- Both ends of a new pipe. -/
def Fx.PipTo (T : Nat → Fi) (S : Nat → Pi) (A C : Nat) (E : Int) (T' : Nat → Fi) (S' : Nat → Pi) : Prop :=
  (22 < Fx.cnt T 24 ∧ A = 0 ∧ C = 0 ∧ E = 4 ∧ T' = T ∧ S' = S)
  ∨ (Fx.cnt T 24 ≤ 22 ∧ ∃ n e, Pp.FreeTo S n e ∧ ((e ≠ 0 ∧ A = 0 ∧ C = 0 ∧ E = e ∧ T' = T ∧ S' = S)
    ∨ (e = 0 ∧ E = 0 ∧ Fx.Low T A ∧ Fx.Low (Fx.put T A ⟨2, n, false, 0, 1⟩) C ∧ T' = Fx.put (Fx.put T A ⟨2, n, false, 0, 1⟩) C ⟨3, n, false, 0, 1⟩ ∧ S' = Pp.makF S n 0)))
theorem Fx.PipTo.unique {T T' T'' : Nat → Fi} {S S' S'' : Nat → Pi} {A C A' C' : Nat} {E E' : Int} (h : Fx.PipTo T S A C E T' S') (k : Fx.PipTo T S A' C' E' T'' S'') : A = A' ∧ C = C' ∧ E = E' ∧ T' = T'' ∧ S' = S'' := by
  rcases h with ⟨h0, rfl, rfl, rfl, rfl, rfl⟩ | ⟨h0, n, e, hf, h1⟩ <;> rcases k with ⟨k0, rfl, rfl, rfl, rfl, rfl⟩ | ⟨k0, m, g, kf, k1⟩
  · exact ⟨rfl, rfl, rfl, rfl, rfl⟩
  · omega
  · omega
  · obtain ⟨rfl, rfl⟩ := hf.unique kf
    rcases h1 with ⟨a, rfl, rfl, rfl, rfl, rfl⟩ | ⟨rfl, rfl, a, b, rfl, rfl⟩ <;> rcases k1 with ⟨a', rfl, rfl, rfl, rfl, rfl⟩ | ⟨e', rfl, a', b', rfl, rfl⟩
    · exact ⟨rfl, rfl, rfl, rfl, rfl⟩
    · exact absurd e' a
    · exact absurd rfl a'
    · obtain rfl := a.unique a'
      obtain rfl := b.unique b'
      exact ⟨rfl, rfl, rfl, rfl, rfl⟩
/-- Two free numbers, one behind the other. -/
theorem Fx.low_two' {T : Nat → Fi} (x : Fi) (h : Fx.cnt T 24 ≤ 22) : ∃ a c, Fx.Low T a ∧ Fx.Low (Fx.put T a x) c := by
  obtain ⟨a, ha⟩ := Fx.low_of (T := T) (by omega)
  have ex : ∀ M, M ≤ a → Fx.cnt (Fx.put T a x) M = Fx.cnt T M := by
    intro M
    induction M with
    | zero => intro _; rfl
    | succ M ih2 =>
      intro hM
      show Fx.cnt (Fx.put T a x) M + (if (Fx.put T a x M).refs = 0 then 0 else 1) = Fx.cnt T M + (if (T M).refs = 0 then 0 else 1)
      rw [ih2 (by omega), Fx.put_ne _ _ _ _ (by omega)]
  have cp : ∀ N, Fx.cnt (Fx.put T a x) N ≤ Fx.cnt T N + 1 := by
    intro N
    induction N with
    | zero => exact Nat.zero_le _
    | succ N ih =>
      show Fx.cnt (Fx.put T a x) N + (if (Fx.put T a x N).refs = 0 then 0 else 1) ≤ Fx.cnt T N + (if (T N).refs = 0 then 0 else 1) + 1
      by_cases c : N = a
      · rw [ex N (by omega)]
        repeat' split
        all_goals omega
      · rw [Fx.put_ne _ _ _ _ c]
        omega
  have := cp 24
  obtain ⟨c, hc⟩ := Fx.low_of (T := Fx.put T a x) (by omega)
  exact ⟨a, c, ha, hc⟩
set_option maxRecDepth 100000 in
set_option maxHeartbeats 1000000 in
theorem xpipe_any (t b p : Nat) (T : Nat → Fi) (F : Fo) (S : Nat → Pi) (w : World) (h : FX w t b p T F S) :
    Calls Tryz.prog 46 #[.pointer (some ⟨t, 0, none⟩)] w fun e w' => ∃ (A C : Nat) (E : Int) (T' : Nat → Fi) (S' : Nat → Pi), e = .returned (.tuple #[.int .i64 (A : Int), .int .i64 (C : Int), errV E]) ∧ Fx.PipTo T S A C E T' S' ∧ FX w' t b p T' F S' ∧ Tri t b p w w' := by
  have HF := Hid.intro h
  have lc := Fx.cnt_le T 24
  have y1 := h.1.pi
  by_cases r1 : 22 < Fx.cnt T 24
  · have rd : decide ((2 : Int) ≤ 24 - (Fx.cnt T 24 : Int)) = false := by simp; omega
    have FIN : Hid (Fx.PipTo T S 0 0 4 T S) := Hid.intro (.inl ⟨r1, rfl, rfl, rfl, rfl, rfl⟩)
    clear h lc r1
    go_enter Tryz.func46, Tryz.ntmps46
    go_wp2_with fail
    refine (xroom_any t b p 2 T _ HF.out.1).mono ?_
    rintro e W3 ⟨rfl, hW3⟩
    subst W3
    rw [rd]
    go_wp2_with fail
    (try simp only [Exit.then]); refine bodyPost_ret (Fx.results3 rfl _ _ _) rfl ?_
    exact ⟨0, 0, 4, T, S, rfl, FIN.out, HF.out, Tri.refl _ _ _ _⟩
  · have rd : decide ((2 : Int) ≤ 24 - (Fx.cnt T 24 : Int)) = true := by simp; omega
    have r2 : Fx.cnt T 24 ≤ 22 := by omega
    have R2 := Hid.intro r2
    clear h lc r1 r2
    go_enter Tryz.func46, Tryz.ntmps46
    go_wp2_with fail
    refine (xroom_any t b p 2 T _ HF.out.1).mono ?_
    rintro e W3 ⟨rfl, hW3⟩
    subst W3
    rw [rd]
    go_wp2_with fail
    refine (pmake_any p S _ HF.out.2.2.1).mono ?_
    rintro e W4 ⟨n, E4, rfl, hf, h4, f4⟩
    by_cases e0 : E4 = 0
    · subst e0
      obtain ⟨a, c, ha, hc⟩ := Fx.low_two' (T := T) ⟨2, n, false, 0, 1⟩ R2.out
      have FIN : Hid (Fx.PipTo T S a c 0 (Fx.put (Fx.put T a ⟨2, n, false, 0, 1⟩) c ⟨3, n, false, 0, 1⟩) (Pp.makF S n 0)) := Hid.intro (.inr ⟨R2.out, n, 0, hf, .inr ⟨rfl, rfl, ha, hc, rfl, rfl⟩⟩)
      have HA := Hid.intro ha
      have HC := Hid.intro hc
      have H4 := Hid.intro (HF.out.pi h4 f4)
      have F4 : Hid (Tri t b p w W4) := Hid.intro (Tri.pi f4)
      rw [errV_zero]
      clear ha hc h4 f4 hf y1
      go_wp2_with fail
      refine (xadd_any t b p ⟨2, n, false, 0, 0⟩ a T _ H4.out.1 HA.out).mono ?_
      rintro e W5 ⟨rfl, h5, f5⟩
      have H5 := Hid.intro (H4.out.tb h5 f5)
      have F5 := Hid.intro (F4.out.trans (Tri.tb f5))
      clear h5 f5 H4 F4
      go_wp2_with fail
      refine (xadd_any t b p ⟨3, n, false, 0, 0⟩ c _ _ H5.out.1 HC.out).mono ?_
      rintro e W6 ⟨rfl, h6, f6⟩
      have H6 := Hid.intro (H5.out.tb h6 f6)
      have F6 := Hid.intro (F5.out.trans (Tri.tb f6))
      clear h6 f6 H5 F5
      go_wp2_with fail
      (try simp only [Exit.then]); refine bodyPost_ret (Fx.results3 rfl _ _ _) rfl ?_
      exact ⟨a, c, 0, _, _, rfl, FIN.out, H6.out, F6.out⟩
    · have eM : Pp.makF S n E4 = S := if_neg e0
      rw [eM] at h4
      have FIN : Hid (Fx.PipTo T S 0 0 E4 T S) := Hid.intro (.inr ⟨R2.out, n, E4, hf, .inl ⟨e0, rfl, rfl, rfl, rfl, rfl⟩⟩)
      have H4 := Hid.intro (HF.out.pi h4 f4)
      have F4 : Hid (Tri t b p w W4) := Hid.intro (Tri.pi f4)
      have EV := Hid.intro (errV_ne e0)
      rw [EV.out]
      clear h4 f4 hf y1 e0
      go_wp2_with fail
      (try simp only [Exit.then]); refine bodyPost_ret (Fx.results3 rfl _ _ _) rfl ?_
      exact ⟨0, 0, E4, T, S, by rw [EV.out]; rfl, FIN.out, H4.out, F4.out⟩
end Go.Proofs.YtmneolabgajhmaaGreat

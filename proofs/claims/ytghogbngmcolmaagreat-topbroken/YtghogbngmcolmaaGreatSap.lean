import Derived.Test.YtghogbngmcolmaaGreatSan
import Derived.Test.YtghogbngmcolmaaGreatSao
namespace Go.Proofs.YtghogbngmcolmaaGreat
open Go.RowKit
open Pp (Pi)
def Pp.FreeTo (S : Nat → Pi) (n : Nat) (E : Int) : Prop := (E = 0 ∧ n < 8 ∧ Pp.thr (S n) = false ∧ ∀ m, m < n → Pp.thr (S m) = true) ∨ (E = 4 ∧ n = 0 ∧ ∀ m, m < 8 → Pp.thr (S m) = true)
theorem Pp.FreeTo.unique {S : Nat → Pi} {n m : Nat} {E G : Int} (h : Pp.FreeTo S n E) (k : Pp.FreeTo S m G) : n = m ∧ E = G := by
  rcases h with ⟨e1, h1, h2, h3⟩ | ⟨e1, h1, h2⟩ <;> rcases k with ⟨e2, k1, k2, k3⟩ | ⟨e2, k1, k2'⟩
  · refine ⟨?_, by omega⟩
    rcases Nat.lt_trichotomy n m with c | c | c
    · exact absurd (k3 n c) (by rw [h2]; decide)
    · exact c
    · exact absurd (h3 m c) (by rw [k2]; decide)
  · exact absurd (k2' n h1) (by rw [h2]; decide)
  · exact absurd (h2 m k1) (by rw [k2]; decide)
  · exact ⟨by omega, by omega⟩
def Pp.makF (S : Nat → Pi) (n : Nat) (E : Int) : Nat → Pi := if E = 0 then Pp.put S n ⟨⟨#[]⟩, 1, 1⟩ else S
set_option maxRecDepth 100000 in
set_option maxHeartbeats 1000000 in
theorem pmake_any (b : Nat) (S : Nat → Pi) (w : World) (h : PAt w b S) :
    Calls Tryz.prog 63 #[.pointer (some ⟨b, 0, none⟩)] w fun e w' => ∃ (n : Nat) (E : Int), e = .returned (.tuple #[.int .i64 (n : Int), errV E]) ∧ Pp.FreeTo S n E ∧ PAt w' b (Pp.makF S n E) ∧ Frm b w w' := by
  have HF := Hid.intro h
  clear h
  go_enter Tryz.func63, Tryz.ntmps63
  go_wp2_with fail
  go_loopw [4, 5] (fun x i wr => ∃ (n : Nat), i = .int .i64 n ∧ n ≤ 8 ∧ Hid (∀ m, m < n → Pp.thr (S m) = true) ∧ wr = w) (fun _ i _ => 8 - (intOf i).toNat)
  case atStart => exact ⟨0, rfl, by omega, fun m hm => by omega, rfl⟩
  case round =>
    obtain ⟨n, rfl, hn, HN, hwr⟩ := hrel
    subst wr
    by_cases hlt : n < 8
    · have hltI : (n : Int) < 8 := by omega
      go_wp2_with fail
      refine (pthere_any b n S _ HF.out hlt).mono ?_
      rintro e w1 ⟨rfl, hw1⟩
      subst w1
      cases hth : Pp.thr (S n)
      · have TH := Hid.intro (HF.out.there15 n hlt 1 1)
        have HS := Hid.intro (Pp.info_pipe 1 1)
        have H1 := Hid.intro (Pp.noA_one 1 1)
        have FT : Hid (Pp.FreeTo S n 0) := Hid.intro (.inl ⟨rfl, hlt, hth, HN.out⟩)
        have FIN : Hid (PAt (w.setCells b (n * 15) (Pp.noA 1 1).toList) b (Pp.makF S n 0) ∧ Frm b w (w.setCells b (n * 15) (Pp.noA 1 1).toList)) := Hid.intro (by
          unfold Pp.makF
          rw [if_pos rfl]
          exact ⟨HF.out.setNo n hlt 1 1, Pp.frm_setCells _ _ (Frm.refl b w)⟩)
        obtain ⟨A, hA⟩ : ∃ A, Pp.noA 1 1 = A := ⟨_, rfl⟩
        rw [hA] at FIN TH HS H1
        go_wp2_with (first | (refine Pp.wp_build2 rfl rfl ?_; rw [hA]) | (refine wpList_store_mid rfl 105 _ _ rfl b (n * 15) A rfl rfl TH.out HS.out H1.out ?_))
        go_ret2
        exact ⟨n, 0, rfl, FT.out, FIN.out⟩
      · have HN2 : Hid (∀ m, m < n + 1 → Pp.thr (S m) = true) := Hid.intro (fun m hm => by
          by_cases c : m = n
          · subst c; exact hth
          · exact HN.out m (by omega))
        clear hth
        go_wp2_with fail
        go_roundw
        case rel => exact ⟨n + 1, by go_num, by omega, HN2, by first | rfl | trivial⟩
        case measure => simp [intOf]; omega
    · have hltI : ¬ (n : Int) < 8 := by omega
      obtain rfl : n = 8 := by omega
      have FT : Hid (Pp.FreeTo S 0 4) := Hid.intro (.inr ⟨rfl, rfl, HN.out⟩)
      have FF : Hid (Pp.makF S 0 4 = S) := Hid.intro (if_neg (by decide))
      go_wp2_with fail
      go_ret2
      exact ⟨0, 4, rfl, FT.out, by rw [FF.out]; exact HF.out, Frm.refl _ _⟩
end Go.Proofs.YtghogbngmcolmaaGreat
namespace Go.Proofs.YtghogbngmcolmaaGreat
open Go.RowKit
open Fx (Fi)
open Tr (Fo Nd)
open Pp (Pi)
theorem Fx.results3 {fn : Func} {t u v : Tmp} (h : fn.results = #[.tmp t, .tmp u, .tmp v]) (tmps : Array Value) (P : Program) (w : World) :
    (results fn tmps).run P w = .ok (.tuple #[tmps.getD t undef, tmps.getD u undef, tmps.getD v undef]) w := by
  simp [results, h]
def Fx.PipTo (T : Nat → Fi) (S : Nat → Pi) (A C : Nat) (E : Int) (T' : Nat → Fi) (S' : Nat → Pi) : Prop :=
  (22 < Fx.cnt T 24 ∧ A = 0 ∧ C = 0 ∧ E = 4 ∧ T' = T ∧ S' = S)
  ∨ (Fx.cnt T 24 ≤ 22 ∧ ∃ n e, Pp.FreeTo S n e ∧ ((e ≠ 0 ∧ A = 0 ∧ C = 0 ∧ E = e ∧ T' = T ∧ S' = S)
    ∨ (e = 0 ∧ E = 0 ∧ Fx.Low T A ∧ Fx.Low (Fx.put T A ⟨2, n, false, 0, 1⟩) C ∧ T' = Fx.put (Fx.put T A ⟨2, n, false, 0, 1⟩) C ⟨3, n, false, 0, 1⟩ ∧ S' = Pp.makF S n 0)))
theorem Fx.low_two' {T : Nat → Fi} (x : Fi) (h : Fx.cnt T 24 ≤ 22) : ∃ a c, Fx.Low T a ∧ Fx.Low (Fx.put T a x) c := by
  obtain ⟨a, ha⟩ := Fx.low_of (T := T) (by omega)
  have ex : ∀ M, M ≤ a → Fx.cnt (Fx.put T a x) M = Fx.cnt T M := by
    intro M
    induction M with
    | zero => intro _; rfl
    | succ M ih2 =>
      intro hM
      show Fx.cnt (Fx.put T a x) M + (if (Fx.put T a x M).refs = 0 then 0 else 1) = Fx.cnt T M + (if (T M).refs = 0 then 0 else 1)
      rw [ih2 (by omega), Fx.put_ne _ _ _ _ (by omega)]
  have cp : ∀ N, Fx.cnt (Fx.put T a x) N ≤ Fx.cnt T N + 1 := by
    intro N
    induction N with
    | zero => exact Nat.zero_le _
    | succ N ih =>
      show Fx.cnt (Fx.put T a x) N + (if (Fx.put T a x N).refs = 0 then 0 else 1) ≤ Fx.cnt T N + (if (T N).refs = 0 then 0 else 1) + 1
      by_cases c : N = a
      · rw [ex N (by omega)]
        repeat' split
        all_goals omega
      · rw [Fx.put_ne _ _ _ _ c]
        omega
  have := cp 24
  obtain ⟨c, hc⟩ := Fx.low_of (T := Fx.put T a x) (by omega)
  exact ⟨a, c, ha, hc⟩
set_option maxRecDepth 100000 in
set_option maxHeartbeats 1000000 in
theorem xpipe_any (t b p : Nat) (T : Nat → Fi) (F : Fo) (S : Nat → Pi) (w : World) (h : FX w t b p T F S) :
    Calls Tryz.prog 26 #[.pointer (some ⟨t, 0, none⟩)] w fun e w' => ∃ (A C : Nat) (E : Int) (T' : Nat → Fi) (S' : Nat → Pi), e = .returned (.tuple #[.int .i64 (A : Int), .int .i64 (C : Int), errV E]) ∧ Fx.PipTo T S A C E T' S' ∧ FX w' t b p T' F S' ∧ Tri t b p w w' := by
  have HF := Hid.intro h
  have lc := Fx.cnt_le T 24
  have y1 := h.1.pi
  by_cases r1 : 22 < Fx.cnt T 24
  · have rd : decide ((2 : Int) ≤ 24 - (Fx.cnt T 24 : Int)) = false := by simp; omega
    have FIN : Hid (Fx.PipTo T S 0 0 4 T S) := Hid.intro (.inl ⟨r1, rfl, rfl, rfl, rfl, rfl⟩)
    clear h lc r1
    go_enter Tryz.func26, Tryz.ntmps26
    go_wp2_with fail
    refine (xroom_any t b p 2 T _ HF.out.1).mono ?_
    rintro e W3 ⟨rfl, hW3⟩
    subst W3
    rw [rd]
    go_wp2_with fail
    (try simp only [Exit.then]); refine bodyPost_ret (Fx.results3 rfl _ _ _) rfl ?_
    exact ⟨0, 0, 4, T, S, rfl, FIN.out, HF.out, Tri.refl _ _ _ _⟩
  · have rd : decide ((2 : Int) ≤ 24 - (Fx.cnt T 24 : Int)) = true := by simp; omega
    have r2 : Fx.cnt T 24 ≤ 22 := by omega
    have R2 := Hid.intro r2
    clear h lc r1 r2
    go_enter Tryz.func26, Tryz.ntmps26
    go_wp2_with fail
    refine (xroom_any t b p 2 T _ HF.out.1).mono ?_
    rintro e W3 ⟨rfl, hW3⟩
    subst W3
    rw [rd]
    go_wp2_with fail
    refine (pmake_any p S _ HF.out.2.2.1).mono ?_
    rintro e W4 ⟨n, E4, rfl, hf, h4, f4⟩
    by_cases e0 : E4 = 0
    · subst e0
      obtain ⟨a, c, ha, hc⟩ := Fx.low_two' (T := T) ⟨2, n, false, 0, 1⟩ R2.out
      have FIN : Hid (Fx.PipTo T S a c 0 (Fx.put (Fx.put T a ⟨2, n, false, 0, 1⟩) c ⟨3, n, false, 0, 1⟩) (Pp.makF S n 0)) := Hid.intro (.inr ⟨R2.out, n, 0, hf, .inr ⟨rfl, rfl, ha, hc, rfl, rfl⟩⟩)
      have HA := Hid.intro ha
      have HC := Hid.intro hc
      have H4 := Hid.intro (HF.out.pi h4 f4)
      have F4 : Hid (Tri t b p w W4) := Hid.intro (Tri.pi f4)
      rw [errV_zero]
      clear ha hc h4 f4 hf y1
      go_wp2_with fail
      refine (xadd_any t b p ⟨2, n, false, 0, 0⟩ a T _ H4.out.1 HA.out).mono ?_
      rintro e W5 ⟨rfl, h5, f5⟩
      have H5 := Hid.intro (H4.out.tb h5 f5)
      have F5 := Hid.intro (F4.out.trans (Tri.tb f5))
      clear h5 f5 H4 F4
      go_wp2_with fail
      refine (xadd_any t b p ⟨3, n, false, 0, 0⟩ c _ _ H5.out.1 HC.out).mono ?_
      rintro e W6 ⟨rfl, h6, f6⟩
      have H6 := Hid.intro (H5.out.tb h6 f6)
      have F6 := Hid.intro (F5.out.trans (Tri.tb f6))
      clear h6 f6 H5 F5
      go_wp2_with fail
      (try simp only [Exit.then]); refine bodyPost_ret (Fx.results3 rfl _ _ _) rfl ?_
      exact ⟨a, c, 0, _, _, rfl, FIN.out, H6.out, F6.out⟩
    · have eM : Pp.makF S n E4 = S := if_neg e0
      rw [eM] at h4
      have FIN : Hid (Fx.PipTo T S 0 0 E4 T S) := Hid.intro (.inr ⟨R2.out, n, E4, hf, .inl ⟨e0, rfl, rfl, rfl, rfl, rfl⟩⟩)
      have H4 := Hid.intro (HF.out.pi h4 f4)
      have F4 : Hid (Tri t b p w W4) := Hid.intro (Tri.pi f4)
      have EV := Hid.intro (errV_ne e0)
      rw [EV.out]
      clear h4 f4 hf y1 e0
      go_wp2_with fail
      (try simp only [Exit.then]); refine bodyPost_ret (Fx.results3 rfl _ _ _) rfl ?_
      exact ⟨0, 0, E4, T, S, by rw [EV.out]; rfl, FIN.out, H4.out, F4.out⟩
end Go.Proofs.YtghogbngmcolmaaGreat

/- The code's memory: Unmap. -/
import Derived.Test.YtnppahmlifnnnabNf
namespace Go.Proofs.Ytnppahmlifnnnab
open Go.RowKit
open Bd (P)
open Mv (Me Bk)

/-- So far the pages from x on, j of them, are gone. -/
def UV (b r q x : Nat) (m : Me) (k : Bk) (w0 : World) (j : Nat) (w : World) : Prop := UB w b r q (Mv.umM m x (x + j)) (Mv.umK m k x j) ∧ Thr b r q w0 w ∧ Mv.Cnt (Mv.umM m x (x + j)) (Mv.umK m k x j)
theorem UV.start {b r q x : Nat} {m : Me} {k : Bk} {w : World} (h : UB w b r q m k) (C : Mv.Cnt m k) : UV b r q x m k w 0 w := by
  have e1 : ∀ i, (Mv.umM m x (x + 0)).is i = m.is i := fun i => if_neg (by omega)
  have e2 : ∀ i, (Mv.umM m x (x + 0)).fr i = m.fr i := fun i => if_neg (by omega)
  refine ⟨⟨h.me.congr (fun i _ => ⟨e1 i, e2 i⟩), h.bk, h.br, h.bq⟩, Thr.refl _ _ _ _, C.inv, C.nb, fun i hi => by rw [e2]; exact C.le i hi, fun f hf => ?_⟩
  rw [Mv.cntK_congr (fr := m.fr) (fun i _ => e2 i)]
  exact C.cnt f hf
theorem UV.below {b r q x j : Nat} {m : Me} {k : Bk} {w0 w w' : World} (h : UV b r q x m k w0 j w) (B : Below w.heap.size w w') : UV b r q x m k w0 j w' := ⟨h.1.below B, h.2.1.trans (Thr.below B), h.2.2⟩
theorem UV.fr {b r q x j : Nat} {m : Me} {k : Bk} {w0 w : World} (_ : UV b r q x m k w0 j w) : (Mv.umM m x (x + j)).fr (x + j) = m.fr (x + j) ∧ (Mv.umM m x (x + j)).is (x + j) = m.is (x + j) := ⟨if_neg (by omega), if_neg (by omega)⟩
theorem UV.step {b r q x j : Nat} {m : Me} {k : Bk} {w0 w w2 : World} (h : UV b r q x m k w0 j w) (hj : x + j < 16) (me : UAt w2 b r (Mv.umM m x (x + j))) (bk : VAt w2 r q (Mv.umK m k x (j + 1))) (t : Thr b r q w0 w2) :
    UV b r q x m k w0 (j + 1) ((w2.setCell ⟨b, 1 + x * 2 + j * 2, none⟩ (.int .i64 0)).setCell ⟨b, 1 + x * 2 + j * 2 + 1, none⟩ (.int .i64 (-1))) := by
  have f : Frm b w2 ((w2.setCell ⟨b, 1 + x * 2 + j * 2, none⟩ (.int .i64 0)).setCell ⟨b, 1 + x * 2 + j * 2 + 1, none⟩ (.int .i64 (-1))) := ((Frm.refl b w2).setCell _ _).setCell _ _
  have a := (me.setIs (x + j) 0 hj).setFr (x + j) 0 hj (-1) rfl
  rw [show 1 + (x + j) * 2 = 1 + x * 2 + j * 2 by omega] at a
  refine ⟨⟨a.congr (fun i _ => ?_), bk.frm f h.1.br h.1.bq, h.1.br, h.1.bq⟩, t.trans (Thr.mem f), h.2.2.step hj⟩
  show _ = upn _ _ _ i ∧ _ = upn _ _ _ i
  unfold upn
  by_cases d : i = x + j
  · subst d; rw [if_pos rfl, if_pos rfl]; exact umM_at m x j
  · rw [if_neg d, if_neg d]; exact umM_step d
set_option maxRecDepth 100000 in
set_option maxHeartbeats 2000000 in
theorem vunmap_ok (b r q x n : Nat) (m : Me) (k : Bk) (w : World) (h : UB w b r q m k) (C : Mv.Cnt m k) (hx : x < 16) (h1 : 1 ≤ n) (hn : x + n ≤ 16) :
    Calls Try.prog 29 #[.pointer (some ⟨b, 0, none⟩), .int .i64 x, .int .i64 n] w fun e w' => e = .returned (.tuple #[.int .i64 (Mv.umC m x n : Int), errV 0]) ∧ UB w' b r q (Mv.umM m x (x + n)) (Mv.umK m k x n) ∧ Thr b r q w w' := by
  have S0 : Hid (UV b r q x m k w 0 w) := Hid.intro (UV.start h C)
  have SP := Hid.intro (vspan_ok b x n w hx h1 hn)
  clear h C
  go_enter Try.func29, Try.ntmps29
  go_wp2_with fail
  refine SP.out.mono ?_
  rintro e w1 ⟨rfl, hw⟩
  subst w1
  rw [errV_zero]
  go_wp2_with fail
  go_loopw [10, 25] (fun s i wr => ∃ (j : Nat), i = .int .i64 j ∧ s = .int .i64 (Mv.umC m x j : Int) ∧ j ≤ n ∧ Hid (UV b r q x m k w j wr)) (fun _ i _ => n - (intOf i).toNat)
  case atStart => exact ⟨0, rfl, rfl, by omega, S0⟩
  case round =>
    clear S0
    obtain ⟨j, rfl, rfl, hj, S⟩ := hrel
    by_cases hlt : j < n
    · have hltI : (j : Int) < (n : Int) := by omega
      have c0 := S.out.1.me.cIs2 x j (by omega)
      have c1 := S.out.1.me.cFr2 x j (by omega)
      have cf := S.out.1.me.frozen
      rw [S.out.fr.1] at c1
      have hbs : b < wr.heap.size := S.out.1.me.lt
      have hbn : b ≠ wr.heap.size := by omega
      have lc := Mv.umC_le m x j
      by_cases f0 : m.fr (x + j) = 0
      · have LE : Hid (Mv.umC m x (j + 1) = Mv.umC m x j) := Hid.intro (by show Mv.umC m x j + (if m.fr (x + j) = 0 then 0 else 1) = _; rw [if_pos f0]; rfl)
        have KE : Hid (Mv.umK m k x (j + 1) = Mv.umK m k x j) := Hid.intro (if_pos f0)
        rw [f0] at c1
        have c1' : wr.cell? ⟨b, 1 + x * 2 + j * 2 + 1, none⟩ = some (.int .i64 (-1)) := c1
        have NX : Hid (∀ o, UV b r q x m k w (j + 1) (((wr.setCell ⟨b, 1 + x * 2 + j * 2, none⟩ (.int .i64 0)).setCell ⟨b, 1 + x * 2 + j * 2 + 1, none⟩ (.int .i64 (-1))).alloc o)) := Hid.intro (fun o =>
          (S.out.step (by omega) S.out.1.me (by rw [KE.out]; exact S.out.1.bk) S.out.2.1).below ((Below.refl _ _).alloc (Nat.le_refl _) o))
        clear f0 c1
        go_wp2_with fail
        go_roundw
        case rel => exact ⟨j + 1, by go_num, by rw [LE.out], by omega, NX.out _⟩
        case measure => simp [intOf]; omega
      · obtain ⟨v, hv⟩ : ∃ v, m.fr (x + j) = v + 1 := ⟨m.fr (x + j) - 1, by omega⟩
        have LE : Hid (Mv.umC m x (j + 1) = Mv.umC m x j + 1) := Hid.intro (by show Mv.umC m x j + (if m.fr (x + j) = 0 then 0 else 1) = _; rw [if_neg f0])
        have KE : Hid (Mv.umK m k x (j + 1) = Mv.drp (Mv.umK m k x j) v) := Hid.intro (by
          show (if m.fr (x + j) = 0 then Mv.umK m k x j else Mv.drp (Mv.umK m k x j) (m.fr (x + j) - 1)) = _
          rw [if_neg f0, hv, Nat.add_sub_cancel])
        rw [hv, show ((v + 1 : Nat) : Int) - 1 = (v : Int) by omega] at c1
        have v64 : v < 64 := by have := S.out.2.2.le (x + j) (by omega); rw [S.out.fr.1, hv] at this; omega
        have v1 : ((v : Int) == -1) = false := by simp
        have RF : Hid (1 ≤ (Mv.umK m k x j).refs v ∧ (Mv.umK m k x j).refs v < 2 ^ 60) := Hid.intro (by
          have a := S.out.2.2.cnt v v64
          have p := Mv.cntK_pos (fr := (Mv.umM m x (x + j)).fr) (f := v) (n := 16) (i := x + j) (by omega) (by rw [S.out.fr.1, hv])
          omega)
        have d0 := S.out.1.me.cBank
        have SB : Hid (∀ o, UV b r q x m k w j (wr.alloc o)) := Hid.intro (fun o => S.out.below ((Below.refl _ _).alloc (Nat.le_refl _) o))
        clear f0 hv
        go_wp2_with fail
        go_region_with ((go_at_call 85; refine (vleave_any r q v (Mv.umK m k x j) _ (by first | exact (SB.out _).1.bk.drew | exact (SB.out _).1.bk) v64 S.out.2.2.inv RF.out.1 RF.out.2).mono ?_; rintro e w4 ⟨rfl, hk4, F4⟩; have H4 : Hid (UAt w4 b r (Mv.umM m x (x + j)) ∧ VAt w4 r q (Mv.drp (Mv.umK m k x j) v) ∧ Thr b r q w w4) := Hid.intro (by first | exact ⟨(SB.out _).1.me.drew.two F4 S.out.1.br S.out.1.bq, hk4, (SB.out _).2.1.drew.trans (Thr.bank F4)⟩ | exact ⟨(SB.out _).1.me.two F4 S.out.1.br S.out.1.bq, hk4, (SB.out _).2.1.trans (Thr.bank F4)⟩); clear hk4 F4))
        all_goals
          clear c0 c1 cf d0 hbs hbn
          have e0 := H4.out.1.cIs2 x j (by omega)
          have e1 := H4.out.1.cFr2 x j (by omega)
          have ef := H4.out.1.frozen
          have NX : Hid (UV b r q x m k w (j + 1) ((w4.setCell ⟨b, 1 + x * 2 + j * 2, none⟩ (.int .i64 0)).setCell ⟨b, 1 + x * 2 + j * 2 + 1, none⟩ (.int .i64 (-1)))) := Hid.intro (S.out.step (by omega) H4.out.1 (by rw [KE.out]; exact H4.out.2.1) H4.out.2.2)
          generalize Mv.umC m x j = cj at *
          go_wp2_with fail
          go_roundw
          case rel => exact ⟨j + 1, by go_num, by rw [LE.out]; go_num, by omega, NX.out⟩
          case measure => simp [intOf]; omega
    · have hjn : j = n := by omega
      subst hjn
      go_wp2_with fail
      go_ret2
      exact ⟨rfl, S.out.1, S.out.2.1⟩
theorem vunmap_any (b r q : Nat) (a n : Int) (m : Me) (k : Bk) (w : World) (h : UB w b r q m k) (C : Mv.Cnt m k) :
    Calls Try.prog 29 #[.pointer (some ⟨b, 0, none⟩), .int .i64 a, .int .i64 n] w fun e w' => e = .returned (.tuple #[.int .i64 (Mv.unC m a n : Int), errV (Mv.unE a n)]) ∧ UB w' b r q (Mv.unM m a n) (Mv.unK m k a n) ∧ Thr b r q w w' := by
  unfold Mv.unC Mv.unE Mv.unM Mv.unK
  cases hb : Mv.badB a n
  · obtain ⟨x, j, rfl, rfl, hx, hk1, hk⟩ := Mv.bad_no hb
    rw [if_neg (by decide), if_neg (by decide), if_neg (by decide), if_neg (by decide), Int.toNat_natCast, Int.toNat_natCast]
    exact vunmap_ok b r q x j m k w h C hx hk1 hk
  · rw [if_pos rfl, if_pos rfl, if_pos rfl, if_pos rfl]
    have HF := Hid.intro h
    have SP := Hid.intro (vspan_bad b a n w hb)
    clear hb h C
    go_enter Try.func29, Try.ntmps29
    go_wp2_with fail
    refine SP.out.mono ?_
    rintro e w1 ⟨rfl, hw⟩
    subst w1
    rw [errV_ne (by decide)]
    go_wp2_with fail
    go_ret2
    exact ⟨rfl, HF.out, Thr.refl _ _ _ _⟩
end Go.Proofs.Ytnppahmlifnnnab

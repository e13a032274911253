/- The walks of swap, rise and sink. -/
import Derived.Test.YtgabfkaadflciaaQw
namespace Go.Proofs.Ytgabfkaadflciaa
open Go.RowKit
open Hp (Q)

set_option maxHeartbeats 400000 in
theorem swap_any (b o x y : Nat) (q : Q) (w : World) (h : At w b o q) (hx : x < 64) (hy : y < 64) (hhx : q.heap x < 64) (hhy : q.heap y < 64) :
    Calls Try.prog 143 #[.pointer (some ⟨b, o, none⟩), .int .i64 x, .int .i64 y] w fun e w' => e = .returned (.tuple #[]) ∧ At w' b o (Hp.swap q x y) ∧ Only b o w w' := by
  have c1 := h.heap x hx
  have c2 := h.heap y hy
  have l1 : (x : Int) < 64 := by omega
  have l2 : (y : Int) < 64 := by omega
  have H : Hid (At w b o q) := h
  have HX : Hid (q.heap x < 64) := hhx
  have HY : Hid (q.heap y < 64) := hhy
  clear h hhx hhy
  go_enter Try.func143, Try.ntmps143
  go_wp2
  go_quiet (fail)
  go_wp2_with fail
  refine (set_any b o x (q.heap y) q _ (H.out.drewN _) hx HY.out).mono ?_
  rintro e w1 ⟨rfl, h1, o1⟩
  have H1 : Hid (At w1 b o (Hp.set q x (q.heap y))) := h1
  have O1 : Hid (Only b o (w.drewN nq) w1) := o1
  clear h1 o1
  go_wp2_with fail
  refine (set_any b o y (q.heap x) _ _ H1.out hy HX.out).mono ?_
  rintro e w2 ⟨rfl, h2, o2⟩
  go_wp2_with fail
  go_end0
  exact ⟨rfl, h2, ((Only.drewN b o w nq).trans O1.out).trans o2⟩

theorem ahead_i (b o : Nat) (x y : Int) (q : Q) (w : World) (h : At w b o q) (x0 : 0 ≤ x) (x1 : x < 64) (y0 : 0 ≤ y) (y1 : y < 64) (hhx : q.heap x.toNat < 64) (hhy : q.heap y.toNat < 64) :
    Calls Try.prog 142 #[.pointer (some ⟨b, o, none⟩), .int .i64 x, .int .i64 y] w fun e w' => e = .returned (.bool (ahB q x.toNat y.toNat)) ∧ ∃ n, w' = w.drewN n := by
  obtain ⟨x, rfl⟩ := Int.eq_ofNat_of_zero_le x0
  obtain ⟨y, rfl⟩ := Int.eq_ofNat_of_zero_le y0
  exact ahead_any b o x y q w h (by omega) (by omega) hhx hhy
theorem swap_i (b o : Nat) (x y : Int) (q : Q) (w : World) (h : At w b o q) (x0 : 0 ≤ x) (x1 : x < 64) (y0 : 0 ≤ y) (y1 : y < 64) (hhx : q.heap x.toNat < 64) (hhy : q.heap y.toNat < 64) :
    Calls Try.prog 143 #[.pointer (some ⟨b, o, none⟩), .int .i64 x, .int .i64 y] w fun e w' => e = .returned (.tuple #[]) ∧ At w' b o (Hp.swap q x.toNat y.toNat) ∧ Only b o w w' := by
  obtain ⟨x, rfl⟩ := Int.eq_ofNat_of_zero_le x0
  obtain ⟨y, rfl⟩ := Int.eq_ofNat_of_zero_le y0
  exact swap_any b o x y q w h (by omega) (by omega) hhx hhy

set_option maxHeartbeats 400000 in
theorem rise_any (b o a : Nat) (q : Q) (w : World) (h : At w b o q) (ho : Hp.Okp q) (hr : Hp.RI a a q) :
    Calls Try.prog 79 #[.pointer (some ⟨b, o, none⟩), .int .i64 a] w fun e w' => e = .returned (.tuple #[]) ∧ Only b o w w' ∧ ∃ q', At w' b o q' ∧ Hp.Okp q' ∧ Hp.Same q q' ∧ Hp.DI a q' := by
  have hlt0 := hr.lt
  have hle0 := ho.le
  go_enter Try.func79, Try.ntmps79
  go_wp2
  go_loopw [1] (fun i wr => ∃ (p : Nat) (q' : Q), i = .int .i64 p ∧ p < 64 ∧ Hid (Only b o w wr ∧ At wr b o q' ∧ Hp.Okp q' ∧ Hp.Same q q' ∧ Hp.RI a p q')) (fun i _ => (intOf i).toNat)
  case atStart => exact ⟨a, q, rfl, by omega, Only.refl _ _ _, h, ho, Hp.Same.refl q, hr⟩
  case round =>
    clear h ho hr
    obtain ⟨p, q', rfl, hp, H⟩ := hrel
    by_cases h0 : p = 0
    · subst h0
      go_wp2
      go_end0
      obtain ⟨h1, h2, h3, h4, h5⟩ := H.out
      exact ⟨rfl, h1, q', h2, h3, h4, Hp.rise_end h5 (.inl rfl)⟩
    · have hp0 : (0 : Int) < (p : Int) := by omega
      have hpn : 0 < p := by omega
      have hu64 : (((p : Int) - 1) / 2).toNat = (p - 1) / 2 := by omega
      have HU : Hid ((((p : Int) - 1) / 2).toNat = (p - 1) / 2) := hu64
      have hm : Hid (p < q'.many ∧ (p - 1) / 2 < q'.many) := ⟨H.out.2.2.2.2.lt, by have := H.out.2.2.2.2.lt; omega⟩
      clear hu64
      go_wp2_with fail
      refine (ahead_i b o _ _ q' _ H.out.2.1 (by omega) (by omega) (by omega) (by omega) (by rw [Int.toNat_natCast]; exact (H.out.2.2.1.at_ p hm.out.1).1) (by rw [HU.out]; exact (H.out.2.2.1.at_ _ hm.out.2).1)).mono ?_
      rintro e w1 ⟨rfl, n1, rfl⟩
      rw [HU.out, Int.toNat_natCast]
      cases hah : ahB q' p ((p - 1) / 2)
      · have HN : Hid (ahB q' p ((p - 1) / 2) = false) := hah
        clear hah
        go_wp2_with fail
        refine bodyPost_ret (results_none rfl _ _ _) rfl ?_
        obtain ⟨h1, h2, h3, h4, h5⟩ := H.out
        refine ⟨rfl, h1.trans (Only.drewN b o _ _), q', h2.drewN _, h3, h4, Hp.rise_end h5 (.inr fun k => ?_)⟩
        have := (ahB_iff _ _ _).2 k
        rw [HN.out] at this
        cases this
      · have HN : Hid (ahB q' p ((p - 1) / 2) = true) := hah
        clear hah
        go_wp2_with fail
        refine (swap_i b o _ _ q' _ (H.out.2.1.drewN _) (by omega) (by omega) (by omega) (by omega) (by rw [Int.toNat_natCast]; exact (H.out.2.2.1.at_ p hm.out.1).1) (by rw [HU.out]; exact (H.out.2.2.1.at_ _ hm.out.2).1)).mono ?_
        rintro e w2 ⟨rfl, h2, o2⟩
        rw [HU.out, Int.toNat_natCast] at h2
        have H2 : Hid _ := h2
        have O2 : Hid _ := o2
        clear h2 o2
        go_wp2_with fail
        go_roundw
        case rel =>
          obtain ⟨h1, h2, h3, h4, h5⟩ := H.out
          have sw := Hp.swap_ok h3 hm.out.1 hm.out.2
          exact ⟨(p - 1) / 2, _, by rw [show ((p : Int) - 1) / 2 = (((p - 1) / 2 : Nat) : Int) by omega], by omega, (h1.trans (Only.drewN b o _ _)).trans O2.out, H2.out, sw.1, h4.trans sw.2, Hp.rise_step h5 hpn ((ahB_iff _ _ _).1 HN.out)⟩
        case measure => simp [intOf]; omega

end Go.Proofs.Ytgabfkaadflciaa

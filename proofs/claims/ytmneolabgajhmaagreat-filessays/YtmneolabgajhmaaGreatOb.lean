/- The document's own open files: Node, Pipe, Close, Read, Write. -/
import Derived.Test.YtmneolabgajhmaaGreatOa
import Derived.Test.YtmneolabgajhmaaGreatYp
import Derived.Test.YtmneolabgajhmaaGreatQc
import Derived.Test.YtmneolabgajhmaaGreatEb
namespace Go.Proofs.YtmneolabgajhmaaGreat
open Go.RowKit
open Fx (Fi)
open Tr (Fo Nd RN)
open Pp (Pi)

/-- The document's own: its files, its forest, its pipes. -/
def RX (W : World) (m c q : Nat) (B : Bs) (T : Nat → Fi) (F : Fo) (S : Nat → Pi) : Prop := OAt W m c q T ∧ (∃ R rv, FR B W c F R rv) ∧ QAt W q S ∧ B.av m ∧ B.av q ∧ m ≠ c ∧ m ≠ q ∧ c ≠ q
section
variable {w w' : World} {m c q : Nat} {B : Bs} {T T' : Nat → Fi} {F F' : Fo} {S S' : Nat → Pi}
theorem RX.tb (h : RX w m c q B T F S) (k : OAt w' m c q T') (f : Frm m w w') : RX w' m c q B T' F S := by
  obtain ⟨R, rv, hr⟩ := h.2.1
  exact ⟨k, ⟨R, rv, hr.avoid f h.2.2.2.1 h.2.2.2.2.2.1⟩, h.2.2.1.frm f (Ne.symm h.2.2.2.2.2.2.1), h.2.2.2⟩
theorem RX.fo (h : RX w m c q B T F S) (k : ∃ R rv, FR B w' c F' R rv) (f : Frm c w w') : RX w' m c q B T F' S := ⟨h.1.frm f h.2.2.2.2.2.1, k, h.2.2.1.frm f (Ne.symm h.2.2.2.2.2.2.2), h.2.2.2⟩
theorem RX.pi (h : RX w m c q B T F S) (k : QAt w' q S') (f : Frm q w w') : RX w' m c q B T F S' := by
  obtain ⟨R, rv, hr⟩ := h.2.1
  exact ⟨h.1.frm f h.2.2.2.2.2.2.1, ⟨R, rv, hr.avoid f h.2.2.2.2.1 (Ne.symm h.2.2.2.2.2.2.2)⟩, k, h.2.2.2⟩
theorem RX.below (h : RX w m c q B T F S) (f : Below w.heap.size w w') : RX w' m c q B T F S := by
  obtain ⟨R, rv, hr⟩ := h.2.1
  exact ⟨h.1.below f h.1.lt, ⟨R, rv, hr.below f⟩, h.2.2.1.below f h.2.2.1.lt, h.2.2.2⟩
theorem RX.drew (h : RX w m c q B T F S) : RX w.drew m c q B T F S := h.below ⟨rfl, rfl, rfl, Nat.le_refl _, fun _ _ => rfl⟩
end
theorem Fx.NodTo.unique {T T' T'' : Nat → Fi} {F F' F'' : Fo} {z E E' : Int} {wr : Bool} {K K' : Nat} (h : Fx.NodTo T F z wr K E T' F') (k : Fx.NodTo T F z wr K' E' T'' F'') : K = K' ∧ E = E' ∧ T' = T'' ∧ F' = F'' := by
  rcases h with ⟨a, rfl, rfl, rfl, rfl⟩ | ⟨a, b, rfl, rfl, rfl, rfl⟩ | ⟨a, b, d, rfl, rfl, rfl⟩ <;> rcases k with ⟨a', rfl, rfl, rfl, rfl⟩ | ⟨a', b', rfl, rfl, rfl, rfl⟩ | ⟨a', b', d', rfl, rfl, rfl⟩
  · exact ⟨rfl, rfl, rfl, rfl⟩
  · exact absurd a' a
  · exact absurd a' a
  · exact absurd a a'
  · exact ⟨rfl, rfl, rfl, rfl⟩
  · omega
  · exact absurd a a'
  · omega
  · obtain rfl := d.unique d'
    exact ⟨rfl, rfl, rfl, rfl⟩
theorem Pp.FreeTo.nn' {S : Nat → Pi} {n : Nat} {E : Int} (h : Pp.FreeTo S n E) : 0 ≤ E := by rcases h with ⟨e, _⟩ | ⟨e, _⟩ <;> omega
theorem Pp.hy_dro' (S : Nat → Pi) (A : Int) (On : Bool) : Pp.opE S A On = 0 → (Pp.tim (S A.toNat) On : Int) + (-1) = ((Pp.tim (S A.toNat) On - 1 : Nat) : Int) := fun h => by
  obtain ⟨n, rfl, _, _, t0⟩ := Pp.opE_ok h
  rw [Int.toNat_natCast]
  omega
theorem Fx.cap {S : Nat → Pi} (h : Pp.Sm S) {A : Int} {On : Bool} (h8 : Pp.opE S A On = 0) : Pp.tim (S A.toNat) On - 1 < 2 ^ 61 := by
  obtain ⟨n, rfl, n8, _, _⟩ := Pp.opE_ok h8
  rw [Int.toNat_natCast]
  have := h n n8
  unfold Pp.tim
  split <;> omega
set_option maxRecDepth 100000 in
set_option maxHeartbeats 1000000 in
theorem onode_any (m c q : Nat) (B : Bs) (z : Int) (wr : Bool) (T : Nat → Fi) (F : Fo) (S : Nat → Pi) (w : World) (h : RX w m c q B T F S) (hs : Fx.Sm F S) :
    Calls Tryz.prog 45 #[.pointer (some ⟨m, 0, none⟩), .int .i64 z, .bool wr] w fun e w' => ∃ (K : Nat) (E : Int) (T' : Nat → Fi) (F' : Fo), e = .returned (.tuple #[.int .i64 (K : Int), .int .i64 E]) ∧ Fx.NodTo T F z wr K E T' F' ∧ RX w' m c q B T' F' S ∧ Tri m c q w w' := by
  have HF := Hid.intro h
  have HS := Hid.intro hs
  have y0 := h.1.fo
  obtain ⟨R, rv, hr⟩ := h.2.1
  have HR := Hid.intro hr
  have eK : Hid (Tr.isK F z 1 = Tr.isE F z 1) := Hid.intro (if_neg (by decide))
  clear hr
  by_cases d : Tr.isE F z 1 = 0
  · have D := Hid.intro d
    have lc := Fx.cnt_le T 24
    by_cases r1 : Fx.cnt T 24 = 24
    · have rd : ((Fx.cnt T 24 : Int) == 24) = true := by simp; omega
      have FIN : Hid (Fx.NodTo T F z wr 0 4 T F) := Hid.intro (.inr (.inl ⟨d, r1, rfl, rfl, rfl, rfl⟩))
      clear h hs d lc r1
      go_enter Tryz.func45, Tryz.ntmps45
      go_wp2_with fail
      refine (ris_any B c 1 z F R rv _ HR.out).mono ?_
      rintro e w1 ⟨rfl, hw1⟩
      subst w1
      rw [eK.out, D.out]
      go_wp2_with fail
      refine (oopen_any m c q T _ HF.out.1).mono ?_
      rintro e w1 ⟨rfl, hw1⟩
      subst w1
      go_wp2_with fail
      go_ret2
      exact ⟨0, 4, T, F, rfl, FIN.out, HF.out, Tri.refl _ _ _ _⟩
    · have rd : ((Fx.cnt T 24 : Int) == 24) = false := by simp; omega
      obtain ⟨K, hK⟩ := Fx.low_of (T := T) (by omega)
      have HK := Hid.intro hK
      obtain ⟨n, rfl, n40, _, _⟩ := Tr.isE_ok d
      have FIN : Hid (Fx.NodTo T F (n : Int) wr K 0 (Fx.put T K ⟨1, n, wr, 0, 1⟩) (Tr.hol F (n : Int))) := Hid.intro (.inr (.inr ⟨d, by omega, hK, rfl, by rw [Int.toNat_natCast], rfl⟩))
      clear h hs d lc r1 hK
      go_enter Tryz.func45, Tryz.ntmps45
      go_wp2_with fail
      refine (ris_any B c 1 n F R rv _ HR.out).mono ?_
      rintro e w1 ⟨rfl, hw1⟩
      subst w1
      rw [eK.out, D.out]
      go_wp2_with fail
      refine (oopen_any m c q T _ HF.out.1).mono ?_
      rintro e w1 ⟨rfl, hw1⟩
      subst w1
      go_wp2_with fail
      refine (rhold_any B c F R rv _ n HR.out HS.out.1).mono ?_
      rintro e W3 ⟨rfl, h3, f3⟩
      obtain ⟨R3, h3⟩ := h3
      have H3 := Hid.intro (HF.out.fo ⟨R3, rv, h3⟩ f3)
      have F3 : Hid (Tri m c q w W3) := Hid.intro (Tri.fo f3)
      clear h3 f3 y0
      go_wp2_with fail
      refine (olay_any m c q ⟨1, n, wr, 0, 0⟩ K T _ H3.out.1 HK.out).mono ?_
      rintro e W4 ⟨rfl, h4, f4⟩
      have H4 := Hid.intro (H3.out.tb h4 f4)
      have F4 := Hid.intro (F3.out.trans (Tri.tb f4))
      clear h4 f4 H3 F3
      go_wp2_with fail
      go_ret2
      exact ⟨K, 0, _, _, rfl, FIN.out, H4.out, F4.out⟩
  · have FIN : Hid (Fx.NodTo T F z wr 0 (Tr.isE F z 1) T F) := Hid.intro (.inl ⟨d, rfl, rfl, rfl, rfl⟩)
    have p0 : 0 < Tr.isE F z 1 := by have := Tr.isE_nn F z 1; omega
    clear h hs d
    go_enter Tryz.func45, Tryz.ntmps45
    go_wp2_with fail
    refine (ris_any B c 1 z F R rv _ HR.out).mono ?_
    rintro e w1 ⟨rfl, hw1⟩
    subst w1
    rw [eK.out]
    generalize Tr.isE F z 1 = ie at *
    go_wp2_with fail
    go_ret2
    exact ⟨0, ie, T, F, rfl, FIN.out, HF.out, Tri.refl _ _ _ _⟩
set_option maxRecDepth 100000 in
set_option maxHeartbeats 1000000 in
theorem opipe_any (m c q : Nat) (B : Bs) (T : Nat → Fi) (F : Fo) (S : Nat → Pi) (w : World) (h : RX w m c q B T F S) (hs : Pp.Sm S) (hz : Pp.Zr S) :
    Calls Tryz.prog 47 #[.pointer (some ⟨m, 0, none⟩)] w fun e w' => ∃ (A C : Nat) (E : Int) (T' : Nat → Fi) (S' : Nat → Pi), e = .returned (.tuple #[.int .i64 (A : Int), .int .i64 (C : Int), .int .i64 E]) ∧ Fx.PipTo T S A C E T' S' ∧ RX w' m c q B T' F S' ∧ Tri m c q w w' := by
  have HF := Hid.intro h
  have HS := Hid.intro hs
  have HZ := Hid.intro hz
  have lc := Fx.cnt_le T 24
  have y1 := h.1.pi
  by_cases r1 : 22 < Fx.cnt T 24
  · have rd : (22 : Int) < (Fx.cnt T 24 : Int) := by omega
    have FIN : Hid (Fx.PipTo T S 0 0 4 T S) := Hid.intro (.inl ⟨r1, rfl, rfl, rfl, rfl, rfl⟩)
    clear h hs hz lc r1
    go_enter Tryz.func47, Tryz.ntmps47
    go_wp2_with fail
    refine (oopen_any m c q T _ HF.out.1).mono ?_
    rintro e w1 ⟨rfl, hw1⟩
    subst w1
    go_wp2_with fail
    (try simp only [Exit.then]); refine bodyPost_ret (Fx.results3 rfl _ _ _) rfl ?_
    exact ⟨0, 0, 4, T, S, rfl, FIN.out, HF.out, Tri.refl _ _ _ _⟩
  · have rd : ¬ (22 : Int) < (Fx.cnt T 24 : Int) := by omega
    have r2 : Fx.cnt T 24 ≤ 22 := by omega
    have R2 := Hid.intro r2
    clear h hs hz lc r1 r2
    go_enter Tryz.func47, Tryz.ntmps47
    go_wp2_with fail
    refine (oopen_any m c q T _ HF.out.1).mono ?_
    rintro e w1 ⟨rfl, hw1⟩
    subst w1
    go_wp2_with fail
    refine (qmake_any q S _ HF.out.2.2.1 HS.out HZ.out).mono ?_
    rintro e W4 ⟨n, E4, rfl, hf, h4, f4⟩
    by_cases e0 : E4 = 0
    · subst e0
      obtain ⟨a, d, ha, hc⟩ := Fx.low_two' (T := T) ⟨2, n, false, 0, 1⟩ R2.out
      have FIN : Hid (Fx.PipTo T S a d 0 (Fx.put (Fx.put T a ⟨2, n, false, 0, 1⟩) d ⟨3, n, false, 0, 1⟩) (Pp.makF S n 0)) := Hid.intro (.inr ⟨R2.out, n, 0, hf, .inr ⟨rfl, rfl, ha, hc, rfl, rfl⟩⟩)
      have HA := Hid.intro ha
      have HC := Hid.intro hc
      have H4 := Hid.intro (HF.out.pi h4 f4)
      have F4 : Hid (Tri m c q w W4) := Hid.intro (Tri.pi f4)
      clear ha hc h4 f4 hf y1
      go_wp2_with fail
      refine (olay_any m c q ⟨2, n, false, 0, 0⟩ a T _ H4.out.1 HA.out).mono ?_
      rintro e W5 ⟨rfl, h5, f5⟩
      have H5 := Hid.intro (H4.out.tb h5 f5)
      have F5 := Hid.intro (F4.out.trans (Tri.tb f5))
      clear h5 f5 H4 F4
      go_wp2_with fail
      refine (olay_any m c q ⟨3, n, false, 0, 0⟩ d _ _ H5.out.1 HC.out).mono ?_
      rintro e W6 ⟨rfl, h6, f6⟩
      have H6 := Hid.intro (H5.out.tb h6 f6)
      have F6 := Hid.intro (F5.out.trans (Tri.tb f6))
      clear h6 f6 H5 F5
      go_wp2_with fail
      (try simp only [Exit.then]); refine bodyPost_ret (Fx.results3 rfl _ _ _) rfl ?_
      exact ⟨a, d, 0, _, _, rfl, FIN.out, H6.out, F6.out⟩
    · have eM : Pp.makF S n E4 = S := if_neg e0
      rw [eM] at h4
      have FIN : Hid (Fx.PipTo T S 0 0 E4 T S) := Hid.intro (.inr ⟨R2.out, n, E4, hf, .inl ⟨e0, rfl, rfl, rfl, rfl, rfl⟩⟩)
      have H4 := Hid.intro (HF.out.pi h4 f4)
      have F4 : Hid (Tri m c q w W4) := Hid.intro (Tri.pi f4)
      have p0 : 0 < E4 := by have := hf.nn'; omega
      clear h4 f4 hf y1 e0
      go_wp2_with fail
      (try simp only [Exit.then]); refine bodyPost_ret (Fx.results3 rfl _ _ _) rfl ?_
      exact ⟨0, 0, E4, T, S, rfl, FIN.out, H4.out, F4.out⟩
end Go.Proofs.YtmneolabgajhmaaGreat

/- The code's open files: Node, Read, Write. -/
import Derived.Test.YtmneolabgajhmaaGreatXc
namespace Go.Proofs.YtmneolabgajhmaaGreat
open Go.RowKit
open Fx (Fi)
open Tr (Fo Nd)
open Pp (Pi)

/-- A node is opened. -/
def Fx.NodTo (T : Nat → Fi) (F : Fo) (z : Int) (wr : Bool) (K : Nat) (E : Int) (T' : Nat → Fi) (F' : Fo) : Prop :=
  (Tr.isE F z 1 ≠ 0 ∧ K = 0 ∧ E = Tr.isE F z 1 ∧ T' = T ∧ F' = F)
  ∨ (Tr.isE F z 1 = 0 ∧ Fx.cnt T 24 = 24 ∧ K = 0 ∧ E = 4 ∧ T' = T ∧ F' = F)
  ∨ (Tr.isE F z 1 = 0 ∧ Fx.cnt T 24 < 24 ∧ Fx.Low T K ∧ E = 0 ∧ T' = Fx.put T K ⟨1, z.toNat, wr, 0, 1⟩ ∧ F' = Tr.hol F z)
set_option maxRecDepth 100000 in
set_option maxHeartbeats 1000000 in
theorem xnode_any (t b p : Nat) (z : Int) (wr : Bool) (T : Nat → Fi) (F : Fo) (S : Nat → Pi) (w : World) (h : FX w t b p T F S) (hs : Fx.Sm F S) :
    Calls Tryz.prog 23 #[.pointer (some ⟨t, 0, none⟩), .int .i64 z, .bool wr] w fun e w' => ∃ (K : Nat) (E : Int) (T' : Nat → Fi) (F' : Fo), e = .returned (.tuple #[.int .i64 (K : Int), errV E]) ∧ Fx.NodTo T F z wr K E T' F' ∧ FX w' t b p T' F' S ∧ Tri t b p w w' := by
  have HF := Hid.intro h
  have HS := Hid.intro hs
  have y0 := h.1.fo
  by_cases c : Tr.nodeE F z = 0
  · obtain ⟨n, rfl, n40, _⟩ := Tr.nodeE_ok c
    have EP : Hid (Tr.nodeE F (n : Int) = 0 ∧ ofA F (n : Int) = #[.int .i64 ((F.nd n).kind : Int), .int .i64 ((F.nd n).links : Int), .int .i64 ((F.nd n).held : Int), .int .i64 ((F.nd n).size : Int)]) := Hid.intro ⟨c, by unfold ofA; rw [if_pos c, Int.toNat_natCast]⟩
    have EI : Tr.isE F (n : Int) 1 = if (F.nd n).kind = 1 then 0 else 11 := by unfold Tr.isE; rw [if_neg (fun d => d c), Int.toNat_natCast]
    by_cases k1 : (F.nd n).kind = 1
    · have e0 : Tr.isE F (n : Int) 1 = 0 := by rw [EI, if_pos k1]
      have lc := Fx.cnt_le T 24
      rw [k1] at EP
      have EP' : Hid (Tr.nodeE F (n : Int) = 0 ∧ ofA F (n : Int) = #[.int .i64 1, .int .i64 ((F.nd n).links : Int), .int .i64 ((F.nd n).held : Int), .int .i64 ((F.nd n).size : Int)]) := EP
      generalize (F.nd n).links = q1 at EP'
      generalize (F.nd n).held = q2 at EP'
      generalize (F.nd n).size = q3 at EP'
      by_cases r1 : Fx.cnt T 24 = 24
      · have rd : decide ((1 : Int) ≤ 24 - (Fx.cnt T 24 : Int)) = false := by simp; omega
        have FIN : Hid (Fx.NodTo T F (n : Int) wr 0 4 T F) := Hid.intro (.inr (.inl ⟨e0, r1, rfl, rfl, rfl, rfl⟩))
        clear h hs c EI k1 e0 lc r1 EP
        go_enter Tryz.func23, Tryz.ntmps23
        go_wp2_with fail
        refine (tof_any b n F _ HF.out.2.1).mono ?_
        rintro e W1 ⟨rfl, b1⟩
        rw [EP'.out.1, EP'.out.2, errV_zero]
        have H1 := Hid.intro (HF.out.below b1)
        have F1 : Hid (Tri t b p w W1) := Hid.intro (Tri.below b1)
        clear b1 y0
        go_upto_region 2 with fail
        refine wp_gen (fun W' => FX W' t b p T F S ∧ Tri t b p w W' ∧ W'.cell? ⟨W1.heap.size, 0, none⟩ = some (.int .i64 1)) (by
          have bb := (Below.refl W1.heap.size W1).alloc (Nat.le_refl _) (.cells #[.int .i64 1, .int .i64 (q1 : Int), .int .i64 (q2 : Int), .int .i64 (q3 : Int)] 79)
          exact ⟨H1.out.below bb, F1.out.trans (Tri.below bb), act_cells (heap_alloc_new W1 _) 0 _ rfl⟩) ?_
        rintro W2 ⟨h2, f2, z0⟩
        have H2 := Hid.intro h2
        have F2 := Hid.intro f2
        clear h2 f2 H1 F1
        generalize W1.heap.size = bx at *
        go_wp2_with fail
        refine (xroom_any t b p 1 T _ H2.out.1).mono ?_
        rintro e W3 ⟨rfl, hW3⟩
        subst W3
        rw [rd]
        go_wp2_with fail
        go_ret2
        exact ⟨0, 4, T, F, rfl, FIN.out, H2.out, F2.out⟩
      · have rd : decide ((1 : Int) ≤ 24 - (Fx.cnt T 24 : Int)) = true := by simp; omega
        obtain ⟨K, hK⟩ := Fx.low_of (T := T) (by omega)
        have HK := Hid.intro hK
        have FIN : Hid (Fx.NodTo T F (n : Int) wr K 0 (Fx.put T K ⟨1, n, wr, 0, 1⟩) (Tr.hol F (n : Int))) := Hid.intro (.inr (.inr ⟨e0, by omega, hK, rfl, by rw [Int.toNat_natCast], rfl⟩))
        clear h hs c EI k1 e0 lc r1 EP hK
        go_enter Tryz.func23, Tryz.ntmps23
        go_wp2_with fail
        refine (tof_any b n F _ HF.out.2.1).mono ?_
        rintro e W1 ⟨rfl, b1⟩
        rw [EP'.out.1, EP'.out.2, errV_zero]
        have H1 := Hid.intro (HF.out.below b1)
        have F1 : Hid (Tri t b p w W1) := Hid.intro (Tri.below b1)
        clear b1 y0
        go_upto_region 2 with fail
        refine wp_gen (fun W' => FX W' t b p T F S ∧ Tri t b p w W' ∧ W'.cell? ⟨W1.heap.size, 0, none⟩ = some (.int .i64 1)) (by
          have bb := (Below.refl W1.heap.size W1).alloc (Nat.le_refl _) (.cells #[.int .i64 1, .int .i64 (q1 : Int), .int .i64 (q2 : Int), .int .i64 (q3 : Int)] 79)
          exact ⟨H1.out.below bb, F1.out.trans (Tri.below bb), act_cells (heap_alloc_new W1 _) 0 _ rfl⟩) ?_
        rintro W2 ⟨h2, f2, z0⟩
        have H2 := Hid.intro h2
        have F2 := Hid.intro f2
        have y0 := h2.1.fo
        clear h2 f2 H1 F1
        generalize W1.heap.size = bx at *
        go_wp2_with fail
        refine (xroom_any t b p 1 T _ H2.out.1).mono ?_
        rintro e W3 ⟨rfl, hW3⟩
        subst W3
        rw [rd]
        go_wp2_with fail
        refine (thold_any b n F _ H2.out.2.1 HS.out.1).mono ?_
        rintro e W3 ⟨rfl, h3, f3⟩
        have H3 := Hid.intro (H2.out.fo h3 f3)
        have F3 := Hid.intro (F2.out.trans (Tri.fo f3))
        clear h3 f3 y0 z0 H2 F2
        go_wp2_with fail
        refine (xadd_any t b p ⟨1, n, wr, 0, 0⟩ K T _ H3.out.1 HK.out).mono ?_
        rintro e W4 ⟨rfl, h4, f4⟩
        have H4 := Hid.intro (H3.out.tb h4 f4)
        have F4 := Hid.intro (F3.out.trans (Tri.tb f4))
        clear h4 f4 H3 F3
        go_wp2_with fail
        go_ret2
        exact ⟨K, 0, _, _, rfl, FIN.out, H4.out, F4.out⟩
    · have e0 : Tr.isE F (n : Int) 1 = 11 := by rw [EI, if_neg k1]
      have FIN : Hid (Fx.NodTo T F (n : Int) wr 0 11 T F) := Hid.intro (.inl ⟨by rw [e0]; decide, rfl, e0.symm, rfl, rfl⟩)
      have k1' : (((F.nd n).kind : Int) != 1) = true := by simp; omega
      have k1'' : (((F.nd n).kind : Int) == 1) = false := by simp; omega
      generalize (F.nd n).kind = kk at *
      generalize (F.nd n).links = q1 at EP
      generalize (F.nd n).held = q2 at EP
      generalize (F.nd n).size = q3 at EP
      clear h hs c EI k1 e0
      go_enter Tryz.func23, Tryz.ntmps23
      go_wp2_with fail
      refine (tof_any b n F _ HF.out.2.1).mono ?_
      rintro e W1 ⟨rfl, b1⟩
      rw [EP.out.1, EP.out.2, errV_zero]
      have H1 := Hid.intro (HF.out.below b1)
      have F1 : Hid (Tri t b p w W1) := Hid.intro (Tri.below b1)
      clear b1 y0
      go_upto_region 2 with fail
      refine wp_gen (fun W' => FX W' t b p T F S ∧ Tri t b p w W' ∧ W'.cell? ⟨W1.heap.size, 0, none⟩ = some (.int .i64 (kk : Int))) (by
        have bb := (Below.refl W1.heap.size W1).alloc (Nat.le_refl _) (.cells #[.int .i64 (kk : Int), .int .i64 (q1 : Int), .int .i64 (q2 : Int), .int .i64 (q3 : Int)] 79)
        exact ⟨H1.out.below bb, F1.out.trans (Tri.below bb), act_cells (heap_alloc_new W1 _) 0 _ rfl⟩) ?_
      rintro W2 ⟨h2, f2, z0⟩
      have H2 := Hid.intro h2
      have F2 := Hid.intro f2
      clear h2 f2 H1 F1
      generalize W1.heap.size = bx at *
      go_wp2_with fail
      go_ret2
      exact ⟨0, 11, T, F, rfl, FIN.out, H2.out, F2.out⟩
  · have E2 : Hid (errV (Tr.nodeE F z) = .iface 90 (.int .i64 (Tr.nodeE F z)) ∧ ofA F z = #[.int .i64 0, .int .i64 0, .int .i64 0, .int .i64 0]) := Hid.intro ⟨errV_ne c, if_neg c⟩
    have FIN : Hid (Fx.NodTo T F z wr 0 (Tr.nodeE F z) T F) := Hid.intro (by
      have e : Tr.isE F z 1 = Tr.nodeE F z := if_pos c
      exact .inl ⟨by rw [e]; exact c, rfl, e.symm, rfl, rfl⟩)
    clear h hs c
    go_enter Tryz.func23, Tryz.ntmps23
    go_wp2_with fail
    refine (tof_any b z F _ HF.out.2.1).mono ?_
    rintro e W1 ⟨rfl, b1⟩
    rw [E2.out.1, E2.out.2]
    have H1 := Hid.intro (HF.out.below b1)
    have F1 : Hid (Tri t b p w W1) := Hid.intro (Tri.below b1)
    clear b1 y0
    go_upto_region 2 with fail
    refine wp_gen (fun W' => FX W' t b p T F S ∧ Tri t b p w W') (by
      have bb := (Below.refl W1.heap.size W1).alloc (Nat.le_refl _) (.cells #[.int .i64 0, .int .i64 0, .int .i64 0, .int .i64 0] 79)
      exact ⟨H1.out.below bb, F1.out.trans (Tri.below bb)⟩) ?_
    rintro W2 ⟨h2, f2⟩
    have H2 := Hid.intro h2
    have F2 := Hid.intro f2
    clear h2 f2 H1 F1
    go_wp2_with fail
    go_ret2
    exact ⟨0, Tr.nodeE F z, T, F, by rw [E2.out.1]; rfl, FIN.out, H2.out, F2.out⟩
end Go.Proofs.YtmneolabgajhmaaGreat

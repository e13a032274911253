/- FilesSays: a closed fact: a file is opened. -/
import Derived.Test.YtmneolabgajhmaaGreatGa
import Derived.Test.YtmneolabgajhmaaGreatXe
import Derived.Test.YtmneolabgajhmaaGreatVa
import Derived.Test.YtmneolabgajhmaaGreatPn
namespace Go.Proofs.YtmneolabgajhmaaGreat
open Go.RowKit
open Fx (Fi)
open Tr (Fo Nd RN)
open Pp (Pi)

def Fx.o2 : Fo := Tr.makF Tr.g1 0 ⟨#[97]⟩ 1 1
theorem Fx.o2_mak : Tr.MakTo Tr.g1 0 ⟨#[97]⟩ 1 1 0 Fx.o2 :=
  .inr ⟨.inl rfl, 0, .inr ⟨rfl, .inr ⟨by decide +kernel, .inr ⟨.inr ⟨rfl, fun j hj => absurd hj (Nat.not_lt_zero j)⟩, .inr ⟨by show (0 : Nat) ≠ 8; decide, rfl⟩⟩⟩⟩, .inr ⟨rfl, 1, 0, Tr.free_g1, .inr ⟨rfl, rfl, rfl, rfl⟩⟩⟩
def Fx.o3 : Fo := Tr.hol Fx.o2 1
def Fx.t1 : Nat → Fi := Fx.put Fx.nul 0 ⟨1, 1, true, 0, 1⟩
theorem Fx.o_node {K : Nat} {E : Int} {T' : Nat → Fi} {F' : Fo} (h : Fx.NodTo Fx.nul Fx.o2 1 true K E T' F') : K = 0 ∧ E = 0 ∧ T' = Fx.t1 ∧ F' = Fx.o3 := by
  have c0 : Fx.cnt Fx.nul 24 = 0 := rfl
  have lo : Fx.Low Fx.nul 0 := ⟨by omega, rfl, fun k hk => absurd hk (Nat.not_lt_zero k)⟩
  have g : Fx.NodTo Fx.nul Fx.o2 1 true 0 0 Fx.t1 Fx.o3 := .inr (.inr ⟨rfl, by omega, lo, rfl, rfl, rfl⟩)
  exact h.unique g
theorem Fx.o_facts : Fx.wriE Fx.t1 Fx.o3 Pp.nul 0 ⟨#[120, 121, 122]⟩ = 0 ∧ Fx.wriK Fx.t1 Fx.o3 Pp.nul 0 ⟨#[120, 121, 122]⟩ = 3 ∧ Fx.cnt (Fx.wriT Fx.t1 Fx.o3 0 ⟨#[120, 121, 122]⟩) 24 = 1 := ⟨by decide +kernel, by decide +kernel, by decide +kernel⟩
theorem Fx.o_pz : Fx.Pz Fx.t1 := fun n _ => by
  unfold Fx.t1
  by_cases e : n = 0
  · subst e; rw [Fx.put_same]; exact Nat.two_pow_pos 60
  · rw [Fx.put_ne _ _ _ _ e]; exact Nat.two_pow_pos 60
theorem Fx.o_sm : Fx.Sm Fx.o2 Pp.nul := ⟨(((show Tr.Hb Tr.f0 0 from fun n _ => Nat.le_refl _).pla (T := 0) (E := 0) (.inr ⟨by decide, 0, 0, .inl ⟨rfl, by omega, rfl, fun m hm => by omega⟩, .inr ⟨rfl, rfl, rfl, rfl⟩⟩)).mak Fx.o2_mak).lt (by decide), fun wr n _ => by unfold Pp.tim Pp.nul; cases wr <;> exact Nat.two_pow_pos 60⟩
set_option maxRecDepth 100000 in
set_option maxHeartbeats 2000000 in
theorem opens_any (w : World) : Calls Tryz.prog 4 #[] w fun e w' => e = .returned (.bool true) ∧ Below w.heap.size w w' := by
  have GF := Hid.intro Fx.o_facts
  go_enter Tryz.func4, Tryz.ntmps4
  go_wp2_with fail
  refine (tnew_any _).mono ?_
  rintro e W1 ⟨rfl, f1, b1⟩
  have F1 := Hid.intro f1
  have B1 := Hid.intro b1
  clear f1 b1
  go_wp2_with fail
  refine (tplant_any w.heap.size Tr.f0 _ F1.out (by decide)).mono ?_
  rintro e W2 ⟨T, E, G, rfl, hp, h2, f2⟩
  obtain ⟨rfl, rfl, rfl⟩ := Tr.pla_first hp
  have F2 := Hid.intro h2
  have B2 := Hid.intro (f2.below B1.out (Nat.le_refl _) B1.out.size)
  clear hp h2 f2 F1 B1
  rw [errV_zero]
  go_wp2_with fail
  refine (tmake_any w.heap.size 0 ⟨#[97]⟩ 1 Tr.g1 _ F2.out Tr.ok_g1.sz).mono ?_
  rintro e W4 ⟨K, E, G, rfl, hm, h3, f3⟩
  obtain ⟨rfl, rfl, rfl⟩ := hm.unique Fx.o2_mak
  have F4 := Hid.intro h3
  have B4 := Hid.intro (f3.below B2.out (Nat.le_refl _) B2.out.size)
  clear h3 f3 F2 B2 hm
  rw [errV_zero]
  go_wp2_with (refine Pp.wp_buildS rfl rfl ?_)
  have P5 := Hid.intro (pzero_alloc W4)
  generalize W4.alloc (.cells Pp.zA 47) = W5 at *
  refine (xnew_any w.heap.size W4.heap.size _).mono ?_
  rintro e W6 ⟨rfl, x6, b6⟩
  have S6 : Hid (Below w.heap.size w W6 ∧ FX W6 W5.heap.size w.heap.size W4.heap.size Fx.nul Fx.o2 Pp.nul ∧ w.heap.size ≤ W5.heap.size ∧ w.heap.size ≤ W4.heap.size) := Hid.intro (by
    have l4 := F4.out.lt
    have l5 := P5.out.1.lt
    have s4 := B4.out.size
    have s5 := P5.out.2.size
    exact ⟨(B4.out.trans (P5.out.2.mono s4)).trans (b6.mono (by omega)), ⟨x6, (F4.out.below P5.out.2).below b6, P5.out.1.below b6 P5.out.1.lt, by omega, by omega, by omega⟩, by omega, s4⟩)
  clear F4 B4 P5 x6 b6
  generalize W5.heap.size = t at *
  generalize W4.heap.size = p at *
  obtain ⟨b, hb⟩ : ∃ b, w.heap.size = b := ⟨_, rfl⟩
  rw [hb] at S6
  rw [hb]
  have HB := Hid.intro hb
  clear hb
  go_wp2_with fail
  refine (xnode_any t b p 1 true _ _ _ _ S6.out.2.1 Fx.o_sm).mono ?_
  rintro e W7 ⟨K, E, T', F', rfl, hm, h7, f7⟩
  obtain ⟨rfl, rfl, rfl, rfl⟩ := Fx.o_node hm
  have S7 := Hid.intro (And.intro (f7.behind S6.out.1 S6.out.2.2.1 (Nat.le_refl _) S6.out.2.2.2 (by rw [← HB.out]; exact S6.out.1.size)) (And.intro h7 S6.out.2.2))
  clear hm h7 f7 S6
  rw [errV_zero]
  go_wp2_with fail
  refine (xwrite_any t b p 0 ⟨#[120, 121, 122]⟩ _ _ _ _ S7.out.2.1 (by decide) Fx.o_pz).mono ?_
  rintro e W8 ⟨rfl, h8, f8⟩
  have S8 := Hid.intro (And.intro (f8.behind S7.out.1 S7.out.2.2.1 (Nat.le_refl _) S7.out.2.2.2 (by rw [← HB.out]; exact S7.out.1.size)) h8)
  clear h8 f8 S7
  rw [GF.out.1, GF.out.2.1, errV_zero]
  go_wp2_with (first | (go_at_call 15; refine (same_nil _).mono ?_; rintro e w7 ⟨rfl, hw7⟩; subst w7) | (go_at_call 16; refine (xopen_any t b p _ _ S8.out.2.1).mono ?_; rintro e w7 ⟨rfl, hw7⟩; subst w7; rw [GF.out.2.2]) | (go_at_call 20; refine (xroom_any t b p _ _ _ S8.out.2.1).mono ?_; rintro e w7 ⟨rfl, hw7⟩; subst w7; rw [GF.out.2.2]))
  go_ret
  exact ⟨rfl, by rw [HB.out]; exact S8.out.1⟩
end Go.Proofs.YtmneolabgajhmaaGreat

/- TopMove: two trees are planted; acts are done. -/
import Derived.Test.YtfgnhldnmbfnkabVc
namespace Go.Proofs.Ytfgnhldnmbfnkab
open Go.RowKit
open Tr (Fo Nd)

/-- The forest, behind all that was there before. -/
def TM (w W : World) (b : Nat) (F : Fo) : Prop := Below w.heap.size w W ∧ FAt W b F ∧ Tr.Ok F ∧ w.heap.size ≤ b
theorem TM.step {w W W' : World} {b : Nat} {F G : Fo} (h : TM w W b F) (h1 : FAt W' b G) (h2 : Frm b W W') (h3 : Tr.Ok G) : TM w W' b G := ⟨h2.below h.1 h.2.2.2 h.1.size, h1, h3, h.2.2.2⟩
theorem TM.below {w W W' : World} {b : Nat} {F : Fo} (h : TM w W b F) (h1 : Below W.heap.size W W') : TM w W' b F := ⟨h.1.trans (h1.mono h.1.size), h.2.1.below h1, h.2.2.1, h.2.2.2⟩
theorem TM.links {w W : World} {b : Nat} {F : Fo} (h : TM w W b F) : ∀ n, n < 40 → (F.nd n).kind ≠ 0 → (F.nd n).links < 2 ^ 60 := fun n hn k0 => by
  have := h.2.2.1.links_lt n hn k0
  omega
def Tr.g1 : Fo := Tr.plaF Tr.f0 0
def Tr.g2 : Fo := Tr.plaF Tr.g1 1
theorem Tr.free_g1 : Tr.FreeTo Tr.g1 1 0 := by
  refine .inl ⟨rfl, by omega, rfl, fun m hm => ?_⟩
  obtain rfl : m = 0 := by omega
  decide
theorem Tr.pla_first {T : Nat} {E : Int} {G : Fo} (h : Tr.PlaTo Tr.f0 T E G) : T = 0 ∧ E = 0 ∧ G = Tr.g1 := by
  have f : Tr.FreeTo Tr.f0 0 0 := .inl ⟨rfl, by omega, rfl, fun m hm => by omega⟩
  rcases h with ⟨a, _⟩ | ⟨_, n, e, hf, hm⟩
  · exact absurd a (by decide)
  · obtain ⟨rfl, rfl⟩ := hf.unique f
    rcases hm with ⟨a, _⟩ | ⟨_, b, c, d⟩
    · exact absurd rfl a
    · exact ⟨b, c, d⟩
theorem Tr.pla_second {T : Nat} {E : Int} {G : Fo} (h : Tr.PlaTo Tr.g1 T E G) : T = 1 ∧ E = 0 ∧ G = Tr.g2 := by
  have f := Tr.free_g1
  rcases h with ⟨a, _⟩ | ⟨_, n, e, hf, hm⟩
  · exact absurd a (by decide)
  · obtain ⟨rfl, rfl⟩ := hf.unique f
    rcases hm with ⟨a, _⟩ | ⟨_, b, c, d⟩
    · exact absurd rfl a
    · exact ⟨b, c, d⟩
theorem Tr.ok_g1 : Tr.Ok Tr.g1 := Tr.ok0.pla (T := 0) (E := 0) (.inr ⟨by decide, 0, 0, .inl ⟨rfl, by omega, rfl, fun m hm => by omega⟩, .inr ⟨rfl, rfl, rfl, rfl⟩⟩)
theorem Tr.ok_g2 : Tr.Ok Tr.g2 := Tr.ok_g1.pla (T := 1) (E := 0) (.inr ⟨by decide, 1, 0, Tr.free_g1, .inr ⟨rfl, rfl, rfl, rfl⟩⟩)
theorem Tr.cnt_g2 : Tr.cntN Tr.g2 40 = 2 := by decide +kernel
set_option maxRecDepth 100000 in
set_option maxHeartbeats 400000 in
theorem tm_far (a0 : Option Addr) (n0 c0 : Nat) (zn zt : Int) (nm ot : ByteArray) (w : World) (h : 80 < n0) :
    Calls Try.prog 8 #[.slice a0 n0 c0, .int .i64 zn, .string nm, .int .i64 zt, .string ot] w fun e w' => e = .returned (.bool true) ∧ Below w.heap.size w w' := by
  have d : decide ((n0 : Int) ≤ 80) = false := by simp; omega
  go_enter Try.func8, Try.ntmps8
  go_wp2_with fail
  refine (tnew_any _).mono ?_
  rintro e W1 ⟨rfl, f1, b1⟩
  have S1 : Hid (TM w W1 w.heap.size Tr.f0) := Hid.intro ⟨b1, f1, Tr.ok0, Nat.le_refl _⟩
  clear f1 b1
  go_wp2_with fail
  refine (tplant_any w.heap.size Tr.f0 _ S1.out.2.1 (by decide)).mono ?_
  rintro e W2 ⟨T, E, G, rfl, hp, h2, f2⟩
  obtain ⟨rfl, rfl, rfl⟩ := Tr.pla_first hp
  have S2 : Hid (TM w W2 w.heap.size Tr.g1) := Hid.intro (S1.out.step h2 f2 Tr.ok_g1)
  clear hp h2 f2
  rw [errV_zero]
  go_wp2_with fail
  refine (tplant_any w.heap.size Tr.g1 _ S2.out.2.1 (by decide)).mono ?_
  rintro e W3 ⟨T, E, G, rfl, hp, h3, f3⟩
  obtain ⟨rfl, rfl, rfl⟩ := Tr.pla_second hp
  have S3 : Hid (TM w W3 w.heap.size Tr.g2) := Hid.intro (S2.out.step h3 f3 Tr.ok_g2)
  clear hp h3 f3
  rw [errV_zero]
  go_wp2_with fail
  refine (tnodes_any w.heap.size Tr.g2 _ S3.out.2.1).mono ?_
  rintro e W4 ⟨rfl, hW⟩
  subst W4
  rw [Tr.cnt_g2]
  go_wp2_with fail
  refine (light_any _ _ _ _ _).mono ?_
  rintro e W4 ⟨rfl, hW⟩
  subst W4
  rw [d]
  go_wp2_with fail
  go_ret
  exact ⟨rfl, S3.out.1⟩
end Go.Proofs.Ytfgnhldnmbfnkab

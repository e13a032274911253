/- The law BuddySays. -/
import Derived.Test.YtpfljkgkdkchmaaYa
import Derived.Deep.CutRange
import Derived.Deep.CutBlock
import Derived.Deep.DeepCutAuto
namespace Go.Proofs.Ytpfljkgkdkchmaa
open Go.RowKit
open Bd (P)

/-- What the law has in its hands: both pools are p. -/
structure BX (w W : World) (b r : Nat) (p : P) : Prop where
  bel : Below w.heap.size w W
  le : w.heap.size ≤ b
  le' : w.heap.size ≤ r
  ne : b ≠ r
  code : CAt W b p
  ref : KAt W r p
  inv : Bd.Inv p ∧ Bd.NB p 64
section
variable {w W W' W4 W5 : World} {b r : Nat} {p p' : P}
theorem BX.below (h : BX w W b r p) (k : Below W.heap.size W W') : BX w W' b r p := ⟨h.bel.trans (k.mono h.bel.size), h.le, h.le', h.ne, h.code.below k, h.ref.below k, h.inv⟩
theorem BX.ref' (h : BX w W b r p) (k : Frm b W W') : KAt W' r p := h.ref.same (k.block r h.ref.lt (Ne.symm h.ne))
theorem BX.step (h : BX w W b r p) (f4 : CAt W4 b p') (k4 : Frm b W W4) (f5 : KAt W5 r p') (k5 : Frm r W4 W5) (i : Bd.Inv p' ∧ Bd.NB p' 64) : BX w W5 b r p' :=
  ⟨k5.below (k4.below h.bel h.le h.bel.size) h.le' (Nat.le_trans h.bel.size k4.size), h.le, h.le', h.ne, f4.same (k5.block b f4.lt h.ne), f5, i⟩
end
set_option maxRecDepth 100000 in
set_option maxHeartbeats 400000 in
theorem bs_far (a0 : Option Addr) (n0 c0 : Nat) (w : World) (h : 150 < n0) :
    Calls Try.prog 13 #[.slice a0 n0 c0] w fun e w' => e = .returned (.bool true) ∧ Below w.heap.size w w' := by
  have d : decide ((n0 : Int) ≤ 150) = false := by simp; omega
  go_enter Try.func13, Try.ntmps13
  go_wp2_with fail
  refine (blocks_any _).mono ?_
  rintro e W1 ⟨rfl, hb⟩
  have HB := Hid.intro hb
  clear hb
  go_wp2_with fail
  refine (light_any _ _ _ _ _).mono ?_
  rintro e W2 ⟨rfl, rfl⟩
  rw [d]
  go_wp2
  go_ret
  exact ⟨rfl, HB.out⟩

set_option maxRecDepth 100000 in
set_option maxHeartbeats 8000000 in
theorem bs_near (a0 : Option Addr) (n0 c0 : Nat) (w : World) (h0 : IsActs0 w a0 n0) (hn : n0 ≤ 150) :
    Calls Try.prog 13 #[.slice a0 n0 c0] w fun e w' => e = .returned (.bool true) ∧ Below w.heap.size w w' := by
  have d : decide ((n0 : Int) ≤ 150) = true := by simp; omega
  have H0 := Hid.intro h0
  clear h0
  go_enter Try.func13, Try.ntmps13
  go_wp2_with fail
  refine (blocks_any _).mono ?_
  rintro e W1 ⟨rfl, hb1⟩
  have HB := Hid.intro hb1
  clear hb1
  go_wp2_with fail
  refine (light_any _ _ _ _ _).mono ?_
  rintro e W2 ⟨rfl, hW2⟩
  subst W2
  rw [d]
  go_wp2_with fail
  refine (cnew_any _).mono ?_
  rintro e W2 ⟨rfl, f2, b2, l2⟩
  have H2 := Hid.intro (And.intro f2 (And.intro b2 l2))
  clear f2 b2 l2
  go_wp2_with fail
  refine (newBlocks_any _).mono ?_
  rintro e W3 ⟨rfl, f3, b3, l3⟩
  have S0 : Hid (BX w W3 W1.heap.size W2.heap.size Bd.b0) := Hid.intro ⟨(HB.out.trans (H2.out.2.1.mono HB.out.size)).trans (b3.mono (Nat.le_trans HB.out.size (Nat.le_of_lt H2.out.2.2))), HB.out.size, Nat.le_trans HB.out.size (Nat.le_of_lt H2.out.2.2), by have := H2.out.2.2; omega, H2.out.1.same (b3.block _ H2.out.2.2), f3, Bd.inv0⟩
  clear f3 b3 l3 H2 HB d
  generalize W1.heap.size = b at *
  generalize W2.heap.size = r at *
  go_wp2_with fail
  go_loopw [6] (fun i wr => ∃ (k : Nat) (p : P), i = .int .i64 k ∧ k ≤ n0 ∧ Hid (BX w wr b r p)) (fun i _ => n0 - (intOf i).toNat)
  case atStart => exact ⟨0, Bd.b0, rfl, by omega, S0⟩
  case round =>
    clear S0
    obtain ⟨k, p, rfl, hk, S⟩ := hrel
    by_cases hlt : k < n0
    · have hltI : (k : Int) < (n0 : Int) := by omega
      obtain ⟨b0, o0, ax, ha, hc⟩ := H0.out.2 (by omega)
      subst ha
      obtain ⟨kd, A, Q, R, K, On, S1, T1, hax⟩ : ∃ kd A B C K On S1 T1, ax k = ⟨kd, A, B, C, K, On, S1, T1⟩ := ⟨_, _, _, _, _, _, _, _, rfl⟩
      have bl : b0 < w.heap.size := World.block_lt_of_cell? _ _ (hc k hlt 0 (by omega))
      have AC : Hid (∀ W p', BX w W b r p' → W.cell? ⟨b0, o0 + k * 8 + 1, none⟩ = some (.int .i64 A)) := Hid.intro (fun W p' h => by
        have := (h.bel.cell (p := ⟨b0, o0 + k * 8 + 1, none⟩) bl).trans (hc k hlt 1 (by omega))
        rw [hax] at this; exact this)
      have c0' : wr.cell? ⟨b0, o0 + k * 8, none⟩ = some (.string kd) := by
        have := (S.out.bel.cell (p := ⟨b0, o0 + k * 8, none⟩) bl).trans (hc k hlt 0 (by omega))
        rw [hax] at this; exact this
      have c1 := AC.out _ _ S.out
      have NB : Hid (b0 < w.heap.size ∧ b0 ≠ b ∧ b0 ≠ r) := ⟨bl, by have := S.out.le; omega, by have := S.out.le'; omega⟩
      clear hax bl hc
      by_cases k1 : (kd.toList == [116, 97, 107, 101]) = true
      · as_aux_lemma =>
        go_wp2_with fail
        refine (ctake_any b A p _ S.out.code S.out.inv.1 S.out.inv.2).mono ?_
        rintro e W4 ⟨x, E, p', rfl, t4, f4, r4⟩
        have y1 : W4.cell? ⟨b0, o0 + k * 8 + 1, none⟩ = some (.int .i64 A) := (World.cell?_of_block (r4.block b0 (Nat.lt_of_lt_of_le NB.out.1 S.out.bel.size) NB.out.2.1)).trans c1
        have P4 := Hid.intro (And.intro t4 (And.intro f4 r4))
        clear t4 f4 r4 c1 c0'
        go_wp2_with fail
        refine (ktake_any r A p _ (S.out.ref' P4.out.2.2) S.out.inv.1 S.out.inv.2).mono ?_
        rintro e W5 ⟨x', E', p'', rfl, t5, f5, r5⟩
        obtain ⟨rfl, rfl, rfl⟩ := P4.out.1.unique t5
        have P5 := Hid.intro (S.out.step P4.out.2.1 P4.out.2.2 f5 r5 (S.out.inv.1.take S.out.inv.2 t5))
        have GE := Hid.intro t5.ge
        clear f5 r5 y1 t5
        go_wp2_with (go_at_call 16; refine (same_any _ GE.out _).mono ?_; rintro e w' ⟨rfl, rfl⟩)
        · refine (asBlocks_any b r _ _ P5.out.code P5.out.ref P5.out.inv.1).mono ?_
          rintro e W6 ⟨rfl, hb5⟩
          have HS5 := Hid.intro (P5.out.below hb5)
          clear hb5
          go_wp2_with fail
          go_roundw
          case rel => exact ⟨k + 1, _, by go_num, by omega, HS5.out⟩
          case measure => simp [intOf]; omega
        · go_roundw
          case rel => exact ⟨k + 1, _, by go_num, by omega, P5.out⟩
          case measure => simp [intOf]; omega
      · have k1' : (kd.toList == [116, 97, 107, 101]) = false := by simpa using k1
        clear k1
        as_aux_lemma =>
        go_wp2_with fail
        go_region_held3 (fun w' => w'.cell? ⟨b0, o0 + k * 8 + 1, none⟩ = some (.int .i64 A)) (go_keep) ((first | (go_at_call 82; refine (cgive_any b A p _ S.out.code.drew S.out.inv.1).mono ?_; rintro e w4 ⟨rfl, t4, f4⟩; have y1 : w4.cell? ⟨b0, o0 + k * 8 + 1, none⟩ = some (.int .i64 A) := (World.cell?_of_block (f4.block b0 (Nat.lt_of_lt_of_le NB.out.1 S.out.bel.size) NB.out.2.1)).trans c1; have P4 : Hid (CAt w4 b (Bd.giveT p A) ∧ Frm b wr w4) := ⟨t4, ((Frm.refl b wr).drew).trans f4⟩; clear t4 f4) | (go_at_call 83; refine (kgive_any r A p _ (S.out.ref' P4.out.2) S.out.inv.1).mono ?_; rintro e w5 ⟨rfl, t5, f5⟩; have z1 : w5.cell? ⟨b0, o0 + k * 8 + 1, none⟩ = some (.int .i64 A) := (World.cell?_of_block (f5.block b0 (Nat.lt_of_lt_of_le (Nat.lt_of_lt_of_le NB.out.1 S.out.bel.size) P4.out.2.size) NB.out.2.2)).trans y1; have P5 : Hid (KAt w5 r (Bd.giveT p A) ∧ Frm r w4 w5) := ⟨t5, f5⟩; clear t5 f5) | (go_at_call 16; refine (same_any _ (giveE_ge p A) _).mono ?_; rintro e w' ⟨rfl, rfl⟩)))
        have P6 := Hid.intro (S.out.step P4.out.1 P4.out.2 P5.out.1 P5.out.2 (S.out.inv.1.give S.out.inv.2 A))
        go_wp2_with fail
        · refine (asBlocks_any b r _ _ P6.out.code P6.out.ref P6.out.inv.1).mono ?_
          rintro e W6 ⟨rfl, hb5⟩
          have HS5 := Hid.intro (P6.out.below hb5)
          clear hb5
          go_wp2_with fail
          go_roundw
          case rel => exact ⟨k + 1, _, by go_num, by omega, HS5.out⟩
          case measure => simp [intOf]; omega
        · go_roundw
          case rel => exact ⟨k + 1, _, by go_num, by omega, P6.out⟩
          case measure => simp [intOf]; omega
    · have hkn : k = n0 := by omega
      subst hkn
      go_wp2_with fail
      refine (asBlocks_any b r p _ S.out.code S.out.ref S.out.inv.1).mono ?_
      rintro e W5 ⟨rfl, hb5⟩
      have HB5 := Hid.intro (S.out.bel.trans (hb5.mono S.out.bel.size))
      clear hb5
      go_wp2_with fail
      go_ret
      exact ⟨rfl, HB5.out⟩

theorem bs_any (a : Option Addr) (len cap : Nat) (w : World) (h : IsActs0 w a len) :
    Calls Try.prog 13 #[.slice a len cap] w fun e w' => e = .returned (.bool true) ∧ Below w.heap.size w w' := by
  by_cases hf : 150 < len
  · exact bs_far a len cap w hf
  · exact bs_near a len cap w h (by omega)
end Go.Proofs.Ytpfljkgkdkchmaa

/- TopFiles: the beginning. -/
import Derived.Test.YtdmlciimiifahaaXg
namespace Go.Proofs.Ytdmlciimiifahaa
open Go.RowKit
open Fx (Fi)
open Tr (Fo Nd)
open Pp (Pi)

/-- A tree with two files, a and b. -/
def Tk.g2 : Fo := Tr.makF Tr.g1 0 ⟨#[97]⟩ 1 1
def Tk.g3 : Fo := Tr.makF Tk.g2 0 ⟨#[98]⟩ 1 2
theorem Tk.nameA : Tr.nameB ⟨#[97]⟩ = true := by decide +kernel
theorem Tk.nameB : Tr.nameB ⟨#[98]⟩ = true := by decide +kernel
theorem Tk.mk1 : Tr.MakTo Tr.g1 0 ⟨#[97]⟩ 1 1 0 Tk.g2 :=
  .inr ⟨.inl rfl, 0, .inr ⟨rfl, .inr ⟨Tk.nameA, .inr ⟨.inr ⟨rfl, fun j hj => absurd hj (Nat.not_lt_zero j)⟩, .inr ⟨by show (0 : Nat) ≠ 8; decide, rfl⟩⟩⟩⟩, .inr ⟨rfl, 1, 0, Tr.free_g1, .inr ⟨rfl, rfl, rfl, rfl⟩⟩⟩
theorem Tk.free2 : Tr.FreeTo Tk.g2 2 0 := .inl ⟨rfl, by omega, rfl, fun m hm => by
  match m, hm with
  | 0, _ => show (2 : Nat) ≠ 0; decide
  | 1, _ => show (1 : Nat) ≠ 0; decide⟩
theorem Tk.mk2 : Tr.MakTo Tk.g2 0 ⟨#[98]⟩ 1 2 0 Tk.g3 :=
  .inr ⟨.inl rfl, 0, .inr ⟨rfl, .inr ⟨Tk.nameB, .inr ⟨.inr ⟨rfl, fun j hj => by
    have hj' : j < 1 := hj
    match j, hj' with
    | 0, _ => show (ByteArray.toList ⟨#[97]⟩) ≠ ByteArray.toList ⟨#[98]⟩; rw [ByteArray.toList_eq, ByteArray.toList_eq]; decide⟩, .inr ⟨by show (1 : Nat) ≠ 8; decide, rfl⟩⟩⟩⟩, .inr ⟨rfl, 2, 0, Tk.free2, .inr ⟨rfl, rfl, rfl, rfl⟩⟩⟩
theorem Tk.ok3 : Tr.Ok Tk.g3 := (Tr.ok_g1.mak Tk.mk1).mak Tk.mk2
theorem Tk.hb3 : Tr.Hb Tk.g3 0 := (Tr.hb_g1.mak Tk.mk1).mak Tk.mk2
/-- .. held: a twice, b once. -/
def Tk.g6 : Fo := Tr.hol (Tr.hol (Tr.hol Tk.g3 1) 1) 2
theorem Tk.start : Tk Tk.g6 1 2 ⟨#[]⟩ ∧ Tk.Nm Tk.g6 := by
  have ok : Tr.Ok Tk.g6 := ((Tk.ok3.hol 1).hol 1).hol 2
  have hb : Tr.Hb Tk.g6 3 := ((Tk.hb3.hol 1).hol 1).hol 2
  exact ⟨⟨ok, hb, rfl, rfl, rfl, rfl, rfl, rfl⟩, rfl, rfl, rfl, rfl⟩
theorem Fx.NodTo.ok {T T' : Nat → Fi} {F F' : Fo} {z E : Int} {wr : Bool} {K n : Nat} (h : Fx.NodTo T F z wr K E T' F') (h1 : Tr.isE F z 1 = 0) (h2 : Fx.cnt T 24 < 24) (h3 : Fx.Low T n) : K = n ∧ E = 0 ∧ T' = Fx.put T n ⟨1, z.toNat, wr, 0, 1⟩ ∧ F' = Tr.hol F z := by
  rcases h with ⟨a, _⟩ | ⟨_, a, _⟩ | ⟨_, _, a, b, c, d⟩
  · exact absurd h1 a
  · omega
  · obtain rfl := a.unique h3
    exact ⟨rfl, b, c, d⟩
theorem Fx.low0 (y u : Fi) : Fx.Low (Fx.tt Fi.no y u) 0 := ⟨by omega, rfl, fun k hk => absurd hk (Nat.not_lt_zero k)⟩
theorem Fx.low1 (x u : Fi) (h : x.refs ≠ 0) : Fx.Low (Fx.tt x Fi.no u) 1 := ⟨by omega, rfl, fun k hk => by
  obtain rfl : k = 0 := by omega
  exact h⟩
theorem Fx.low2 (x y : Fi) (h : x.refs ≠ 0) (h' : y.refs ≠ 0) : Fx.Low (Fx.tt x y Fi.no) 2 := ⟨by omega, rfl, fun k hk => by
  match k, hk with
  | 0, _ => exact h
  | 1, _ => exact h'⟩
theorem Tk.sm3 {F : Fo} {k : Nat} (hb : Tr.Hb F k) (hk : k < 1000) : Fx.Sm F Pp.nul := ⟨hb.lt hk, fun wr n _ => by unfold Pp.tim Pp.nul; cases wr <;> exact Nat.two_pow_pos 60⟩
/-- A slice of texts; of numbers. -/
def IsStrs (w : World) (a : Option Addr) (len : Nat) : Prop := len ≤ maxLen ∧ (0 < len → ∃ b o, ∃ f : Nat → ByteArray, a = some ⟨b, o, none⟩ ∧ ∀ i, i < len → w.cell? ⟨b, o + i, none⟩ = some (.string (f i)))
def IsInts (w : World) (a : Option Addr) (len : Nat) : Prop := len ≤ maxLen ∧ (0 < len → ∃ b o, ∃ f : Nat → Int, a = some ⟨b, o, none⟩ ∧ ∀ i, i < len → w.cell? ⟨b, o + i, none⟩ = some (.int .i64 (f i)))
section
variable {w W : World}
/-- What TopFiles begins with, each step. -/
theorem tf_make1 (b : Nat) (W : World) (h : FAt W b Tr.g1) : Calls Try.prog 14 #[.pointer (some ⟨b, 0, none⟩), .int .i64 0, .string ⟨#[97]⟩, .int .i64 1] W fun e w' => e = .returned (.tuple #[.int .i64 1, .nilIface]) ∧ FAt w' b Tk.g2 ∧ Frm b W w' := by
  refine (tmake_any b 0 ⟨#[97]⟩ 1 Tr.g1 W h Tr.ok_g1.sz).mono ?_
  rintro e w' ⟨K, E, G, rfl, hm, h1, h2⟩
  obtain ⟨rfl, rfl, rfl⟩ := hm.unique Tk.mk1
  exact ⟨rfl, h1, h2⟩
theorem tf_make2 (b : Nat) (W : World) (h : FAt W b Tk.g2) : Calls Try.prog 14 #[.pointer (some ⟨b, 0, none⟩), .int .i64 0, .string ⟨#[98]⟩, .int .i64 1] W fun e w' => e = .returned (.tuple #[.int .i64 2, .nilIface]) ∧ FAt w' b Tk.g3 ∧ Frm b W w' := by
  refine (tmake_any b 0 ⟨#[98]⟩ 1 Tk.g2 W h (Tr.ok_g1.mak Tk.mk1).sz).mono ?_
  rintro e w' ⟨K, E, G, rfl, hm, h1, h2⟩
  obtain ⟨rfl, rfl, rfl⟩ := hm.unique Tk.mk2
  exact ⟨rfl, h1, h2⟩
theorem tf_node1 {t b p : Nat} (S : TS w W t b p Fi.no Fi.no Fi.no Tk.g3) : Calls Try.prog 16 #[.pointer (some ⟨t, 0, none⟩), .int .i64 1, .bool true] W fun e w' => e = .returned (.tuple #[.int .i64 0, .nilIface]) ∧ TS w w' t b p (Fx.xw 1 0) Fi.no Fi.no (Tr.hol Tk.g3 1) := by
  refine (xnode_any t b p 1 true _ _ _ W S.2.1 (Tk.sm3 Tk.hb3 (by omega))).mono ?_
  rintro e w' ⟨K, E, T', F', rfl, hm, h1, h2⟩
  obtain ⟨rfl, rfl, rfl, rfl⟩ := hm.ok rfl (by rw [Fx.tt_cnt]; decide) (Fx.low0 _ _)
  rw [Fx.tt_put0] at h1
  exact ⟨rfl, S.step h1 h2⟩
theorem tf_node2 {t b p : Nat} (S : TS w W t b p (Fx.xw 1 0) Fi.no Fi.no (Tr.hol Tk.g3 1)) : Calls Try.prog 16 #[.pointer (some ⟨t, 0, none⟩), .int .i64 1, .bool false] W fun e w' => e = .returned (.tuple #[.int .i64 1, .nilIface]) ∧ TS w w' t b p (Fx.xw 1 0) (Fx.xr 0) Fi.no (Tr.hol (Tr.hol Tk.g3 1) 1) := by
  refine (xnode_any t b p 1 false _ _ _ W S.2.1 (Tk.sm3 (Tk.hb3.hol 1) (by omega))).mono ?_
  rintro e w' ⟨K, E, T', F', rfl, hm, h1, h2⟩
  obtain ⟨rfl, rfl, rfl, rfl⟩ := hm.ok rfl (by rw [Fx.tt_cnt]; decide) (Fx.low1 _ _ (by decide))
  rw [Fx.tt_put1] at h1
  exact ⟨rfl, S.step h1 h2⟩
theorem tf_node3 {t b p : Nat} (S : TS w W t b p (Fx.xw 1 0) (Fx.xr 0) Fi.no (Tr.hol (Tr.hol Tk.g3 1) 1)) : Calls Try.prog 16 #[.pointer (some ⟨t, 0, none⟩), .int .i64 2, .bool true] W fun e w' => e = .returned (.tuple #[.int .i64 2, .nilIface]) ∧ TS w w' t b p (Fx.xw 1 0) (Fx.xr 0) (Fx.xo 0) Tk.g6 := by
  refine (xnode_any t b p 2 true _ _ _ W S.2.1 (Tk.sm3 ((Tk.hb3.hol 1).hol 1) (by omega))).mono ?_
  rintro e w' ⟨K, E, T', F', rfl, hm, h1, h2⟩
  obtain ⟨rfl, rfl, rfl, rfl⟩ := hm.ok rfl (by rw [Fx.tt_cnt]; decide) (Fx.low2 _ _ (by decide) (by decide))
  rw [Fx.tt_put2] at h1
  exact ⟨rfl, S.step h1 h2⟩
theorem tf_share {t b p : Nat} {y u : Fi} {F : Fo} (S : TS w W t b p (Fx.xw 1 0) y u F) (hy : y.refs ≤ 3) (hu : u.refs ≤ 3) : Calls Try.prog 17 #[.pointer (some ⟨t, 0, none⟩), .int .i64 0] W fun e w' => e = .returned .nilIface ∧ TS w w' t b p (Fx.xw 2 0) y u F := by
  refine (xshare_any t b p 0 _ W S.2.1.1 (Fx.rf (show 1 ≤ 3 by omega) hy hu)).mono ?_
  rintro e w' ⟨rfl, h1, h2⟩
  have eT : Fx.shaT (Fx.tt (Fx.xw 1 0) y u) 0 = Fx.tt (Fx.xw 2 0) y u := by
    unfold Fx.shaT
    rw [if_pos (show Fx.filE (Fx.tt (Fx.xw 1 0) y u) 0 = 0 from rfl), show (0 : Int).toNat = 0 from rfl, Fx.tt_put0]
    rfl
  rw [eT] at h1
  exact ⟨rfl, S.step (S.2.1.tb h1 h2) (Tri.tb h2)⟩
end
end Go.Proofs.Ytdmlciimiifahaa

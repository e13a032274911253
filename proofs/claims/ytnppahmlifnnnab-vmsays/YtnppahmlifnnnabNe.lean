/- The code's memory: reach, Load, Store. -/
import Derived.Test.YtnppahmlifnnnabNd
namespace Go.Proofs.Ytnppahmlifnnnab
open Go.RowKit
open Bd (P)
open Mv (Me Bk)

theorem TouS_to {m m' : Me} {k k' : Bk} {x : Nat} {wr : Bool} {E : Int} {g : Nat} (h : Mv.TouS m k (x / 8) wr E g m' k') (hm : Mv.mayB m x wr = true) : Mv.TouR m k x wr E g m' k' := by
  unfold Mv.TouR
  rw [Int.toNat_natCast]
  rcases h with ⟨a, b, c, d, e, f⟩ | ⟨a, k1, t, c⟩
  · exact .inr (.inl ⟨hm, a, b, c, d, e, f⟩)
  · exact .inr (.inr ⟨hm, a, k1, t, c⟩)
theorem TouS_ends {m m' : Me} {k k' : Bk} {n : Nat} {E : Int} {wr : Bool} {g : Nat} (G : GoodC m k) (hn : n < 16) (h : Mv.TouS m k n wr E g m' k') : g < 64 ∧ ((E = 0 ∧ m'.fr n = g + 1) ∨ E = 4) := by
  rcases h with ⟨a, b, rfl, rfl, rfl, _⟩ | ⟨_, k1, ⟨p', t, _⟩, c⟩
  · have := G.le n hn
    exact ⟨by omega, .inl ⟨rfl, by omega⟩⟩
  · have g64 := TakeTo0_lt t
    refine ⟨g64, ?_⟩
    rcases c with ⟨e0, _⟩ | ⟨e0, rfl, _⟩
    · rcases t with ⟨c, _⟩ | ⟨_, _, c, _⟩ | ⟨_, _, c, _⟩
      · omega
      · exact .inr c
      · exact absurd c e0
    · exact .inl ⟨e0, by show (if n = n then g + 1 else m.fr n) = g + 1; rw [if_pos rfl]⟩
/-- Where the byte of an address is, once its page is settled. -/
def ReaP (b r q : Nat) (z : Int) (wr : Bool) (m : Me) (k : Bk) (w : World) (e : Ending) (w' : World) : Prop :=
  ∃ (E : Int) (g : Nat) (m' : Me) (k' : Bk), e = .returned (.tuple #[if E = 0 then .pointer (some ⟨r, 1 + g * 9 + 1 + z.toNat % 8, none⟩) else .pointer none, errV E]) ∧ Mv.TouR m k z wr E g m' k' ∧ UB w' b r q m' k' ∧ Thr b r q w w' ∧ g < 64 ∧ (E = 0 ∨ E = 4 ∨ E = 10)
section
attribute [local go_sem] div8 mod8
set_option maxRecDepth 100000 in
set_option maxHeartbeats 1000000 in
theorem vreach_any (b r q : Nat) (z : Int) (wr : Bool) (m : Me) (k : Bk) (w : World) (h : UB w b r q m k) (G : GoodC m k) :
    Calls Try.prog 86 #[.pointer (some ⟨b, 0, none⟩), .int .i64 z, .bool wr] w (ReaP b r q z wr m k w) := by
  have HF := Hid.intro (And.intro h G)
  cases hm : Mv.mayB m z wr
  · have HM := Hid.intro hm
    clear h G hm
    go_enter Try.func86, Try.ntmps86
    go_wp2_with fail
    refine (vmay_any b r z wr m _ HF.out.1.me).mono ?_
    rintro e w1 ⟨rfl, hb⟩
    have HB := Hid.intro hb
    clear hb
    rw [HM.out]
    go_wp2_with fail
    go_ret2
    exact ⟨10, 0, m, k, rfl, .inl ⟨HM.out, rfl, rfl, rfl, rfl⟩, HF.out.1.below HB.out, Thr.below HB.out, by omega, .inr (.inr rfl)⟩
  · obtain ⟨x, rfl, hx⟩ := may_in hm
    have HM := Hid.intro hm
    have h8 : (x : Int) / 8 < 16 := by omega
    have h80 : (0 : Int) ≤ (x : Int) / 8 := by omega
    have h9 : (x : Int) % 8 < 8 := by omega
    have h90 : (0 : Int) ≤ (x : Int) % 8 := by omega
    have HX : Hid (x / 8 < 16) := Hid.intro (by omega)
    clear h G hm hx
    go_enter Try.func86, Try.ntmps86
    go_wp2_with fail
    refine (vmay_any b r x wr m _ HF.out.1.me).mono ?_
    rintro e w1 ⟨rfl, hb⟩
    have HB := Hid.intro (And.intro (HF.out.1.below hb) (Thr.below (b := b) (r := r) (q := q) hb))
    clear hb
    rw [HM.out]
    go_wp2_with fail
    refine (vsettle_any b r q (x / 8) wr m k _ HB.out.1 HF.out.2 HX.out).mono ?_
    rintro e w2 ⟨E, g, m', k', rfl, ht, hu, F⟩
    have TE := TouS_ends HF.out.2 HX.out ht
    have HT : Hid (Mv.TouR m k x wr E g m' k' ∧ UB w2 b r q m' k' ∧ Thr b r q w w2) := Hid.intro ⟨TouS_to ht HM.out, hu, HB.out.2.trans F⟩
    clear ht F
    rcases TE with ⟨g64, ⟨rfl, hg⟩ | rfl⟩
    · have c0 := hu.me.cBank
      have c1 := hu.me.cFr (x / 8) HX.out
      rw [hg, show ((g + 1 : Nat) : Int) - 1 = (g : Int) by omega] at c1
      have gI : (g : Int) < 64 := by omega
      rw [errV_zero]
      clear hu hg
      go_wp2_with fail
      go_region
      go_wp2_with fail
      go_ret2
      exact ⟨0, g, m', k', by rw [if_pos rfl, Int.toNat_natCast]; rfl, HT.out.1, HT.out.2.1.drew, HT.out.2.2.drew, g64, .inl rfl⟩
    · rw [errV_ne (by decide)]
      clear hu
      go_wp2_with fail
      go_ret2
      exact ⟨4, g, m', k', rfl, HT.out.1, HT.out.2.1, HT.out.2.2, g64, .inr (.inl rfl)⟩
end
set_option maxRecDepth 100000 in
set_option maxHeartbeats 1000000 in
theorem vload_any (b r q : Nat) (z : Int) (m : Me) (k : Bk) (w : World) (h : UB w b r q m k) (G : GoodC m k) :
    Calls Try.prog 30 #[.pointer (some ⟨b, 0, none⟩), .int .i64 z] w fun e w' => ∃ (E : Int) (g : Nat) (m' : Me) (k' : Bk), e = .returned (.tuple #[.int .u8 (if E = 0 then k'.byt g (z.toNat % 8) else 0), errV E]) ∧ Mv.TouR m k z false E g m' k' ∧ UB w' b r q m' k' ∧ Thr b r q w w' ∧ (E = 0 ∨ E = 4 ∨ E = 10) := by
  have HF := Hid.intro (And.intro h G)
  clear h G
  go_enter Try.func30, Try.ntmps30
  go_wp2_with fail
  refine (vreach_any b r q z false m k _ HF.out.1 HF.out.2).mono ?_
  rintro e w1 ⟨E, g, m', k', rfl, ht, hu, F, g64, hE⟩
  have HT := Hid.intro (And.intro ht (And.intro hu F))
  clear ht F
  rcases hE with rfl | rfl | rfl
  · have c2 := hu.bk.cB g (z.toNat % 8) g64 (by omega)
    rw [if_pos rfl, errV_zero]
    clear hu
    go_wp2_with fail
    go_ret2
    exact ⟨0, g, m', k', by rw [if_pos rfl]; rfl, HT.out.1, HT.out.2.1, HT.out.2.2, .inl rfl⟩
  · rw [if_neg (by decide), errV_ne (by decide)]
    clear hu
    go_wp2_with fail
    go_ret2
    exact ⟨4, g, m', k', by rw [if_neg (by decide)]; rfl, HT.out.1, HT.out.2.1, HT.out.2.2, .inr (.inl rfl)⟩
  · rw [if_neg (by decide), errV_ne (by decide)]
    clear hu
    go_wp2_with fail
    go_ret2
    exact ⟨10, g, m', k', by rw [if_neg (by decide)]; rfl, HT.out.1, HT.out.2.1, HT.out.2.2, .inr (.inr rfl)⟩
set_option maxRecDepth 100000 in
set_option maxHeartbeats 1000000 in
theorem vstore_any (b r q : Nat) (z u : Int) (m : Me) (k : Bk) (w : World) (h : UB w b r q m k) (G : GoodC m k) :
    Calls Try.prog 32 #[.pointer (some ⟨b, 0, none⟩), .int .i64 z, .int .u8 u] w fun e w' => ∃ (E : Int) (g : Nat) (m' : Me) (k' : Bk), e = .returned (errV E) ∧ Mv.TouR m k z true E g m' k' ∧ UB w' b r q m' (if E = 0 then Mv.stB k' g (z.toNat % 8) u else k') ∧ Thr b r q w w' ∧ (E = 0 ∨ E = 4 ∨ E = 10) := by
  have HF := Hid.intro (And.intro h G)
  clear h G
  go_enter Try.func32, Try.ntmps32
  go_wp2_with fail
  refine (vreach_any b r q z true m k _ HF.out.1 HF.out.2).mono ?_
  rintro e w1 ⟨E, g, m', k', rfl, ht, hu, F, g64, hE⟩
  have HT := Hid.intro (And.intro ht (And.intro hu F))
  clear ht F
  rcases hE with rfl | rfl | rfl
  · have c2 := hu.bk.cB g (z.toNat % 8) g64 (by omega)
    have cf := hu.bk.frozen
    have S1 : Hid (UB (w1.setCell ⟨r, 1 + g * 9 + 1 + z.toNat % 8, none⟩ (.int .u8 u)) b r q m' (Mv.stB k' g (z.toNat % 8) u) ∧ Thr b r q w (w1.setCell ⟨r, 1 + g * 9 + 1 + z.toNat % 8, none⟩ (.int .u8 u))) := Hid.intro (by
      have f : Frm r w1 (w1.setCell ⟨r, 1 + g * 9 + 1 + z.toNat % 8, none⟩ (.int .u8 u)) := (Frm.refl r w1).setCell _ _
      exact ⟨⟨hu.me.same (f.block b hu.me.lt hu.br), hu.bk.setB g (z.toNat % 8) u g64 (by omega), hu.br, hu.bq⟩, HT.out.2.2.trans ⟨f.os, f.tape, f.output, f.size, fun j hj _ h2 _ => f.block j hj h2⟩⟩)
    rw [if_pos rfl, errV_zero]
    clear hu
    go_wp2_with fail
    go_ret
    exact ⟨0, g, m', k', rfl, HT.out.1, by rw [if_pos rfl]; exact S1.out.1, S1.out.2, .inl rfl⟩
  · rw [if_neg (by decide), errV_ne (by decide)]
    clear hu
    go_wp2_with fail
    go_ret
    exact ⟨4, g, m', k', rfl, HT.out.1, by rw [if_neg (by decide)]; exact HT.out.2.1, HT.out.2.2, .inr (.inl rfl)⟩
  · rw [if_neg (by decide), errV_ne (by decide)]
    clear hu
    go_wp2_with fail
    go_ret
    exact ⟨10, g, m', k', rfl, HT.out.1, by rw [if_neg (by decide)]; exact HT.out.2.1, HT.out.2.2, .inr (.inr rfl)⟩
end Go.Proofs.Ytnppahmlifnnnab

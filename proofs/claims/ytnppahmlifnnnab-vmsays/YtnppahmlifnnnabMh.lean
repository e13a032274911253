/- The document's own memory: Touch, where a page has its frame. -/
import Derived.Test.YtnppahmlifnnnabMg
namespace Go.Proofs.Ytnppahmlifnnnab
open Go.RowKit
open Bd (P)
open Mv (Me Bk)
section
attribute [local go_sem] div8
theorem may_in {m : Me} {z : Int} {wr : Bool} (h : Mv.mayB m z wr = true) : ∃ x : Nat, z = x ∧ x < 128 := by
  have hz : ¬ (z < 0 ∨ 127 < z) := fun c => by unfold Mv.mayB at h; rw [if_pos c] at h; cases h
  exact ⟨z.toNat, by omega, by omega⟩
set_option maxRecDepth 100000 in
set_option maxHeartbeats 1000000 in
theorem touch_has (b r q x v : Nat) (wr : Bool) (m : Me) (own : Nat → Bool) (k : Bk) (w : World) (h : MB w b r q m own k) (G : Good m own k) (hx : x < 128) (hm : Mv.mayB m x wr = true) (hv : m.fr (x / 8) = v + 1) (hc : wr = false ∨ k.refs v = 1) :
    Calls Try.prog 126 #[.pointer (some ⟨b, 0, none⟩), .int .i64 x, .bool wr] w (TouP b r q x wr m own k w) := by
  have HF := Hid.intro (And.intro h hm)
  have HR : Hid (Mv.TouR m k x wr 0 v m k) := Hid.intro (.inr (.inl ⟨hm, by rw [Int.toNat_natCast]; omega, by rw [Int.toNat_natCast, hv]; exact hc, rfl, by rw [Int.toNat_natCast]; omega, rfl, rfl⟩))
  have c1 := h.me.cFr (x / 8) (by omega)
  have c2 := h.me.cOwn (x / 8) (by omega)
  have cf := h.me.frozen
  rw [hv] at c1
  have v64 : v < 64 := by have := G.le (x / 8) (by omega); omega
  have c3 := h.me.cBank
  have c4 := h.bk.cRefs v v64
  have h8 : (x : Int) / 8 < 16 := by omega
  have h80 : (0 : Int) ≤ (x : Int) / 8 := by omega
  have vI : (v : Int) < 64 := by omega
  have v0 : (0 : Int) ≤ (v : Int) := by omega
  have hw : IntKind.i64.wrap (((v + 1 : Nat) : Int) - 1) = (v : Int) := by rw [IntWalk.i64_in _ ⟨by omega, by omega⟩]; omega
  have S1 : Hid (MB (w.setCell ⟨b, 33 + x / 8, none⟩ (.bool true)) b r q m (upo own (x / 8) true) k ∧ Thr b r q w (w.setCell ⟨b, 33 + x / 8, none⟩ (.bool true))) := Hid.intro ⟨⟨h.me.setOwn (x / 8) true (by omega), h.bk.frm ((Frm.refl b w).setCell _ _) h.br h.bq, h.br, h.bq⟩, Thr.mem ((Frm.refl b w).setCell _ _)⟩
  clear h hm hv G
  cases wr
  · clear hc c2 c3 c4
    go_enter Try.func126, Try.ntmps126
    go_wp2_with fail
    refine (may_any b r x false m own _ HF.out.1.me).mono ?_
    rintro e w1 ⟨rfl, hw1⟩
    subst w1
    rw [HF.out.2]
    go_wp2_with fail
    go_ret2
    exact ⟨0, v, m, k, own, rfl, HR.out, HF.out.1, Thr.refl _ _ _ _, .inl rfl⟩
  · have hc' : k.refs v = 1 := by rcases hc with c | c; cases c; exact c
    rw [hc'] at c4
    have c4' : w.cell? ⟨r, 513 + v, none⟩ = some (.int .i64 1) := c4
    clear hc hc' c4
    cases ho : own (x / 8)
    · rw [ho] at c2
      clear ho
      go_enter Try.func126, Try.ntmps126
      go_wp2_with fail
      refine (may_any b r x true m own _ HF.out.1.me).mono ?_
      rintro e w1 ⟨rfl, hw1⟩
      subst w1
      rw [HF.out.2]
      go_wp2_with fail
      go_ret2
      exact ⟨0, v, m, k, _, rfl, HR.out, S1.out.1, S1.out.2, .inr ⟨by rw [Int.toNat_natCast], rfl, .inr rfl⟩⟩
    · rw [ho] at c2
      clear ho
      go_enter Try.func126, Try.ntmps126
      go_wp2_with fail
      refine (may_any b r x true m own _ HF.out.1.me).mono ?_
      rintro e w1 ⟨rfl, hw1⟩
      subst w1
      rw [HF.out.2]
      go_wp2_with fail
      go_ret2
      exact ⟨0, v, m, k, own, rfl, HR.out, HF.out.1, Thr.refl _ _ _ _, .inl rfl⟩
set_option maxRecDepth 100000 in
set_option maxHeartbeats 1000000 in
theorem touch_new (b r q x : Nat) (wr : Bool) (m : Me) (own : Nat → Bool) (k : Bk) (w : World) (h : MB w b r q m own k) (G : Good m own k) (hx : x < 128) (hm : Mv.mayB m x wr = true) (hv : m.fr (x / 8) = 0) :
    Calls Try.prog 126 #[.pointer (some ⟨b, 0, none⟩), .int .i64 x, .bool wr] w (TouP b r q x wr m own k w) := by
  have HF := Hid.intro (And.intro h hm)
  have HG := Hid.intro (And.intro G hv)
  have c1 := h.me.cFr (x / 8) (by omega)
  rw [hv] at c1
  have c1' : w.cell? ⟨b, 17 + x / 8, none⟩ = some (.int .i64 0) := c1
  have c3 := h.me.cBank
  have h8 : (x : Int) / 8 < 16 := by omega
  have h80 : (0 : Int) ≤ (x : Int) / 8 := by omega
  have hw : IntKind.i64.wrap (0 - 1) = -1 := by decide
  clear h hm hv G c1
  go_enter Try.func126, Try.ntmps126
  go_wp2_with fail
  refine (may_any b r x wr m own _ HF.out.1.me).mono ?_
  rintro e w1 ⟨rfl, hw1⟩
  subst w1
  rw [HF.out.2]
  go_wp2_with fail
  refine (ntake_any r q k _ HF.out.1.bk HG.out.1.inv HG.out.1.nb).mono ?_
  rintro e w1 ⟨g, E, k1, rfl, ht, hk, F⟩
  have HM : Hid (MB w1 b r q m own k1 ∧ Thr b r q w w1) := Hid.intro ⟨⟨HF.out.1.me.two F HF.out.1.br HF.out.1.bq, hk, HF.out.1.br, HF.out.1.bq⟩, Thr.bank F⟩
  have g64 : g < 64 := by obtain ⟨p', h1, _⟩ := ht; exact TakeTo0_lt h1
  have hE : E = 0 ∨ (E = 4 ∧ g = 0) := by
    obtain ⟨p', h1, _⟩ := ht
    rcases h1 with ⟨a, _⟩ | ⟨_, _, a, b, _⟩ | ⟨_, _, a, _⟩
    · omega
    · exact .inr ⟨a, b⟩
    · exact .inl a
  have HT := Hid.intro ht
  clear ht hk F c1' c3
  rcases hE with rfl | ⟨rfl, rfl⟩
  · have gI : IntKind.i64.wrap ((g : Int) + 1) = (g : Int) + 1 := IntWalk.i64_in _ ⟨by omega, by omega⟩
    have c1 := HM.out.1.me.cFr (x / 8) (by omega)
    have c2 := HM.out.1.me.cOwn (x / 8) (by omega)
    have cf := HM.out.1.me.frozen
    have S1 : Hid (MB ((w1.setCell ⟨b, 17 + x / 8, none⟩ (.int .i64 ((g : Int) + 1))).setCell ⟨b, 33 + x / 8, none⟩ (.bool true)) b r q { m with fr := upn m.fr (x / 8) (g + 1) } (upo own (x / 8) true) k1 ∧ Thr b r q w ((w1.setCell ⟨b, 17 + x / 8, none⟩ (.int .i64 ((g : Int) + 1))).setCell ⟨b, 33 + x / 8, none⟩ (.bool true))) := Hid.intro (by
      have a := (HM.out.1.me.setFr (x / 8) (g + 1) (by omega)).setOwn (x / 8) true (by omega)
      have f : Frm b w1 ((w1.setCell ⟨b, 17 + x / 8, none⟩ (.int .i64 ((g : Int) + 1))).setCell ⟨b, 33 + x / 8, none⟩ (.bool true)) := ((Frm.refl b w1).setCell _ _).setCell _ _
      exact ⟨⟨a, HM.out.1.bk.frm f HM.out.1.br HM.out.1.bq, HM.out.1.br, HM.out.1.bq⟩, HM.out.2.trans (Thr.mem f)⟩)
    go_wp2_with fail
    go_ret2
    refine ⟨0, g, _, _, _, rfl, .inr (.inr ⟨HF.out.2, ?_, k1, HT.out, .inr ⟨rfl, ?_, ?_⟩⟩), S1.out.1, S1.out.2, .inr ⟨by rw [Int.toNat_natCast], rfl, .inl (by rw [Int.toNat_natCast]; exact HG.out.2)⟩⟩
    · rw [Int.toNat_natCast]; exact fun c => c.1 HG.out.2
    · rw [Int.toNat_natCast]
    · rw [Int.toNat_natCast, if_pos HG.out.2]
  · go_wp2_with fail
    go_ret2
    refine ⟨4, 0, _, _, _, rfl, .inr (.inr ⟨HF.out.2, ?_, k1, HT.out, .inl ⟨by decide, rfl, rfl⟩⟩), HM.out.1, HM.out.2, .inl rfl⟩
    rw [Int.toNat_natCast]; exact fun c => c.1 HG.out.2
end
end Go.Proofs.Ytnppahmlifnnnab

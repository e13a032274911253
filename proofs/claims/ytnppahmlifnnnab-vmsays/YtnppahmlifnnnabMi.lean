/- The document's own memory: Touch, where a frame is parted. -/
import Derived.Test.YtnppahmlifnnnabMh
namespace Go.Proofs.Ytnppahmlifnnnab
open Go.RowKit
open Bd (P)
open Mv (Me Bk)
section
attribute [local go_sem] div8
theorem NAt.row {w : World} {r q : Nat} {k : Bk} (h : NAt w r q k) (f : Nat) (hf : f < 64) : w.rangeAt r (1 + f * 8) (by8 (k.byt f)).toList := fun j v hv => by
  rw [Array.getElem?_toList] at hv
  have hj : j < 8 := (Array.getElem?_eq_some_iff.1 hv).1
  rw [by8_at _ j hj] at hv
  rw [← hv]; exact h.cB f j hf hj
set_option maxRecDepth 100000 in
set_option maxHeartbeats 1000000 in
theorem touch_cow (b r q x v : Nat) (m : Me) (own : Nat → Bool) (k : Bk) (w : World) (h : MB w b r q m own k) (G : Good m own k) (hx : x < 128) (hm : Mv.mayB m x true = true) (hv : m.fr (x / 8) = v + 1) (hc : k.refs v ≠ 1) :
    Calls Try.prog 126 #[.pointer (some ⟨b, 0, none⟩), .int .i64 x, .bool true] w (TouP b r q x true m own k w) := by
  have HF := Hid.intro (And.intro h hm)
  have HG := Hid.intro (And.intro G hv)
  have HN : Hid (¬ (m.fr ((x : Int).toNat / 8) ≠ 0 ∧ (true = false ∨ k.refs (m.fr ((x : Int).toNat / 8) - 1) = 1))) := Hid.intro (by
    rw [Int.toNat_natCast, hv]
    rintro ⟨_, c | c⟩
    · cases c
    · exact hc c)
  have c1 := h.me.cFr (x / 8) (by omega)
  rw [hv] at c1
  have c2 := h.me.cOwn (x / 8) (by omega)
  have ho : own (x / 8) = false := by
    cases e : own (x / 8)
    · rfl
    · have := (G.own (x / 8) (by omega) e).2
      rw [hv] at this; exact absurd this hc
  rw [ho] at c2
  have v64 : v < 64 := by have := G.le (x / 8) (by omega); omega
  have c3 := h.me.cBank
  have c4 := h.bk.cRefs v v64
  have hrv := G.held (x / 8) (by omega) (by omega)
  rw [hv, Nat.add_sub_cancel] at hrv
  have HRV := Hid.intro hrv
  have hc' : ((k.refs v : Int) == 1) = false := by simp; omega
  have h8 : (x : Int) / 8 < 16 := by omega
  have h80 : (0 : Int) ≤ (x : Int) / 8 := by omega
  have vI : (v : Int) < 64 := by omega
  have v0 : (0 : Int) ≤ (v : Int) := by omega
  have hw : IntKind.i64.wrap (((v + 1 : Nat) : Int) - 1) = (v : Int) := by rw [IntWalk.i64_in _ ⟨by omega, by omega⟩]; omega
  generalize k.refs v = rv at c4 hc'
  clear h hm hv G hc ho hrv
  go_enter Try.func126, Try.ntmps126
  go_wp2_with fail
  refine (may_any b r x true m own _ HF.out.1.me).mono ?_
  rintro e w1 ⟨rfl, hw1⟩
  subst w1
  rw [HF.out.2]
  go_wp2_with fail
  refine (ntake_any r q k _ HF.out.1.bk HG.out.1.inv HG.out.1.nb).mono ?_
  rintro e w1 ⟨g, E, k1, rfl, ht, hk, F⟩
  have HM : Hid (MB w1 b r q m own k1 ∧ Thr b r q w w1) := Hid.intro ⟨⟨HF.out.1.me.two F HF.out.1.br HF.out.1.bq, hk, HF.out.1.br, HF.out.1.bq⟩, Thr.bank F⟩
  have g64 : g < 64 := by obtain ⟨p', h1, _⟩ := ht; exact TakeTo0_lt h1
  have hE : (E = 0 ∧ Bd.Inv k1.pool ∧ 1 ≤ k1.refs v ∧ k1.refs v < 2 ^ 60) ∨ (E = 4 ∧ g = 0) := by
    obtain ⟨p', h1, h2⟩ := ht
    have hi := HG.out.1.inv.take HG.out.1.nb h1
    rcases h1 with ⟨a, _⟩ | ⟨_, _, a, b, _⟩ | ⟨_, _, a, _⟩
    · omega
    · exact .inr ⟨a, b⟩
    · subst a
      rw [if_pos rfl] at h2
      subst h2
      refine .inl ⟨rfl, hi.1, ?_⟩
      have := HRV.out
      show 1 ≤ (if v = g then 1 else k.refs v) ∧ (if v = g then 1 else k.refs v) < 2 ^ 60
      split <;> omega
  have HT := Hid.intro ht
  clear ht hk F c1 c2 c3 c4
  rcases hE with ⟨rfl, hi1, hr1, hr2⟩ | ⟨rfl, rfl⟩
  · have gI : IntKind.i64.wrap ((g : Int) + 1) = (g : Int) + 1 := IntWalk.i64_in _ ⟨by omega, by omega⟩
    have g1 : (g : Int) < 64 := by omega
    have HI := Hid.intro (And.intro hi1 (And.intro hr1 hr2))
    have c3 := HM.out.1.me.cBank
    have l0 : w1.cell? ⟨r, 1 + v * 8, none⟩ = some (.int .u8 (k1.byt v 0)) := HM.out.1.bk.cB v 0 v64 (by omega)
    have s0 : w1.cell? ⟨r, 1 + g * 8, none⟩ = some (.int .u8 (k1.byt g 0)) := HM.out.1.bk.cB g 0 g64 (by omega)
    have l1 := HM.out.1.bk.cB v 1 v64 (by omega)
    have s1 := HM.out.1.bk.cB g 1 g64 (by omega)
    have l2 := HM.out.1.bk.cB v 2 v64 (by omega)
    have s2 := HM.out.1.bk.cB g 2 g64 (by omega)
    have l3 := HM.out.1.bk.cB v 3 v64 (by omega)
    have s3 := HM.out.1.bk.cB g 3 g64 (by omega)
    have l4 := HM.out.1.bk.cB v 4 v64 (by omega)
    have s4 := HM.out.1.bk.cB g 4 g64 (by omega)
    have l5 := HM.out.1.bk.cB v 5 v64 (by omega)
    have s5 := HM.out.1.bk.cB g 5 g64 (by omega)
    have l6 := HM.out.1.bk.cB v 6 v64 (by omega)
    have s6 := HM.out.1.bk.cB g 6 g64 (by omega)
    have l7 := HM.out.1.bk.cB v 7 v64 (by omega)
    have s7 := HM.out.1.bk.cB g 7 g64 (by omega)
    have fz := HM.out.1.bk.frozen
    clear hi1 hr1 hr2
    go_wp2_with fail
    go_region
    generalize hW : World.drew _ = W2
    have S2 : Hid (MB W2 b r q m own (Mv.cpy k1 v g) ∧ Thr b r q w W2) := Hid.intro (by
      rw [← hW]
      have a : NAt (w1.setCells r (1 + g * 8) (by8 (k1.byt v)).toList).drew r q (Mv.cpy k1 v g) := (HM.out.1.bk.setRow g g64 (k1.byt v)).drew
      have f : Frm r w1 (w1.setCells r (1 + g * 8) (by8 (k1.byt v)).toList).drew := (Frm.setCells _ _ (Frm.refl r w1)).drew
      exact ⟨⟨HM.out.1.me.same (f.block b HM.out.1.me.lt HM.out.1.br), a, HM.out.1.br, HM.out.1.bq⟩, HM.out.2.trans ⟨f.os, f.tape, f.output, f.size, fun j hj _ h2 _ => f.block j hj h2⟩⟩)
    have d3 := S2.out.1.me.cBank
    clear l0 s0 l1 s1 l2 s2 l3 s3 l4 s4 l5 s5 l6 s6 l7 s7 fz hW c3
    go_wp2_with fail
    refine (ndrop_any r q v _ _ S2.out.1.bk v64 HI.out.1 HI.out.2.1 HI.out.2.2).mono ?_
    rintro e w3 ⟨rfl, hk3, F3⟩
    have S3 : Hid (MB w3 b r q m own (Mv.drp (Mv.cpy k1 v g) v) ∧ Thr b r q w w3) := Hid.intro ⟨⟨S2.out.1.me.two F3 S2.out.1.br S2.out.1.bq, hk3, S2.out.1.br, S2.out.1.bq⟩, S2.out.2.trans (Thr.bank F3)⟩
    clear hk3 F3 d3
    have c1 := S3.out.1.me.cFr (x / 8) (by omega)
    have c2 := S3.out.1.me.cOwn (x / 8) (by omega)
    have cf := S3.out.1.me.frozen
    have S4 : Hid (MB ((w3.setCell ⟨b, 17 + x / 8, none⟩ (.int .i64 ((g : Int) + 1))).setCell ⟨b, 33 + x / 8, none⟩ (.bool true)) b r q { m with fr := upn m.fr (x / 8) (g + 1) } (upo own (x / 8) true) (Mv.drp (Mv.cpy k1 v g) v) ∧ Thr b r q w ((w3.setCell ⟨b, 17 + x / 8, none⟩ (.int .i64 ((g : Int) + 1))).setCell ⟨b, 33 + x / 8, none⟩ (.bool true))) := Hid.intro (by
      have a := (S3.out.1.me.setFr (x / 8) (g + 1) (by omega)).setOwn (x / 8) true (by omega)
      have f : Frm b w3 ((w3.setCell ⟨b, 17 + x / 8, none⟩ (.int .i64 ((g : Int) + 1))).setCell ⟨b, 33 + x / 8, none⟩ (.bool true)) := ((Frm.refl b w3).setCell _ _).setCell _ _
      exact ⟨⟨a, S3.out.1.bk.frm f S3.out.1.br S3.out.1.bq, S3.out.1.br, S3.out.1.bq⟩, S3.out.2.trans (Thr.mem f)⟩)
    go_wp2_with fail
    go_ret2
    refine ⟨0, g, _, _, _, rfl, .inr (.inr ⟨HF.out.2, HN.out, k1, HT.out, .inr ⟨rfl, ?_, ?_⟩⟩), S4.out.1, S4.out.2, .inr ⟨by rw [Int.toNat_natCast], rfl, .inr rfl⟩⟩
    · rw [Int.toNat_natCast]
    · rw [Int.toNat_natCast, if_neg (by rw [HG.out.2]; omega), HG.out.2, Nat.add_sub_cancel]
  · go_wp2_with fail
    go_ret2
    exact ⟨4, 0, _, _, _, rfl, .inr (.inr ⟨HF.out.2, HN.out, k1, HT.out, .inl ⟨by decide, rfl, rfl⟩⟩), HM.out.1, HM.out.2, .inl rfl⟩
theorem touch_any (b r q : Nat) (z : Int) (wr : Bool) (m : Me) (own : Nat → Bool) (k : Bk) (w : World) (h : MB w b r q m own k) (G : Good m own k) :
    Calls Try.prog 126 #[.pointer (some ⟨b, 0, none⟩), .int .i64 z, .bool wr] w (TouP b r q z wr m own k w) := by
  cases hm : Mv.mayB m z wr
  · exact touch_no b r q z wr m own k w h hm
  · obtain ⟨x, rfl, hx⟩ := may_in hm
    rcases Nat.eq_zero_or_pos (m.fr (x / 8)) with e | e
    · exact touch_new b r q x wr m own k w h G hx hm e
    · obtain ⟨v, hv⟩ : ∃ v, m.fr (x / 8) = v + 1 := ⟨m.fr (x / 8) - 1, by omega⟩
      by_cases c : wr = false ∨ k.refs v = 1
      · exact touch_has b r q x v wr m own k w h G hx hm hv c
      · have c1 : wr = true := by cases wr; exact absurd (.inl rfl) c; rfl
        subst c1
        exact touch_cow b r q x v m own k w h G hx hm hv (fun d => c (.inr d))
end
end Go.Proofs.Ytnppahmlifnnnab

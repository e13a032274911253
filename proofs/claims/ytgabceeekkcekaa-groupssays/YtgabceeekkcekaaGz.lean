/- What each act leaves, as the law TopGroups asks it. -/
import Derived.Test.YtgabceeekkcekaaGs
namespace Go.Proofs.Ytgabceeekkcekaa
open Go.RowKit Go.Shelf

/-- A step that keeps the tree, and its limits. -/
structure Step (t : Nat → Gp) (Wy : Nat → List (Fin 10)) (c : Nat) (t' : Nat → Gp) (Wy' : Nat → List (Fin 10)) : Prop where
  tree : Tree t' Wy' (c + 1)
  fit : Fit t' Wy' (wasC t Wy)
section
variable {t : Nat → Gp} {Wy : Nat → List (Fin 10)} {c : Nat}
theorem Step.same (h : Tree t Wy c) : Step t Wy c t Wy := ⟨h.mono (by omega), fit_self⟩

theorem add_any (b : Nat) (g : Int) (w : World) (h : TAt w b t) (hT : Tree t Wy c) :
    Calls Try.prog 23 #[.pointer (some ⟨b, 0, none⟩), .int .i64 g] w fun e w' =>
      (∃ n : Nat, n < 10 ∧ e = .returned (.tuple #[.int .i64 n, .nilIface]) ∧ TAt w' b (updT t n (newGp g)) ∧ Frm b w w' ∧ ∃ Wy', Step t Wy c (updT t n (newGp g)) Wy') ∨
      (∃ k : Int, e = .returned (.tuple #[.int .i64 0, .iface 81 (.int .i64 k)]) ∧ TAt w' b t ∧ Frm b w w') := by
  by_cases hw : wr t g = 0
  · obtain ⟨p, rfl, hp, hh⟩ := wr_zero hw
    by_cases hd : (Wy p).length < 4
    · refine (add_rest b p t (Wy p) w h (hT.ways p hp) hp hh hd).mono ?_
      rintro e w' (⟨n, hn, hf, _, rfl, ht, hfr⟩ | ⟨_, rfl, hb⟩)
      · exact .inl ⟨n, hn, rfl, ht, hfr, addW Wy n hn p, ⟨(hT.add hn hf hp hh hd).mono (by omega), fit_add hT hn hf⟩⟩
      · exact .inr ⟨4, rfl, h.below hb h.lt, Frm.of_below hb⟩
    · have h10 : (Wy p).length ≤ 4 := hT.deep p hp
      refine (add_deep b p t (Wy p) w h (hT.ways p hp) hp hh (by omega) (by omega)).mono ?_
      rintro e w' ⟨rfl, hb⟩
      exact .inr ⟨7, rfl, h.below hb h.lt, Frm.of_below hb⟩
  · refine (add_bad b g t w h hw).mono ?_
    rintro e w' ⟨rfl, rfl⟩
    exact .inr ⟨wr t g, by rw [errV_ne hw], h, Frm.refl _ _⟩

theorem remove_any (b : Nat) (g : Int) (w : World) (h : TAt w b t) (hT : Tree t Wy c) (hc : c ≤ 1000) :
    Calls Try.prog 25 #[.pointer (some ⟨b, 0, none⟩), .int .i64 g] w fun e w' =>
      ∃ t' Wy' k, e = .returned (errV k) ∧ TAt w' b t' ∧ Frm b w w' ∧ Step t Wy c t' Wy' ∧ ∀ j, (t' j).there = true → t' j = t j := by
  have hS := hT.small hc
  by_cases hw : wr t g = 0
  · obtain ⟨n, rfl, hn, hh⟩ := wr_zero hw
    by_cases h0 : n = 0
    · subst h0
      refine (remove_root b t w h hh).mono ?_
      rintro e w' ⟨rfl, rfl⟩
      exact ⟨t, Wy, 5, rfl, h, Frm.refl _ _, Step.same hT, fun _ _ => rfl⟩
    · by_cases hx : totTo t Wy n Gp.op 10 = 0 ∧ totTo t Wy n Gp.oq 10 = 0
      · cases ha : abvB t n
        · refine (remove_ok b n t Wy w h hT.ways hS hn h0 hh hx ha).mono ?_
          rintro e w' ⟨rfl, ht, hf⟩
          refine ⟨updT t n noGp, remW Wy n, 0, rfl, ht, hf, ⟨(hT.rem h0 ha).mono (by omega), fit_rem hT hn hh hx⟩, fun j hj => ?_⟩
          by_cases e : j = n
          · subst e; rw [updT_same] at hj; cases hj
          · exact updT_ne _ _ _ _ e
        · refine (remove_abv b n t Wy w h hT.ways hS hn h0 hh hx ha).mono ?_
          rintro e w' ⟨rfl, hb⟩
          exact ⟨t, Wy, 5, rfl, h.below hb h.lt, Frm.of_below hb, Step.same hT, fun _ _ => rfl⟩
      · refine (remove_has b n t Wy w h hT.ways hS hn h0 hh (by omega)).mono ?_
        rintro e w' ⟨rfl, hb⟩
        exact ⟨t, Wy, 5, rfl, h.below hb h.lt, Frm.of_below hb, Step.same hT, fun _ _ => rfl⟩
  · refine (remove_bad b g t w h hw).mono ?_
    rintro e w' ⟨rfl, rfl⟩
    exact ⟨t, Wy, _, rfl, h, Frm.refl _ _, Step.same hT, fun _ _ => rfl⟩

theorem limit_any (b : Nat) (g p q : Int) (w : World) (h : TAt w b t) (hT : Tree t Wy c) :
    Calls Try.prog 27 #[.pointer (some ⟨b, 0, none⟩), .int .i64 g, .int .i64 p, .int .i64 q] w fun e w' =>
      ∃ t' k, e = .returned (errV k) ∧ TAt w' b t' ∧ Frm b w w' ∧ Tree t' Wy (c + 1) ∧ ∀ j, (t' j).there = (t j).there ∧ (t' j).op = (t j).op ∧ (t' j).oq = (t j).oq := by
  by_cases hw : wr t g = 0
  · obtain ⟨n, rfl, hn, hh⟩ := wr_zero hw
    cases hf : fromB p q (-1)
    · refine (limit_bound b n p q t w h hn hh hf).mono ?_
      rintro e w' ⟨rfl, hb⟩
      exact ⟨t, 1, rfl, h.below hb h.lt, Frm.of_below hb, hT.mono (by omega), fun _ => ⟨rfl, rfl, rfl⟩⟩
    · refine (limit_ok b n p q t w h hn hh hf).mono ?_
      rintro e w' ⟨rfl, ht, hfr⟩
      refine ⟨_, 0, rfl, ht, hfr, hT.limit.mono (by omega), fun j => ?_⟩
      by_cases e : j = n
      · subst e; rw [updT_same]; exact ⟨rfl, rfl, rfl⟩
      · rw [updT_ne _ _ _ _ e]; exact ⟨rfl, rfl, rfl⟩
  · refine (limit_bad b g p q t w h hw).mono ?_
    rintro e w' ⟨rfl, rfl⟩
    exact ⟨t, _, rfl, h, Frm.refl _ _, hT.mono (by omega), fun _ => ⟨rfl, rfl, rfl⟩⟩

theorem addO_at (t : Nat → Gp) (n : Nat) (p q : Int) : (addO t n p q n).op = (t n).op + p ∧ (addO t n p q n).oq = (t n).oq + q := by
  rw [show addO t n p q n = _ from updT_same _ _ _]; exact ⟨rfl, rfl⟩
theorem addO_off (t : Nat → Gp) (n : Nat) (p q : Int) {k : Nat} (h : k ≠ n) : addO t n p q k = t k := updT_ne _ _ _ _ h

theorem chg_step {g p q : Int} (h : Tree t Wy c) (he : chgE t Wy g p q = 0) : ∃ n : Nat, g = n ∧ n < 10 ∧ (t n).there = true ∧ (0 ≤ p ∧ p ≤ 20) ∧ (0 ≤ q ∧ q ≤ 64) ∧ chgT t Wy g p q = addO t n p q ∧ Step t Wy c (addO t n p q) Wy := by
  have hT : chgT t Wy g p q = addO t g.toNat p q := if_pos he
  unfold chgE at he
  by_cases hr : refE t g p q = 0
  · rw [if_pos hr] at he
    obtain ⟨n, rfl, hn, hh, hp, hq⟩ := refE_zero hr
    rw [Int.toNat_natCast] at he hT
    have hl : lackA t Wy n p q = false := by
      cases h : lackA t Wy n p q
      · rfl
      · rw [h] at he; simp at he
    have ho := h.own n hn
    exact ⟨n, rfl, hn, hh, hp, hq, hT, ⟨h.addO (by omega) (by omega) (by omega), fit_charge hn hp.1 hq.1 hl⟩⟩
  · rw [if_neg hr] at he; exact absurd he hr
theorem chg_no {g p q : Int} (he : chgE t Wy g p q ≠ 0) : chgT t Wy g p q = t := if_neg he
theorem unc_ok {g p q : Int} (he : uncE t g p q = 0) : ∃ n : Nat, g = n ∧ n < 10 ∧ (t n).there = true ∧ (0 ≤ p ∧ p ≤ 20) ∧ (0 ≤ q ∧ q ≤ 64) ∧ (p ≤ (t n).op ∧ q ≤ (t n).oq) ∧ uncT t g p q = addO t n (-p) (-q) := by
  have hT : uncT t g p q = addO t g.toNat (-p) (-q) := if_pos he
  unfold uncE at he
  by_cases hr : refE t g p q = 0
  · rw [if_pos hr] at he
    obtain ⟨n, rfl, hn, hh, hp, hq⟩ := refE_zero hr
    rw [Int.toNat_natCast] at he hT
    have hl : p ≤ (t n).op ∧ q ≤ (t n).oq := by
      by_cases h : p ≤ (t n).op ∧ q ≤ (t n).oq
      · exact h
      · rw [if_neg h] at he; simp at he
    exact ⟨n, rfl, hn, hh, hp, hq, hl, hT⟩
  · rw [if_neg hr] at he; exact absurd he hr
theorem unc_tree {n : Nat} {p q : Int} (h : Tree t Wy c) (hn : n < 10) (hp : 0 ≤ p) (hq : 0 ≤ q) (hl : p ≤ (t n).op ∧ q ≤ (t n).oq) : Tree (addO t n (-p) (-q)) Wy c := by
  have ho := h.own n hn
  exact h.addO (Nat.le_refl _) (by omega) (by omega)
theorem unc_step {g p q : Int} (h : Tree t Wy c) (he : uncE t g p q = 0) : ∃ n : Nat, g = n ∧ n < 10 ∧ (t n).there = true ∧ (0 ≤ p ∧ p ≤ 20) ∧ (0 ≤ q ∧ q ≤ 64) ∧ uncT t g p q = addO t n (-p) (-q) ∧ Step t Wy c (addO t n (-p) (-q)) Wy := by
  obtain ⟨n, rfl, hn, hh, hp, hq, hl, hT⟩ := unc_ok he
  exact ⟨n, rfl, hn, hh, hp, hq, hT, ⟨(unc_tree h hn hp.1 hq.1 hl).mono (by omega), fit_unc hp.1 hq.1⟩⟩
theorem unc_no {g p q : Int} (he : uncE t g p q ≠ 0) : uncT t g p q = t := if_neg he
theorem mov_no {f g p q : Int} (he : movE t Wy f g p q ≠ 0) : movT t Wy f g p q = t := if_neg he
theorem mov_step {f g p q : Int} (h : Tree t Wy c) (he : movE t Wy f g p q = 0) : ∃ n m : Nat, f = n ∧ g = m ∧ n < 10 ∧ m < 10 ∧ (t n).there = true ∧ (t m).there = true ∧ (0 ≤ p ∧ p ≤ 20) ∧ (0 ≤ q ∧ q ≤ 64) ∧ movT t Wy f g p q = addO (addO t n (-p) (-q)) m p q ∧ Step t Wy c (addO (addO t n (-p) (-q)) m p q) Wy := by
  have hT : movT t Wy f g p q = chgT (uncT t f p q) Wy g p q := if_pos he
  unfold movE at he
  by_cases hw : wr t g = 0
  · rw [if_pos hw] at he
    by_cases hu : uncE t f p q = 0
    · rw [if_pos hu] at he
      obtain ⟨n, rfl, hn, hh, hp, hq, hl, hU⟩ := unc_ok hu
      rw [hU] at he hT
      have hT1 := unc_tree h hn hp.1 hq.1 hl
      obtain ⟨m, rfl, hm, hmh, _, _, hC, hS⟩ := chg_step hT1 he
      rw [(addO_same t n _ _ m).1] at hmh
      rw [hC] at hT
      refine ⟨n, m, rfl, rfl, hn, hm, hh, hmh, hp, hq, hT, ⟨hS.tree, ?_⟩⟩
      unfold chgE at he
      by_cases hr : refE (addO t n (-p) (-q)) m p q = 0
      · rw [if_pos hr, Int.toNat_natCast] at he
        refine fit_move hm hp.1 hq.1 ?_
        cases hx : lackA (addO t n (-p) (-q)) Wy m p q
        · rfl
        · rw [hx] at he; simp at he
      · rw [if_neg hr] at he; exact absurd he hr
    · rw [if_neg hu] at he; exact absurd he hu
  · rw [if_neg hw] at he; exact absurd he hw
end

/-- The law's own books agree with the tree. -/
def Books (t : Nat → Gp) (A B : Nat → Int) : Prop := ∀ k, k < 10 → (t k).there = true → A k = (t k).op ∧ B k = (t k).oq
section
variable {t : Nat → Gp} {A B : Nat → Int}
theorem Books.of {t' : Nat → Gp} (h : Books t A B) (hs : ∀ k, (t' k).there = true → (t k).there = true ∧ (t' k).op = (t k).op ∧ (t' k).oq = (t k).oq) : Books t' A B := fun k hk hh => by
  obtain ⟨a, b, d⟩ := hs k hh
  rw [b, d]
  exact h k hk a
theorem Books.new (h : Books t A B) (n : Nat) (g : Int) : Books (updT t n (newGp g)) (updI A n 0) (updI B n 0) := fun k hk hh => by
  by_cases e : k = n
  · subst e; rw [updT_same, updI_same, updI_same]; exact ⟨rfl, rfl⟩
  · rw [updT_ne _ _ _ _ e] at hh ⊢
    rw [updI_ne _ _ _ _ e, updI_ne _ _ _ _ e]
    exact h k hk hh
theorem Books.addO (h : Books t A B) {n : Nat} (hn : n < 10) (hh : (t n).there = true) (p q : Int) : Books (addO t n p q) (updI A n (A n + p)) (updI B n (B n + q)) := fun k hk hk2 => by
  rw [(addO_same t n p q k).1] at hk2
  by_cases e : k = n
  · subst e
    rw [updI_same, updI_same, (addO_at t k p q).1, (addO_at t k p q).2, (h k hn hh).1, (h k hn hh).2]
    exact ⟨rfl, rfl⟩
  · rw [addO_off t n p q e, updI_ne _ _ _ _ e, updI_ne _ _ _ _ e]
    exact h k hk hk2
end

/-- What the law has in its hands: the tree at b, its books at ob. -/
structure Sg (w W : World) (b ob : Nat) (t : Nat → Gp) (Wy : Nat → List (Fin 10)) (c : Nat) (A B : Nat → Int) : Prop where
  bel : Below w.heap.size w W
  le : w.heap.size ≤ b
  lt : b < ob
  tat : TAt W b t
  own : PAt W ob A B
  tree : Tree t Wy c
  ok : Books t A B
section
variable {w W W' : World} {b ob : Nat} {t : Nat → Gp} {Wy : Nat → List (Fin 10)} {c : Nat} {A B : Nat → Int}
theorem Sg.below (h : Sg w W b ob t Wy c A B) (hb : Below (ob + 1) W W') : Sg w W' b ob t Wy c A B := by
  have h1 := h.le
  have h2 := h.lt
  exact ⟨h.bel.trans (hb.mono (by omega)), h1, h2, h.tat.below hb (by omega), h.own.below hb (by omega), h.tree, h.ok⟩
theorem Sg.drewN (h : Sg w W b ob t Wy c A B) (n : Nat) : Sg w (W.drewN n) b ob t Wy c A B := h.below (below_drewN (Below.refl _ _) n)
theorem Sg.alloc (h : Sg w W b ob t Wy c A B) (o : Obj) : Sg w (W.alloc o) b ob t Wy c A B := h.below ((Below.refl _ _).alloc (by have := h.own.lt; omega) _)
theorem Sg.frm (h : Sg w W b ob t Wy c A B) (hf : Frm b W W') {t' : Nat → Gp} {Wy' : Nat → List (Fin 10)} {c' : Nat} (ht : TAt W' b t') (hT : Tree t' Wy' c') (ho : PAt W' ob A B → Books t' A B) : Sg w W' b ob t' Wy' c' A B := by
  have h2 := h.lt
  have hp : PAt W' ob A B := (hf.block ob h.own.lt (by omega)).trans h.own
  exact ⟨hf.below h.bel h.le (Nat.le_trans h.le (Nat.le_of_lt h.tat.lt)), h.le, h2, ht, hp, hT, ho hp⟩
/-- The tree has turned, the books have yet to be brought up to date. -/
structure Sg2 (w W : World) (b ob : Nat) (t : Nat → Gp) (Wy : Nat → List (Fin 10)) (c : Nat) (A B : Nat → Int) : Prop where
  bel : Below w.heap.size w W
  le : w.heap.size ≤ b
  lt : b < ob
  tat : TAt W b t
  own : PAt W ob A B
  tree : Tree t Wy c
theorem Sg.frm2 (h : Sg w W b ob t Wy c A B) (hf : Frm b W W') {t' : Nat → Gp} {Wy' : Nat → List (Fin 10)} {c' : Nat} (ht : TAt W' b t') (hT : Tree t' Wy' c') : Sg2 w W' b ob t' Wy' c' A B := by
  have h2 := h.lt
  exact ⟨hf.below h.bel h.le (Nat.le_trans h.le (Nat.le_of_lt h.tat.lt)), h.le, h2, ht, (hf.block ob h.own.lt (by omega)).trans h.own, hT⟩
theorem Sg2.done (h : Sg2 w W b ob t Wy c A B) (ho : Books t A B) : Sg w W b ob t Wy c A B := ⟨h.bel, h.le, h.lt, h.tat, h.own, h.tree, ho⟩
theorem Sg2.drew (h : Sg2 w W b ob t Wy c A B) : Sg2 w W.drew b ob t Wy c A B := ⟨h.bel.drew, h.le, h.lt, h.tat, h.own, h.tree⟩
theorem Sg2.set0 (h : Sg2 w W b ob t Wy c A B) {m : Nat} (hm : m < 10) (v : Int) : Sg2 w (W.setCell ⟨ob, m * 2, none⟩ (.int .i64 v)) b ob t Wy c (updI A m v) B := by
  have h1 := h.le
  have h2 := h.lt
  exact ⟨h.bel.setCell (show w.heap.size ≤ ob by omega) _, h1, h2, (setBlk _ _ _ _ (by omega)).trans h.tat, h.own.set0 m hm v, h.tree⟩
theorem Sg2.set1 (h : Sg2 w W b ob t Wy c A B) {m : Nat} (hm : m < 10) (v : Int) : Sg2 w (W.setCell ⟨ob, m * 2 + 1, none⟩ (.int .i64 v)) b ob t Wy c A (updI B m v) := by
  have h1 := h.le
  have h2 := h.lt
  exact ⟨h.bel.setCell (show w.heap.size ≤ ob by omega) _, h1, h2, (setBlk _ _ _ _ (by omega)).trans h.tat, h.own.set1 m hm v, h.tree⟩
end
end Go.Proofs.Ytgabceeekkcekaa

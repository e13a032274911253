/- The code's memory: settle. -/
import Derived.Test.YtnppahmlifnnnabNc
import Derived.Deep.RegionWith
namespace Go.Proofs.Ytnppahmlifnnnab
open Go.RowKit
open Bd (P)
open Mv (Me Bk)

/-- What a touch finds so: the pool is whole; a page's frame is one, is held, and is taken. -/
structure GoodC (m : Me) (k : Bk) : Prop where
  inv : Bd.Inv k.pool
  nb : Bd.NB k.pool 64
  le : ∀ i, i < 16 → m.fr i ≤ 64
  held : ∀ i, i < 16 → m.fr i ≠ 0 → 1 ≤ k.refs (m.fr i - 1) ∧ k.refs (m.fr i - 1) < 2 ^ 59
  hold : ∀ f, f < 64 → 1 ≤ k.refs f → k.pool.tk f = true
/-- A page is settled: what comes, and what it leaves. -/
def Mv.TouS (m : Me) (k : Bk) (n : Nat) (wr : Bool) (E : Int) (g : Nat) (m' : Me) (k' : Bk) : Prop :=
  (m.fr n ≠ 0 ∧ (wr = false ∨ k.refs (m.fr n - 1) = 1) ∧ E = 0 ∧ g = m.fr n - 1 ∧ m' = m ∧ k' = k) ∨
  (¬ (m.fr n ≠ 0 ∧ (wr = false ∨ k.refs (m.fr n - 1) = 1)) ∧ ∃ k1, Mv.TakK k E g k1 ∧
    ((E ≠ 0 ∧ m' = m ∧ k' = k1) ∨ (E = 0 ∧ m' = { m with fr := upn m.fr n (g + 1) } ∧ k' = if m.fr n = 0 then k1 else Mv.drp (Mv.cpy k1 (m.fr n - 1) g) (m.fr n - 1))))
theorem TakV_zero {k k' : Bk} {e : Int} {f : Nat} (h : Mv.TakV k (fun _ => 0) e f k') : Mv.TakK k e f k' := by
  obtain ⟨p', h1, h2⟩ := h
  refine ⟨p', h1, ?_⟩
  rw [h2]; rfl
theorem TakV_cpy {k k' : Bk} {e : Int} {f v : Nat} (h : Mv.TakV k (k.byt v) e f k') (hv : k.pool.tk v = true) : ∃ k1, Mv.TakK k e f k1 ∧ ((e ≠ 0 ∧ k' = k1) ∨ (e = 0 ∧ k' = Mv.cpy k1 v f ∧ v ≠ f)) := by
  obtain ⟨p', h1, h2⟩ := h
  by_cases e0 : e = 0
  · rw [if_pos e0] at h2
    have ne : v ≠ f := fun c => by
      rcases h1 with ⟨_, c1, _⟩ | ⟨_, _, c1, _⟩ | ⟨_, hB, _, _⟩
      · omega
      · omega
      · rw [c, hB.tk] at hv; cases hv
    refine ⟨Mv.clr k p' f, ⟨p', h1, by rw [if_pos e0]⟩, .inr ⟨e0, ?_, ne⟩⟩
    rw [h2]
    unfold Mv.cpy Mv.clr Mv.setF
    congr 1
    funext a i
    by_cases c : a = f
    · simp [c, ne]
    · simp [c]
  · rw [if_neg e0] at h2
    exact ⟨k', ⟨p', h1, by rw [if_neg e0]; exact h2⟩, .inl ⟨e0, rfl⟩⟩

def SetP (b r q n : Nat) (wr : Bool) (m : Me) (k : Bk) (w : World) (e : Ending) (w' : World) : Prop :=
  ∃ (E : Int) (g : Nat) (m' : Me) (k' : Bk), e = .returned (errV E) ∧ Mv.TouS m k n wr E g m' k' ∧ UB w' b r q m' k' ∧ Thr b r q w w'
set_option maxRecDepth 100000 in
set_option maxHeartbeats 1000000 in
theorem settle_new (b r q n : Nat) (wr : Bool) (m : Me) (k : Bk) (w : World) (h : UB w b r q m k) (G : GoodC m k) (hn : n < 16) (hv : m.fr n = 0) :
    Calls Try.prog 130 #[.pointer (some ⟨b, 0, none⟩), .pointer (some ⟨b, 1 + n * 2, none⟩), .bool wr] w (SetP b r q n wr m k w) := by
  have HF := Hid.intro (And.intro h (And.intro G hv))
  have c0 := h.me.cBank
  have c1 := h.me.cFr n hn
  rw [hv] at c1
  have c1' : w.cell? ⟨b, 1 + n * 2 + 1, none⟩ = some (.int .i64 (-1)) := c1
  have HN : Hid (¬ (m.fr n ≠ 0 ∧ (wr = false ∨ k.refs (m.fr n - 1) = 1))) := Hid.intro (fun c => c.1 hv)
  clear h G hv c1
  go_enter Try.func130, Try.ntmps130
  go_wp2_with fail
  refine (vtake_any r q (fun _ => 0) k _ HF.out.1.bk HF.out.2.1.inv HF.out.2.1.nb).mono ?_
  rintro e w1 ⟨g, E, k1, rfl, ht, hk, F⟩
  have HM : Hid (UB w1 b r q m k1 ∧ Thr b r q w w1) := Hid.intro ⟨⟨HF.out.1.me.two F HF.out.1.br HF.out.1.bq, hk, HF.out.1.br, HF.out.1.bq⟩, Thr.bank F⟩
  have HT := Hid.intro (TakV_zero ht)
  clear ht hk F c0 c1'
  by_cases e0 : E = 0
  · subst e0
    rw [errV_zero]
    have d1 := HM.out.1.me.cFr n hn
    have df := HM.out.1.me.frozen
    have S2 : Hid (UB (w1.setCell ⟨b, 1 + n * 2 + 1, none⟩ (.int .i64 (g : Int))) b r q { m with fr := upn m.fr n (g + 1) } k1 ∧ Thr b r q w (w1.setCell ⟨b, 1 + n * 2 + 1, none⟩ (.int .i64 (g : Int)))) := Hid.intro (by
      have f : Frm b w1 (w1.setCell ⟨b, 1 + n * 2 + 1, none⟩ (.int .i64 (g : Int))) := (Frm.refl b w1).setCell _ _
      exact ⟨⟨HM.out.1.me.setFr n (g + 1) hn _ (by omega), HM.out.1.bk.frm f HM.out.1.br HM.out.1.bq, HM.out.1.br, HM.out.1.bq⟩, HM.out.2.trans (Thr.mem f)⟩)
    go_wp2_with fail
    go_ret
    exact ⟨0, g, _, _, rfl, .inr ⟨HN.out, k1, HT.out, .inr ⟨rfl, rfl, by rw [if_pos HF.out.2.2]⟩⟩, S2.out.1, S2.out.2⟩
  · rw [errV_ne e0]
    have HE := Hid.intro e0
    clear e0
    go_wp2_with fail
    go_ret
    exact ⟨E, g, _, _, by rw [errV_ne HE.out]; rfl, .inr ⟨HN.out, k1, HT.out, .inl ⟨HE.out, rfl, rfl⟩⟩, HM.out.1, HM.out.2⟩

set_option maxRecDepth 100000 in
set_option maxHeartbeats 2000000 in
theorem settle_has (b r q n v : Nat) (wr : Bool) (m : Me) (k : Bk) (w : World) (h : UB w b r q m k) (G : GoodC m k) (hn : n < 16) (hv : m.fr n = v + 1) :
    Calls Try.prog 130 #[.pointer (some ⟨b, 0, none⟩), .pointer (some ⟨b, 1 + n * 2, none⟩), .bool wr] w (SetP b r q n wr m k w) := by
  have HF := Hid.intro (And.intro h (And.intro G hv))
  have c0 := h.me.cBank
  have c1 := h.me.cFr n hn
  rw [hv, show ((v + 1 : Nat) : Int) - 1 = (v : Int) by omega] at c1
  have v64 : v < 64 := by have := G.le n hn; omega
  have vI : (v : Int) < 64 := by omega
  have v1 : ((v : Int) == -1) = false := by simp
  have l0 := h.bk.cRefs v v64
  have l1 : w.cell? ⟨r, 1 + v * 9 + 1, none⟩ = some (.int .u8 (k.byt v 0)) := h.bk.cB v 0 v64 (by omega)
  have l2 : w.cell? ⟨r, 1 + v * 9 + 2, none⟩ = some (.int .u8 (k.byt v 1)) := h.bk.cB v 1 v64 (by omega)
  have l3 : w.cell? ⟨r, 1 + v * 9 + 3, none⟩ = some (.int .u8 (k.byt v 2)) := h.bk.cB v 2 v64 (by omega)
  have l4 : w.cell? ⟨r, 1 + v * 9 + 4, none⟩ = some (.int .u8 (k.byt v 3)) := h.bk.cB v 3 v64 (by omega)
  have l5 : w.cell? ⟨r, 1 + v * 9 + 5, none⟩ = some (.int .u8 (k.byt v 4)) := h.bk.cB v 4 v64 (by omega)
  have l6 : w.cell? ⟨r, 1 + v * 9 + 6, none⟩ = some (.int .u8 (k.byt v 5)) := h.bk.cB v 5 v64 (by omega)
  have l7 : w.cell? ⟨r, 1 + v * 9 + 7, none⟩ = some (.int .u8 (k.byt v 6)) := h.bk.cB v 6 v64 (by omega)
  have l8 : w.cell? ⟨r, 1 + v * 9 + 8, none⟩ = some (.int .u8 (k.byt v 7)) := h.bk.cB v 7 v64 (by omega)
  have hbs : b < w.heap.size := h.me.lt
  have hrs : r < w.heap.size := h.bk.lt
  have hbn : b ≠ w.heap.size := by omega
  have hrn : r ≠ w.heap.size := by omega
  clear h G hv
  go_enter Try.func130, Try.ntmps130
  go_wp2_with fail
  go_region
  generalize hW : World.drew _ = W2
  have S2 : Hid (UB W2 b r q m k ∧ Thr b r q w W2 ∧ W2.heap[w.heap.size]? = some (.cells (fr9 (k.refs v : Int) (k.byt v)) 107 (0, 0)) ∧ w.heap.size ≠ q) := Hid.intro (by
    rw [← hW]
    have bb : Below w.heap.size w (w.alloc (.cells (fr9 (k.refs v : Int) (k.byt v)) 107)) := (Below.refl _ _).alloc (Nat.le_refl _) _
    exact ⟨(HF.out.1.below bb).drew, (Thr.below bb).drew, heap_alloc_new w _, by have := HF.out.1.bk.ltq; omega⟩)
  clear hW c0 c1 l0 l1 l2 l3 l4 l5 l6 l7 l8 hbs hrs
  obtain ⟨bo, hbo⟩ : ∃ bo, w.heap.size = bo := ⟨_, rfl⟩
  rw [hbo] at S2 hbn hrn ⊢
  have HBO := Hid.intro (And.intro hbo (And.intro hbn hrn))
  clear hbo hbn hrn
  have o0 : W2.cell? ⟨bo, 0, none⟩ = some (.int .i64 (k.refs v : Int)) := act_cells S2.out.2.2.1 0 _ (fr9_at _ _ 0 (by omega))
  have KEEP : Hid ((wr = false ∨ k.refs v = 1) → SetP b r q n wr m k w (.returned (errV 0)) W2) := Hid.intro (fun c => ⟨0, v, m, k, rfl, .inl ⟨by rw [HF.out.2.2]; omega, by rw [HF.out.2.2, Nat.add_sub_cancel]; exact c, rfl, by rw [HF.out.2.2, Nat.add_sub_cancel], rfl, rfl⟩, S2.out.1, S2.out.2.1⟩)
  cases wr
  · have KP := Hid.intro (KEEP.out (.inl rfl))
    clear KEEP
    go_wp2_with fail
    go_ret
    exact KP.out
  · by_cases r1 : k.refs v = 1
    · rw [r1] at o0
      have o0' : W2.cell? ⟨bo, 0, none⟩ = some (.int .i64 1) := o0
      have KP := Hid.intro (KEEP.out (.inr r1))
      clear o0 r1 KEEP
      go_wp2_with fail
      go_ret
      exact KP.out
    · have r1' : ((k.refs v : Int) == 1) = false := by simp; omega
      have HN : Hid (¬ (m.fr n ≠ 0 ∧ (true = false ∨ k.refs (m.fr n - 1) = 1))) := Hid.intro (by
        rw [HF.out.2.2, Nat.add_sub_cancel]
        rintro ⟨_, c | c⟩
        · cases c
        · exact r1 c)
      have d0 := S2.out.1.me.cBank
      have o1 : W2.cell? ⟨bo, 1, none⟩ = some (.int .u8 (k.byt v 0)) := act_cells S2.out.2.2.1 1 _ (fr9_at _ _ 1 (by omega))
      have o2 : W2.cell? ⟨bo, 2, none⟩ = some (.int .u8 (k.byt v 1)) := act_cells S2.out.2.2.1 2 _ (fr9_at _ _ 2 (by omega))
      have o3 : W2.cell? ⟨bo, 3, none⟩ = some (.int .u8 (k.byt v 2)) := act_cells S2.out.2.2.1 3 _ (fr9_at _ _ 3 (by omega))
      have o4 : W2.cell? ⟨bo, 4, none⟩ = some (.int .u8 (k.byt v 3)) := act_cells S2.out.2.2.1 4 _ (fr9_at _ _ 4 (by omega))
      have o5 : W2.cell? ⟨bo, 5, none⟩ = some (.int .u8 (k.byt v 4)) := act_cells S2.out.2.2.1 5 _ (fr9_at _ _ 5 (by omega))
      have o6 : W2.cell? ⟨bo, 6, none⟩ = some (.int .u8 (k.byt v 5)) := act_cells S2.out.2.2.1 6 _ (fr9_at _ _ 6 (by omega))
      have o7 : W2.cell? ⟨bo, 7, none⟩ = some (.int .u8 (k.byt v 6)) := act_cells S2.out.2.2.1 7 _ (fr9_at _ _ 7 (by omega))
      have o8 : W2.cell? ⟨bo, 8, none⟩ = some (.int .u8 (k.byt v 7)) := act_cells S2.out.2.2.1 8 _ (fr9_at _ _ 8 (by omega))
      have TK := Hid.intro (fun W (hW : VAt W r q k) => vtake_any r q (k.byt v) k W hW HF.out.2.1.inv HF.out.2.1.nb)
      generalize k.refs v = rv at o0 r1'
      clear r1 KEEP
      go_wp2_with fail
      go_region_with ((go_at_call 148; refine (TK.out _ (by first | exact S2.out.1.bk.drew | exact S2.out.1.bk)).mono ?_; rintro e w3 ⟨g, E, k1, rfl, ht, hk, F⟩; have H3 : Hid (Mv.TakV k (k.byt v) E g k1 ∧ VAt w3 r q k1 ∧ Two r q W2 w3) := Hid.intro ⟨ht, hk, (by first | exact F | exact ((Two.refl r q W2).drew).trans F)⟩; clear ht hk F))
      all_goals
        clear d0 o0 o1 o2 o3 o4 o5 o6 o7 o8 r1' TK
        have HM : Hid (UB w3 b r q m k1 ∧ Thr b r q w w3) := Hid.intro ⟨⟨S2.out.1.me.two H3.out.2.2 S2.out.1.br S2.out.1.bq, H3.out.2.1, S2.out.1.br, S2.out.1.bq⟩, S2.out.2.1.trans (Thr.bank H3.out.2.2)⟩
        have c0 := HM.out.1.me.cBank
        have c1 := HM.out.1.me.cFr n hn
        rw [HF.out.2.2, show ((v + 1 : Nat) : Int) - 1 = (v : Int) by omega] at c1
        have tkv : k.pool.tk v = true := HF.out.2.1.hold v v64 (by have := HF.out.2.1.held n hn (by rw [HF.out.2.2]; omega); rw [HF.out.2.2, Nat.add_sub_cancel] at this; exact this.1)
        obtain ⟨kk, hkk, hc⟩ := TakV_cpy H3.out.1 tkv
        have HK := Hid.intro (And.intro hkk hc)
        clear tkv hkk hc
        by_cases e0 : E = 0
        · subst e0
          have LV : Hid (Bd.Inv k1.pool ∧ 1 ≤ k1.refs v ∧ k1.refs v < 2 ^ 60) := Hid.intro (by
            obtain ⟨p', h1, h2⟩ := H3.out.1
            have hi := HF.out.2.1.inv.take HF.out.2.1.nb h1
            have hh := HF.out.2.1.held n hn (by rw [HF.out.2.2]; omega)
            rw [HF.out.2.2, Nat.add_sub_cancel] at hh
            rw [if_pos rfl] at h2
            subst h2
            refine ⟨hi.1, ?_⟩
            show 1 ≤ (if v = g then 1 else k.refs v) ∧ (if v = g then 1 else k.refs v) < 2 ^ 60
            split <;> omega)
          rw [errV_zero]
          go_wp2_with fail
          go_region_with ((go_at_call 85; refine (vleave_any r q v k1 _ (by first | exact HM.out.1.bk.drew | exact HM.out.1.bk) v64 LV.out.1 LV.out.2.1 LV.out.2.2).mono ?_; rintro e w4 ⟨rfl, hk4, F4⟩; have H4 : Hid (VAt w4 r q (Mv.drp k1 v) ∧ Two r q w3 w4) := Hid.intro ⟨hk4, (by first | exact F4 | exact ((Two.refl r q w3).drew).trans F4)⟩; clear hk4 F4))
          all_goals
            clear c0 c1
            have S3 : Hid (UB w4 b r q m (Mv.drp k1 v) ∧ Thr b r q w w4) := Hid.intro ⟨⟨HM.out.1.me.two H4.out.2 S2.out.1.br S2.out.1.bq, H4.out.1, S2.out.1.br, S2.out.1.bq⟩, HM.out.2.trans (Thr.bank H4.out.2)⟩
            have d1 := S3.out.1.me.cFr n hn
            have df := S3.out.1.me.frozen
            have S4 : Hid (UB (w4.setCell ⟨b, 1 + n * 2 + 1, none⟩ (.int .i64 (g : Int))) b r q { m with fr := upn m.fr n (g + 1) } (Mv.drp k1 v) ∧ Thr b r q w (w4.setCell ⟨b, 1 + n * 2 + 1, none⟩ (.int .i64 (g : Int)))) := Hid.intro (by
              have f : Frm b w4 (w4.setCell ⟨b, 1 + n * 2 + 1, none⟩ (.int .i64 (g : Int))) := (Frm.refl b w4).setCell _ _
              exact ⟨⟨S3.out.1.me.setFr n (g + 1) hn _ (by omega), S3.out.1.bk.frm f S3.out.1.br S3.out.1.bq, S3.out.1.br, S3.out.1.bq⟩, S3.out.2.trans (Thr.mem f)⟩)
            go_wp2_with fail
            go_ret
            refine ⟨0, g, _, _, rfl, .inr ⟨HN.out, kk, HK.out.1, .inr ⟨rfl, rfl, ?_⟩⟩, S4.out.1, S4.out.2⟩
            rcases HK.out.2 with ⟨c, _⟩ | ⟨_, c, _⟩
            · exact absurd rfl c
            · rw [HF.out.2.2, if_neg (by omega), Nat.add_sub_cancel, c]
        · rw [errV_ne e0]
          have HE := Hid.intro e0
          clear e0
          go_wp2_with fail
          go_ret
          refine ⟨E, g, _, _, by rw [errV_ne HE.out]; rfl, .inr ⟨HN.out, kk, HK.out.1, .inl ⟨HE.out, rfl, ?_⟩⟩, HM.out.1, HM.out.2⟩
          rcases HK.out.2 with ⟨_, c⟩ | ⟨c, _⟩
          · exact c
          · exact absurd c HE.out
theorem vsettle_any (b r q n : Nat) (wr : Bool) (m : Me) (k : Bk) (w : World) (h : UB w b r q m k) (G : GoodC m k) (hn : n < 16) :
    Calls Try.prog 130 #[.pointer (some ⟨b, 0, none⟩), .pointer (some ⟨b, 1 + n * 2, none⟩), .bool wr] w (SetP b r q n wr m k w) := by
  by_cases c : m.fr n = 0
  · exact settle_new b r q n wr m k w h G hn c
  · exact settle_has b r q n (m.fr n - 1) wr m k w h G hn (by omega)
end Go.Proofs.Ytnppahmlifnnnab

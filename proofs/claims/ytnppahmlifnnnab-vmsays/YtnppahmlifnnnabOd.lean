/- The law TopVm: what it has in its hands: a bank, memories, their pointers in a row, and a row of the bytes that each should have. -/
import Derived.Test.YtnppahmlifnnnabOc
namespace Go.Proofs.Ytnppahmlifnnnab
open Go.RowKit
open Bd (P)
open Mv (Me Bk)

theorem blk_ne {W : World} {a b : Nat} {C D : Array Value} {T U : TypeId} {f g : Nat × Nat} (h1 : W.heap[a]? = some (.cells C T f)) (h2 : W.heap[b]? = some (.cells D U g)) (hT : T ≠ U) : a ≠ b := fun e => by
  subst e
  rw [h1] at h2
  injection h2 with h3
  injection h3 with _ h4
  exact hT h4
def ptrs (bs : Nat → Nat) (N : Nat) : List Value := (List.range N).map fun i => Value.pointer (some ⟨bs i, 0, none⟩)
theorem ptrs_at (bs : Nat → Nat) (N i : Nat) (h : i < N) : (ptrs bs N)[i]? = some (.pointer (some ⟨bs i, 0, none⟩)) := by simp [ptrs, h]
def flatV (fl : Nat → Nat → Int) (o : Nat) : Value := .int .u8 (fl (o / 128) (o % 128))
def flats (fl : Nat → Nat → Int) (N : Nat) : List Value := (List.range (N * 128)).map (flatV fl)
theorem flats_at (fl : Nat → Nat → Int) (N i x : Nat) (h : i < N) (hx : x < 128) : (flats fl N)[i * 128 + x]? = some (.int .u8 (fl i x)) := by
  simp only [flats, List.getElem?_map]
  rw [List.getElem?_range (by omega)]
  simp only [Option.map_some, flatV]
  rw [show (i * 128 + x) / 128 = i by omega, show (i * 128 + x) % 128 = x by omega]
theorem flats_set (fl : Nat → Nat → Int) (N i x : Nat) (v : Int) (h : i < N) (hx : x < 128) : (flats fl N).set (i * 128 + x) (.int .u8 v) = flats (Mv.updF fl i x v) N := by
  apply List.ext_getElem?
  intro o
  by_cases ho : o < N * 128
  · obtain ⟨j, y, rfl, hj, hy⟩ : ∃ j y, o = j * 128 + y ∧ j < N ∧ y < 128 := ⟨o / 128, o % 128, by omega, by omega, by omega⟩
    rw [flats_at _ N j y hj hy]
    by_cases c : j * 128 + y = i * 128 + x
    · obtain ⟨rfl, rfl⟩ : j = i ∧ y = x := by omega
      rw [List.getElem?_set_self (by simp [flats]; omega)]
      unfold Mv.updF
      rw [if_pos ⟨rfl, rfl⟩]
    · rw [List.getElem?_set_ne (fun e => c e.symm), flats_at fl N j y hj hy]
      unfold Mv.updF
      rw [if_neg (fun e => c (by rw [e.1, e.2]))]
  · rw [List.getElem?_eq_none (by simp [flats]; omega), List.getElem?_eq_none (by simp [flats]; omega)]
/-- The bank, N memories; M rows of bytes. -/
structure VY (w W : World) (r q gm cm gf cf N M : Nat) (bs : Nat → Nat) (me : Nat → Me) (k : Bk) (fl : Nat → Nat → Int) : Prop where
  bel : Below w.heap.size w W
  all : AllM W r q gm N bs me k
  lo : w.heap.size ≤ r ∧ w.heap.size ≤ q ∧ ∀ i, i < N → w.heap.size ≤ bs i
  own : W.ownsRow w.heap.size 29 1 (.slice (some ⟨gm, 0, none⟩) N cm) N (ptrs bs N)
  flat : W.ownsRow w.heap.size 64 128 (.slice (some ⟨gf, 0, none⟩) M cf) M (flats fl M)
theorem ownsRow_blk {W : World} {B e size g n c m : Nat} {xs : List Value} (h : W.ownsRow B e size (.slice (some ⟨g, 0, none⟩) n c) m xs) : (∃ C, W.heap[g]? = some (.cells C e (0, 0))) ∧ B ≤ g ∧ g < W.heap.size := by
  rcases h.2 with ⟨h', _⟩ | ⟨g', c', cur, h', hb, hg, _⟩
  · cases h'
  · simp only [Value.slice.injEq, Option.some.injEq, Addr.mk.injEq, and_true] at h'
    obtain ⟨rfl, rfl, rfl⟩ := h'
    exact ⟨⟨cur, hg⟩, hb, (Array.getElem?_eq_some_iff.1 hg).1⟩
theorem ownsRow_same {W W' : World} {B e size g n c m : Nat} {xs : List Value} (h : W.ownsRow B e size (.slice (some ⟨g, 0, none⟩) n c) m xs) (hs : W'.heap[g]? = W.heap[g]?) : W'.ownsRow B e size (.slice (some ⟨g, 0, none⟩) n c) m xs := by
  rcases h with ⟨h1, ⟨h', _⟩ | ⟨g', c', cur, h', hb, hg, hr⟩⟩
  · cases h'
  · have h2 := h'
    simp only [Value.slice.injEq, Option.some.injEq, Addr.mk.injEq, and_true] at h2
    obtain ⟨rfl, rfl, rfl⟩ := h2
    exact ⟨h1, .inr ⟨_, _, cur, rfl, hb, by rw [hs]; exact hg, hr⟩⟩
section
variable {w W W' : World} {r q gm cm gf cf N M : Nat} {bs : Nat → Nat} {me : Nat → Me} {k k' : Bk} {fl : Nat → Nat → Int}
theorem VY.cell (h : VY w W r q gm cm gf cf N M bs me k fl) (i : Nat) (hi : i < N) : W.cell? ⟨gm, i, none⟩ = some (.pointer (some ⟨bs i, 0, none⟩)) := h.all.row i hi
theorem VY.byte (h : VY w W r q gm cm gf cf N M bs me k fl) (i x : Nat) (hi : i < M) (hx : x < 128) : W.cell? ⟨gf, i * 128 + x, none⟩ = some (.int .u8 (fl i x)) := by
  rw [h.flat.cellAt _ (by omega), flats_at fl M i x hi hx]
theorem VY.froz (h : VY w W r q gm cm gf cf N M bs me k fl) (o : Nat) : W.frozen? ⟨gf, o, none⟩ = false := h.flat.frozenAt o
/-- All five kinds of blocks lie apart. -/
theorem VY.apart (h : VY w W r q gm cm gf cf N M bs me k fl) : gm ≠ r ∧ gm ≠ q ∧ gf ≠ r ∧ gf ≠ q ∧ gm ≠ gf ∧ ∀ i, i < N → gm ≠ bs i ∧ gf ≠ bs i := by
  obtain ⟨⟨Cm, hm⟩, _, _⟩ := ownsRow_blk h.own
  obtain ⟨⟨Cf, hf⟩, _, _⟩ := ownsRow_blk h.flat
  obtain ⟨Cr, hr, _⟩ := h.all.bk.blk
  obtain ⟨Cq, hq, _⟩ := CA.blk h.all.bk.pool
  exact ⟨blk_ne hm hr (by decide), blk_ne hm hq (by decide), blk_ne hf hr (by decide), blk_ne hf hq (by decide), blk_ne hm hf (by decide), fun i hi => by
    obtain ⟨Cb, hb, _⟩ := (h.all.mem i hi).1.blk
    exact ⟨blk_ne hm hb (by decide), blk_ne hf hb (by decide)⟩⟩
theorem VY.ub (h : VY w W r q gm cm gf cf N M bs me k fl) {i : Nat} (hi : i < N) : UB W (bs i) r q (me i) k := ⟨(h.all.mem i hi).1, h.all.bk, (h.all.mem i hi).2.1, (h.all.mem i hi).2.2⟩
theorem VY.below (h : VY w W r q gm cm gf cf N M bs me k fl) (B : Below W.heap.size W W') : VY w W' r q gm cm gf cf N M bs me k fl :=
  ⟨h.bel.trans (B.mono h.bel.size), h.all.below B, h.lo, ownsRow_same h.own (B.block _ (ownsRow_blk h.own).2.2), ownsRow_same h.flat (B.block _ (ownsRow_blk h.flat).2.2)⟩
/-- One memory, and the bank, have turned. -/
theorem VY.thr (h : VY w W r q gm cm gf cf N M bs me k fl) {i : Nat} (hi : i < N) {m' : Me} (u : UB W' (bs i) r q m' k') (t : Thr (bs i) r q W W') : VY w W' r q gm cm gf cf N M bs (Mv.setP me i m') k' fl := by
  have ap := h.apart
  have l := h.lo
  have bm := (ownsRow_blk h.own).2.2
  have bf := (ownsRow_blk h.flat).2.2
  have li := l.2.2 i hi
  have em : W'.heap[gm]? = W.heap[gm]? := t.block gm bm (ap.2.2.2.2.2 i hi).1 ap.1 ap.2.1
  have ef : W'.heap[gf]? = W.heap[gf]? := t.block gf bf (ap.2.2.2.2.2 i hi).2 ap.2.2.1 ap.2.2.2.1
  have bel : Below w.heap.size w W' := h.bel.trans ⟨t.os, t.tape, t.output, t.size, fun j hj => t.block j (Nat.lt_of_lt_of_le hj h.bel.size) (by omega) (by omega) (by omega)⟩
  refine ⟨bel, ⟨u.bk, fun j hj => ?_, h.all.inj, fun j hj => (World.cell?_of_block em).trans (h.all.row j hj), Nat.lt_of_lt_of_le h.all.gl t.size⟩, l, ownsRow_same h.own em, ownsRow_same h.flat ef⟩
  by_cases c : j = i
  · subst c; rw [Mv.setP_same]; exact ⟨u.me, u.br, u.bq⟩
  · rw [Mv.setP_ne _ _ _ _ c]
    have hm := h.all.mem j hj
    exact ⟨hm.1.same (t.block _ hm.1.lt (h.all.inj j i hj hi c) hm.2.1 hm.2.2), hm.2⟩
/-- A byte of the row is written. -/
theorem VY.put (h : VY w W r q gm cm gf cf N M bs me k fl) (i x : Nat) (v : Int) (hi : i < M) (hx : x < 128) : VY w (W.setCell ⟨gf, i * 128 + x, none⟩ (.int .u8 v)) r q gm cm gf cf N M bs me k (Mv.updF fl i x v) := by
  have ap := h.apart
  have s := h.flat.stored (i * 128 + x) (.int .u8 v)
  rw [flats_set fl M i x v hi hx] at s
  have hb := (ownsRow_blk h.flat).2
  refine ⟨h.bel.setCell (by show _ ≤ gf; exact hb.1) _, ⟨h.all.bk.same (setBlk _ _ _ _ (Ne.symm ap.2.2.1)) (setBlk _ _ _ _ (Ne.symm ap.2.2.2.1)), fun j hj => ⟨(h.all.mem j hj).1.same (setBlk _ _ _ _ (Ne.symm (ap.2.2.2.2.2 j hj).2)), (h.all.mem j hj).2⟩, h.all.inj, fun j hj => (World.cell?_of_block (setBlk _ _ _ _ ap.2.2.2.2.1)).trans (h.all.row j hj), by simpa [World.setCell] using h.all.gl⟩, h.lo, ownsRow_same h.own (setBlk _ _ _ _ ap.2.2.2.2.1), s.1⟩
theorem setP_id (me : Nat → Me) (i : Nat) : Mv.setP me i (me i) = me := by
  funext j
  unfold Mv.setP
  by_cases c : j = i
  · rw [if_pos c, c]
  · rw [if_neg c]
/-- A memory is forked: its pages are held once more; the new one lies in block b. -/
theorem VY.forked (h : VY w W r q gm cm gf cf N M bs me k fl) {i : Nat} (hi : i < N) (u : UB W' (bs i) r q (me i) k') (t : Frm r W W') : VY w W' r q gm cm gf cf N M bs me k' fl := by
  have := h.thr hi u ⟨t.os, t.tape, t.output, t.size, fun j hj _ h2 _ => t.block j hj h2⟩
  rw [setP_id] at this
  exact this
def addB (bs : Nat → Nat) (N b : Nat) : Nat → Nat := fun j => if j = N then b else bs j
theorem ptrs_more (bs : Nat → Nat) (N b : Nat) : ptrs (addB bs N b) (N + 1) = ptrs bs N ++ [.pointer (some ⟨b, 0, none⟩)] := by
  unfold ptrs
  rw [List.range_succ, List.map_append]
  congr 1
  · refine List.map_congr_left (fun j hj => ?_)
    have := List.mem_range.1 hj
    rw [show addB bs N b j = bs j from if_neg (by omega)]
  · simp [addB]
def rowF (f : Nat → Int) : List Value := (List.range 128).map fun x => Value.int .u8 (f x)
theorem rowF_len (f : Nat → Int) : (rowF f).length = 128 := by simp [rowF]
theorem rowF_at (f : Nat → Int) (x : Nat) (h : x < 128) : (rowF f)[x]? = some (.int .u8 (f x)) := by simp [rowF, h]
def addF (fl : Nat → Nat → Int) (N i : Nat) : Nat → Nat → Int := fun j => if j = N then fl i else fl j
theorem flats_more (fl : Nat → Nat → Int) (N i : Nat) : flats (addF fl N i) (N + 1) = flats fl N ++ rowF (fl i) := by
  apply List.ext_getElem?
  intro o
  have l1 : (flats fl N).length = N * 128 := by simp [flats]
  by_cases ho : o < (N + 1) * 128
  · obtain ⟨j, y, rfl, hj, hy⟩ : ∃ j y, o = j * 128 + y ∧ j < N + 1 ∧ y < 128 := ⟨o / 128, o % 128, by omega, by omega, by omega⟩
    rw [flats_at _ (N + 1) j y hj hy]
    by_cases c : j = N
    · subst c
      rw [List.getElem?_append_right (by omega), l1, show j * 128 + y - j * 128 = y by omega, rowF_at _ y hy]
      unfold addF
      rw [if_pos rfl]
    · rw [List.getElem?_append_left (by omega), flats_at fl N j y (by omega) hy]
      unfold addF
      rw [if_neg c]
  · rw [List.getElem?_eq_none (by simp [flats]; omega), List.getElem?_eq_none (by rw [List.length_append, l1, rowF_len]; omega)]
/-- .. and its pointer comes to the row. -/
theorem VY.more (h : VY w W r q gm cm gf cf N M bs me k fl) {b g c : Nat} {m : Me} (hb : UAt W b r m) (hn : ∀ j, j < N → bs j ≠ b) (lo : w.heap.size ≤ b) (o : Obj) {W2 : World}
    (hown : W2.ownsRow w.heap.size 29 1 (.slice (some ⟨g, 0, none⟩) (N + 1) c) (N + 1) (ptrs bs N ++ [.pointer (some ⟨b, 0, none⟩)])) (hg : (W.alloc o).grownBy W2 (some gm)) :
    VY w W2 r q g c gf cf (N + 1) M (addB bs N b) (Mv.setP me N m) k fl := by
  have ap := h.apart
  have sz : W.heap.size ≤ W2.heap.size := by have := hg.size; simp at this; omega
  have bl : ∀ j, j < W.heap.size → j ≠ gm → W2.heap[j]? = W.heap[j]? := fun j hj hne => (hg.block j (by simp; omega) (fun e => hne (by injection e))).trans (heap_alloc_old W o hj)
  have lm := (ownsRow_blk h.own).2
  have hbm : b ≠ gm := by
    obtain ⟨⟨Cm, hm⟩, _⟩ := ownsRow_blk h.own
    obtain ⟨Cb, hb, _⟩ := hb.blk
    exact blk_ne hb hm (by decide)
  have hbr : b ≠ r := by
    obtain ⟨Cb, hb, _⟩ := hb.blk
    obtain ⟨Cr, hr, _⟩ := h.all.bk.blk
    exact blk_ne hb hr (by decide)
  have hbq : b ≠ q := by
    obtain ⟨Cb, hb, _⟩ := hb.blk
    obtain ⟨Cq, hq, _⟩ := CA.blk h.all.bk.pool
    exact blk_ne hb hq (by decide)
  rw [← ptrs_more] at hown
  have ab : ∀ j, j < N → addB bs N b j = bs j := fun j hj => if_neg (by omega)
  have an : addB bs N b N = b := if_pos rfl
  refine ⟨h.bel.trans ⟨hg.os, hg.tape, hg.output, sz, fun j hj => bl j (Nat.lt_of_lt_of_le hj h.bel.size) (by omega)⟩, ⟨h.all.bk.same (bl r h.all.bk.lt (Ne.symm ap.1)) (bl q h.all.bk.ltq (Ne.symm ap.2.1)), fun j hj => ?_, fun i j hi hj ne => ?_, fun j hj => ?_, (ownsRow_blk hown).2.2⟩, ⟨h.lo.1, h.lo.2.1, fun j hj => ?_⟩, hown, ownsRow_same h.flat (bl gf (ownsRow_blk h.flat).2.2 (Ne.symm ap.2.2.2.2.1))⟩
  · by_cases e : j = N
    · subst e; rw [an, Mv.setP_same]; exact ⟨hb.same (bl b hb.lt hbm), hbr, hbq⟩
    · have hm := h.all.mem j (by omega)
      rw [ab j (by omega), Mv.setP_ne _ _ _ _ e]
      exact ⟨hm.1.same (bl _ hm.1.lt (Ne.symm (ap.2.2.2.2.2 j (by omega)).1)), hm.2⟩
  · by_cases e : i = N
    · subst e
      rw [an, ab j (by omega)]
      exact Ne.symm (hn j (by omega))
    · by_cases e2 : j = N
      · subst e2
        rw [an, ab i (by omega)]
        exact hn i (by omega)
      · rw [ab i (by omega), ab j (by omega)]
        exact h.all.inj i j (by omega) (by omega) ne
  · rw [hown.cellAt j (by omega)]
    exact ptrs_at _ _ j hj
  · by_cases e : j = N
    · subst e; rw [an]; exact lo
    · rw [ab j (by omega)]; exact h.lo.2.2 j (by omega)
/-- .. and its bytes to theirs. -/
theorem VY.more2 (h : VY w W r q gm cm gf cf N M bs me k fl) {i g c : Nat} (o : Obj) {W2 : World}
    (hown : W2.ownsRow w.heap.size 64 128 (.slice (some ⟨g, 0, none⟩) (M + 1) c) (M + 1) (flats fl M ++ rowF (fl i))) (hg : (W.alloc o).grownBy W2 (some gf)) :
    VY w W2 r q gm cm g c N (M + 1) bs me k (addF fl M i) := by
  have ap := h.apart
  have sz : W.heap.size ≤ W2.heap.size := by have := hg.size; simp at this; omega
  have bl : ∀ j, j < W.heap.size → j ≠ gf → W2.heap[j]? = W.heap[j]? := fun j hj hne => (hg.block j (by simp; omega) (fun e => hne (by injection e))).trans (heap_alloc_old W o hj)
  have lf := (ownsRow_blk h.flat).2
  have em := bl gm (ownsRow_blk h.own).2.2 ap.2.2.2.2.1
  rw [← flats_more] at hown
  refine ⟨h.bel.trans ⟨hg.os, hg.tape, hg.output, sz, fun j hj => bl j (Nat.lt_of_lt_of_le hj h.bel.size) (by omega)⟩, ⟨h.all.bk.same (bl r h.all.bk.lt (Ne.symm ap.2.2.1)) (bl q h.all.bk.ltq (Ne.symm ap.2.2.2.1)), fun j hj => ⟨(h.all.mem j hj).1.same (bl _ (h.all.mem j hj).1.lt (Ne.symm (ap.2.2.2.2.2 j hj).2)), (h.all.mem j hj).2⟩, h.all.inj, fun j hj => (World.cell?_of_block em).trans (h.all.row j hj), Nat.lt_of_lt_of_le h.all.gl sz⟩, h.lo, ownsRow_same h.own em, hown⟩
end
theorem mapM_fr (m : Me) (a n : Int) (t : Bool) : (Mv.mapM m a n t).fr = m.fr := by unfold Mv.mapM; split <;> rfl
theorem proM_fr (m : Me) (a n : Int) (t : Bool) : (Mv.proM m a n t).fr = m.fr := by unfold Mv.proM; split <;> rfl
end Go.Proofs.Ytnppahmlifnnnab

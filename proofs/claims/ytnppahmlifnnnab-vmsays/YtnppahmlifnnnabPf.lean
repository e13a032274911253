/- The law VmSays: the code's memories and the document's own, side by side. -/
import Derived.Test.YtnppahmlifnnnabPe
import Derived.Test.YtnppahmlifnnnabOd
namespace Go.Proofs.Ytnppahmlifnnnab
open Go.RowKit
open Bd (P)
open Mv (Me Bk)

/-- The code's side: a bank, N memories, their pointers in a row. -/
structure CS (w W : World) (r q gm cm N : Nat) (bs : Nat → Nat) (me : Nat → Me) (k : Bk) : Prop where
  bel : Below w.heap.size w W
  all : AllM W r q gm N bs me k
  lo : w.heap.size ≤ r ∧ w.heap.size ≤ q ∧ ∀ i, i < N → w.heap.size ≤ bs i
  own : W.ownsRow w.heap.size 29 1 (.slice (some ⟨gm, 0, none⟩) N cm) N (ptrs bs N)
/-- The document's own side. -/
structure RS (w W : World) (r q gm cm N : Nat) (bs : Nat → Nat) (me : Nat → Me) (ow : Nat → Nat → Bool) (k : Bk) : Prop where
  bel : Below w.heap.size w W
  bk : NAt W r q k
  mem : ∀ i, i < N → MAt W (bs i) r (me i) (ow i) ∧ bs i ≠ r ∧ bs i ≠ q
  inj : ∀ i j, i < N → j < N → i ≠ j → bs i ≠ bs j
  lo : w.heap.size ≤ r ∧ w.heap.size ≤ q ∧ ∀ i, i < N → w.heap.size ≤ bs i
  own : W.ownsRow w.heap.size 32 1 (.slice (some ⟨gm, 0, none⟩) N cm) N (ptrs bs N)
def codeT (T : TypeId) : Prop := T = 110 ∨ T = 134 ∨ T = 116 ∨ T = 29
def refT (T : TypeId) : Prop := T = 50 ∨ T = 125 ∨ T = 36 ∨ T = 32
theorem code_ref {T U : TypeId} (h : codeT T) (k : refT U) : T ≠ U := by
  rcases h with rfl | rfl | rfl | rfl <;> rcases k with rfl | rfl | rfl | rfl <;> decide
/-- Blocks of such types are as they were. -/
def Kept (p : TypeId → Prop) (W W' : World) : Prop := ∀ (j : Nat) (C : Array Value) (T : TypeId), W.heap[j]? = some (Obj.cells C T (0, 0)) → p T → W'.heap[j]? = W.heap[j]?
section
variable {w W W' : World} {r q gm cm N : Nat} {bs : Nat → Nat} {me : Nat → Me} {k k' : Bk} {ow : Nat → Nat → Bool}
theorem CS.keep (h : CS w W r q gm cm N bs me k) (e : Kept codeT W W') (B : Below w.heap.size w W') (hs : W.heap.size ≤ W'.heap.size) : CS w W' r q gm cm N bs me k := by
  obtain ⟨Cr, hr, _⟩ := h.all.bk.blk
  obtain ⟨Cq, hq, _⟩ := CA.blk h.all.bk.pool
  obtain ⟨⟨Cm, hm⟩, _, hml⟩ := ownsRow_blk h.own
  have em := e gm _ _ hm (.inr (.inr (.inr rfl)))
  exact ⟨B, ⟨h.all.bk.same (e r _ _ hr (.inl rfl)) (e q _ _ hq (.inr (.inl rfl))), fun i hi => by
    obtain ⟨Cb, hb, _⟩ := (h.all.mem i hi).1.blk
    exact ⟨(h.all.mem i hi).1.same (e _ _ _ hb (.inr (.inr (.inl rfl)))), (h.all.mem i hi).2⟩, h.all.inj, fun i hi => (World.cell?_of_block em).trans (h.all.row i hi), Nat.lt_of_lt_of_le h.all.gl hs⟩, h.lo, ownsRow_same h.own em⟩
theorem RS.keep (h : RS w W r q gm cm N bs me ow k) (e : Kept refT W W') (B : Below w.heap.size w W') : RS w W' r q gm cm N bs me ow k := by
  obtain ⟨Cr, hr, _⟩ := h.bk.blk
  obtain ⟨Cq, hq, _⟩ := h.bk.pool.blk
  obtain ⟨⟨Cm, hm⟩, _, hml⟩ := ownsRow_blk h.own
  have em := e gm _ _ hm (.inr (.inr (.inr rfl)))
  exact ⟨B, h.bk.same (e r _ _ hr (.inl rfl)) (e q _ _ hq (.inr (.inl rfl))), fun i hi => by
    obtain ⟨Cb, hb, _⟩ := (h.mem i hi).1.blk
    exact ⟨(h.mem i hi).1.same (e _ _ _ hb (.inr (.inr (.inl rfl)))), (h.mem i hi).2⟩, h.inj, h.lo, ownsRow_same h.own em⟩
theorem Kept.below {p : TypeId → Prop} (b : Below W.heap.size W W') : Kept p W W' := fun j _ _ hj _ => b.block j (Array.getElem?_eq_some_iff.1 hj).1
theorem CS.below (h : CS w W r q gm cm N bs me k) (b : Below W.heap.size W W') : CS w W' r q gm cm N bs me k := h.keep (Kept.below b) (h.bel.trans (b.mono h.bel.size)) b.size
theorem RS.below (h : RS w W r q gm cm N bs me ow k) (b : Below W.heap.size W W') : RS w W' r q gm cm N bs me ow k := h.keep (Kept.below b) (h.bel.trans (b.mono h.bel.size))
theorem CS.cell (h : CS w W r q gm cm N bs me k) (i : Nat) (hi : i < N) : W.cell? ⟨gm, i, none⟩ = some (.pointer (some ⟨bs i, 0, none⟩)) := h.all.row i hi
theorem RS.cell (h : RS w W r q gm cm N bs me ow k) (i : Nat) (hi : i < N) : W.cell? ⟨gm, i, none⟩ = some (.pointer (some ⟨bs i, 0, none⟩)) := by
  rw [h.own.cellAt i (by omega)]
  exact ptrs_at _ _ i hi
theorem CS.ub (h : CS w W r q gm cm N bs me k) {i : Nat} (hi : i < N) : UB W (bs i) r q (me i) k := ⟨(h.all.mem i hi).1, h.all.bk, (h.all.mem i hi).2.1, (h.all.mem i hi).2.2⟩
theorem RS.mb (h : RS w W r q gm cm N bs me ow k) {i : Nat} (hi : i < N) : MB W (bs i) r q (me i) (ow i) k := ⟨(h.mem i hi).1, h.bk, (h.mem i hi).2.1, (h.mem i hi).2.2⟩
/-- What the code's side turns leaves the other one. -/
theorem CS.kept (h : CS w W r q gm cm N bs me k) {i : Nat} (hi : i < N) (t : Thr (bs i) r q W W') : Kept refT W W' ∧ Below w.heap.size w W' := by
  obtain ⟨Cr, hr, _⟩ := h.all.bk.blk
  obtain ⟨Cq, hq, _⟩ := CA.blk h.all.bk.pool
  obtain ⟨Cb, hb, _⟩ := (h.all.mem i hi).1.blk
  have l := h.lo
  have li := l.2.2 i hi
  exact ⟨fun j C T hj hT => t.block j (Array.getElem?_eq_some_iff.1 hj).1 (blk_ne hj hb (code_ref (.inr (.inr (.inl rfl))) hT).symm) (blk_ne hj hr (code_ref (.inl rfl) hT).symm) (blk_ne hj hq (code_ref (.inr (.inl rfl)) hT).symm), h.bel.trans ⟨t.os, t.tape, t.output, t.size, fun j hj => t.block j (Nat.lt_of_lt_of_le hj h.bel.size) (by omega) (by omega) (by omega)⟩⟩
theorem RS.kept (h : RS w W r q gm cm N bs me ow k) {i : Nat} (hi : i < N) (t : Thr (bs i) r q W W') : Kept codeT W W' ∧ Below w.heap.size w W' := by
  obtain ⟨Cr, hr, _⟩ := h.bk.blk
  obtain ⟨Cq, hq, _⟩ := h.bk.pool.blk
  obtain ⟨Cb, hb, _⟩ := (h.mem i hi).1.blk
  have l := h.lo
  have li := l.2.2 i hi
  exact ⟨fun j C T hj hT => t.block j (Array.getElem?_eq_some_iff.1 hj).1 (blk_ne hj hb (code_ref hT (.inr (.inr (.inl rfl))))) (blk_ne hj hr (code_ref hT (.inl rfl))) (blk_ne hj hq (code_ref hT (.inr (.inl rfl)))), h.bel.trans ⟨t.os, t.tape, t.output, t.size, fun j hj => t.block j (Nat.lt_of_lt_of_le hj h.bel.size) (by omega) (by omega) (by omega)⟩⟩
theorem CS.thr (h : CS w W r q gm cm N bs me k) {i : Nat} (hi : i < N) {m' : Me} (u : UB W' (bs i) r q m' k') (t : Thr (bs i) r q W W') : CS w W' r q gm cm N bs (Mv.setP me i m') k' := by
  obtain ⟨Cr, hr, _⟩ := h.all.bk.blk
  obtain ⟨Cq, hq, _⟩ := CA.blk h.all.bk.pool
  obtain ⟨Cb, hb, _⟩ := (h.all.mem i hi).1.blk
  obtain ⟨⟨Cm, hm⟩, _, hml⟩ := ownsRow_blk h.own
  have em : W'.heap[gm]? = W.heap[gm]? := t.block gm hml (blk_ne hm hb (by decide)) (blk_ne hm hr (by decide)) (blk_ne hm hq (by decide))
  refine ⟨(h.kept hi t).2, ⟨u.bk, fun j hj => ?_, h.all.inj, fun j hj => (World.cell?_of_block em).trans (h.all.row j hj), Nat.lt_of_lt_of_le h.all.gl t.size⟩, h.lo, ownsRow_same h.own em⟩
  by_cases c : j = i
  · subst c; rw [Mv.setP_same]; exact ⟨u.me, u.br, u.bq⟩
  · rw [Mv.setP_ne _ _ _ _ c]
    have hm := h.all.mem j hj
    exact ⟨hm.1.same (t.block _ hm.1.lt (h.all.inj j i hj hi c) hm.2.1 hm.2.2), hm.2⟩
theorem RS.thr (h : RS w W r q gm cm N bs me ow k) {i : Nat} (hi : i < N) {m' : Me} {o' : Nat → Bool} (u : MB W' (bs i) r q m' o' k') (t : Thr (bs i) r q W W') : RS w W' r q gm cm N bs (Mv.setP me i m') (Mv.setO ow i o') k' := by
  obtain ⟨Cr, hr, _⟩ := h.bk.blk
  obtain ⟨Cq, hq, _⟩ := h.bk.pool.blk
  obtain ⟨Cb, hb, _⟩ := (h.mem i hi).1.blk
  obtain ⟨⟨Cm, hm⟩, _, hml⟩ := ownsRow_blk h.own
  have em : W'.heap[gm]? = W.heap[gm]? := t.block gm hml (blk_ne hm hb (by decide)) (blk_ne hm hr (by decide)) (blk_ne hm hq (by decide))
  refine ⟨(h.kept hi t).2, u.bk, fun j hj => ?_, h.inj, h.lo, ownsRow_same h.own em⟩
  by_cases c : j = i
  · subst c; rw [Mv.setP_same, Mv.setO_same]; exact ⟨u.me, u.br, u.bq⟩
  · rw [Mv.setP_ne _ _ _ _ c, Mv.setO_ne _ _ _ _ c]
    have hm := h.mem j hj
    exact ⟨hm.1.same (t.block _ hm.1.lt (h.inj j i hj hi c) hm.2.1 hm.2.2), hm.2⟩
theorem CS.forked (h : CS w W r q gm cm N bs me k) {i : Nat} (hi : i < N) (u : UB W' (bs i) r q (me i) k') (t : Frm r W W') : CS w W' r q gm cm N bs me k' := by
  have := h.thr hi u ⟨t.os, t.tape, t.output, t.size, fun j hj _ h2 _ => t.block j hj h2⟩
  rw [setP_id] at this
  exact this
theorem RS.forked (h : RS w W r q gm cm N bs me ow k) {i : Nat} (hi : i < N) (u : MB W' (bs i) r q (me i) noOwn k') (t : Two (bs i) r W W') : RS w W' r q gm cm N bs me (Mv.setO ow i noOwn) k' := by
  have := h.thr hi u ⟨t.os, t.tape, t.output, t.size, fun j hj h1 h2 _ => t.block j hj h1 h2⟩
  rw [setP_id] at this
  exact this
end
section
variable {w W W2 : World} {r q gm cm N : Nat} {bs : Nat → Nat} {me : Nat → Me} {k : Bk} {ow : Nat → Nat → Bool}
theorem grown_blk {gm : Nat} {o : Obj} (hg : (W.alloc o).grownBy W2 (some gm)) : W.heap.size ≤ W2.heap.size ∧ ∀ j, j < W.heap.size → j ≠ gm → W2.heap[j]? = W.heap[j]? :=
  ⟨by have := hg.size; simp at this; omega, fun j hj hne => (hg.block j (by simp; omega) (fun e => hne (by injection e))).trans (heap_alloc_old W o hj)⟩
theorem CS.more (h : CS w W r q gm cm N bs me k) {b g c : Nat} {m : Me} (hb : UAt W b r m) (hn : ∀ j, j < N → bs j ≠ b) (lo : w.heap.size ≤ b) (o : Obj)
    (hown : W2.ownsRow w.heap.size 29 1 (.slice (some ⟨g, 0, none⟩) (N + 1) c) (N + 1) (ptrs bs N ++ [.pointer (some ⟨b, 0, none⟩)])) (hg : (W.alloc o).grownBy W2 (some gm)) :
    CS w W2 r q g c (N + 1) (addB bs N b) (Mv.setP me N m) k ∧ Kept refT W W2 := by
  obtain ⟨sz, bl⟩ := grown_blk hg
  obtain ⟨Cr, hr, _⟩ := h.all.bk.blk
  obtain ⟨Cq, hq, _⟩ := CA.blk h.all.bk.pool
  obtain ⟨⟨Cm, hm⟩, lm, hml⟩ := ownsRow_blk h.own
  obtain ⟨Cb, hbb, _⟩ := hb.blk
  rw [← ptrs_more] at hown
  have ab : ∀ j, j < N → addB bs N b j = bs j := fun j hj => if_neg (by omega)
  have an : addB bs N b N = b := if_pos rfl
  refine ⟨⟨h.bel.trans ⟨hg.os, hg.tape, hg.output, sz, fun j hj => bl j (Nat.lt_of_lt_of_le hj h.bel.size) (by omega)⟩, ⟨h.all.bk.same (bl r h.all.bk.lt (blk_ne hr hm (by decide))) (bl q h.all.bk.ltq (blk_ne hq hm (by decide))), fun j hj => ?_, fun i j hi hj ne => ?_, fun j hj => ?_, (ownsRow_blk hown).2.2⟩, ⟨h.lo.1, h.lo.2.1, fun j hj => ?_⟩, hown⟩, fun j C T hj hT => bl j (Array.getElem?_eq_some_iff.1 hj).1 (blk_ne hj hm (code_ref (.inr (.inr (.inr rfl))) hT).symm)⟩
  · by_cases e : j = N
    · subst e; rw [an, Mv.setP_same]; exact ⟨hb.same (bl b hb.lt (blk_ne hbb hm (by decide))), blk_ne hbb hr (by decide), blk_ne hbb hq (by decide)⟩
    · have hmj := h.all.mem j (by omega)
      obtain ⟨Cj, hj', _⟩ := hmj.1.blk
      rw [ab j (by omega), Mv.setP_ne _ _ _ _ e]
      exact ⟨hmj.1.same (bl _ hmj.1.lt (blk_ne hj' hm (by decide))), hmj.2⟩
  · by_cases e : i = N
    · subst e
      rw [an, ab j (by omega)]
      exact Ne.symm (hn j (by omega))
    · by_cases e2 : j = N
      · subst e2
        rw [an, ab i (by omega)]
        exact hn i (by omega)
      · rw [ab i (by omega), ab j (by omega)]
        exact h.all.inj i j (by omega) (by omega) ne
  · rw [hown.cellAt j (by omega)]
    exact ptrs_at _ _ j hj
  · by_cases e : j = N
    · subst e; rw [an]; exact lo
    · rw [ab j (by omega)]; exact h.lo.2.2 j (by omega)
theorem RS.more (h : RS w W r q gm cm N bs me ow k) {b g c : Nat} {m : Me} {o' : Nat → Bool} (hb : MAt W b r m o') (hn : ∀ j, j < N → bs j ≠ b) (lo : w.heap.size ≤ b) (o : Obj)
    (hown : W2.ownsRow w.heap.size 32 1 (.slice (some ⟨g, 0, none⟩) (N + 1) c) (N + 1) (ptrs bs N ++ [.pointer (some ⟨b, 0, none⟩)])) (hg : (W.alloc o).grownBy W2 (some gm)) :
    RS w W2 r q g c (N + 1) (addB bs N b) (Mv.setP me N m) (Mv.setO ow N o') k ∧ Kept codeT W W2 := by
  obtain ⟨sz, bl⟩ := grown_blk hg
  obtain ⟨Cr, hr, _⟩ := h.bk.blk
  obtain ⟨Cq, hq, _⟩ := h.bk.pool.blk
  obtain ⟨⟨Cm, hm⟩, lm, hml⟩ := ownsRow_blk h.own
  obtain ⟨Cb, hbb, _⟩ := hb.blk
  rw [← ptrs_more] at hown
  have ab : ∀ j, j < N → addB bs N b j = bs j := fun j hj => if_neg (by omega)
  have an : addB bs N b N = b := if_pos rfl
  refine ⟨⟨h.bel.trans ⟨hg.os, hg.tape, hg.output, sz, fun j hj => bl j (Nat.lt_of_lt_of_le hj h.bel.size) (by omega)⟩, h.bk.same (bl r h.bk.lt (blk_ne hr hm (by decide))) (bl q h.bk.ltq (blk_ne hq hm (by decide))), fun j hj => ?_, fun i j hi hj ne => ?_, ⟨h.lo.1, h.lo.2.1, fun j hj => ?_⟩, hown⟩, fun j C T hj hT => bl j (Array.getElem?_eq_some_iff.1 hj).1 (blk_ne hj hm (code_ref hT (.inr (.inr (.inr rfl)))))⟩
  · by_cases e : j = N
    · subst e; rw [an, Mv.setP_same, Mv.setO_same]; exact ⟨hb.same (bl b hb.lt (blk_ne hbb hm (by decide))), blk_ne hbb hr (by decide), blk_ne hbb hq (by decide)⟩
    · have hmj := h.mem j (by omega)
      obtain ⟨Cj, hj', _⟩ := hmj.1.blk
      rw [ab j (by omega), Mv.setP_ne _ _ _ _ e, Mv.setO_ne _ _ _ _ e]
      exact ⟨hmj.1.same (bl _ hmj.1.lt (blk_ne hj' hm (by decide))), hmj.2⟩
  · by_cases e : i = N
    · subst e
      rw [an, ab j (by omega)]
      exact Ne.symm (hn j (by omega))
    · by_cases e2 : j = N
      · subst e2
        rw [an, ab i (by omega)]
        exact hn i (by omega)
      · rw [ab i (by omega), ab j (by omega)]
        exact h.inj i j (by omega) (by omega) ne
  · by_cases e : j = N
    · subst e; rw [an]; exact lo
    · rw [ab j (by omega)]; exact h.lo.2.2 j (by omega)
end
end Go.Proofs.Ytnppahmlifnnnab

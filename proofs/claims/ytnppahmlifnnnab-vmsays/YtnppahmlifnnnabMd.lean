/- The document's own bank, as it lies: take, drop. -/
import Derived.Test.YtnppahmlifnnnabXe
import Derived.Test.YtnppahmlifnnnabMa
import Derived.Deep.MidRow
namespace Go.Proofs.Ytnppahmlifnnnab
open Go.RowKit
open Bd (P)

namespace Mv
/-- The pool, the bytes of each frame, how many pages hold each. -/
structure Bk where
  pool : P
  byt : Nat → Nat → Int
  refs : Nat → Nat
def clr (k : Bk) (p : P) (f : Nat) : Bk := ⟨p, fun g j => if g = f then 0 else k.byt g j, fun g => if g = f then 1 else k.refs g⟩
/-- A frame is taken out of the bank. -/
def TakK (k : Bk) (e : Int) (f : Nat) (k' : Bk) : Prop := ∃ p', Bd.TakeTo k.pool 0 e f p' ∧ k' = if e = 0 then clr k p' f else { k with pool := p' }
theorem TakK.unique {k a c : Bk} {e g : Int} {f h : Nat} (x : TakK k e f a) (y : TakK k g h c) : e = g ∧ f = h ∧ a = c := by
  obtain ⟨p, x1, rfl⟩ := x
  obtain ⟨p', y1, rfl⟩ := y
  obtain ⟨rfl, rfl, rfl⟩ := x1.unique y1
  exact ⟨rfl, rfl, rfl⟩
def drp (k : Bk) (f : Nat) : Bk := { k with refs := fun g => if g = f then k.refs f - 1 else k.refs g, pool := if k.refs f = 1 then Bd.giveT k.pool f else k.pool }
end Mv
open Mv (Bk)

def cellNk (q : Nat) (k : Bk) (o : Nat) : Value := if o = 0 then .pointer (some ⟨q, 0, none⟩) else if o < 513 then .int .u8 (k.byt ((o - 1) / 8) ((o - 1) % 8)) else .int .i64 (k.refs (o - 513) : Int)
/-- The bank k lies in block r; its pool in block q. -/
structure NAt (w : World) (r q : Nat) (k : Bk) : Prop where
  blk : ∃ C, w.heap[r]? = some (.cells C 50 (0, 0)) ∧ C.size = 577
  cell : ∀ o, o < 577 → w.cell? ⟨r, o, none⟩ = some (cellNk q k o)
  pool : KAt w q k.pool
  ne : q ≠ r
section
variable {w w' : World} {r q : Nat} {k k' : Bk}
theorem NAt.drewN (h : NAt w r q k) (n : Nat) : NAt (w.drewN n) r q k := ⟨h.blk, h.cell, h.pool.drewN n, h.ne⟩
theorem NAt.drew (h : NAt w r q k) : NAt w.drew r q k := ⟨h.blk, h.cell, h.pool.drew, h.ne⟩
theorem NAt.frozen (h : NAt w r q k) (o : Nat) : w.frozen? ⟨r, o, none⟩ = false := by obtain ⟨C, h1, _⟩ := h.blk; exact frozen_blk h1 o
theorem NAt.lt (h : NAt w r q k) : r < w.heap.size := by obtain ⟨C, h1, _⟩ := h.blk; exact (Array.getElem?_eq_some_iff.1 h1).1
theorem NAt.ltq (h : NAt w r q k) : q < w.heap.size := h.pool.lt
theorem NAt.same (h : NAt w r q k) (e : w'.heap[r]? = w.heap[r]?) (e2 : w'.heap[q]? = w.heap[q]?) : NAt w' r q k := ⟨by rw [e]; exact h.blk, fun o ho => (World.cell?_of_block e).trans (h.cell o ho), h.pool.same e2, h.ne⟩
theorem NAt.below (h : NAt w r q k) (b : Below w.heap.size w w') : NAt w' r q k := h.same (b.block r h.lt) (b.block q h.ltq)
/-- The pool goes on by itself. -/
theorem NAt.withPool (h : NAt w r q k) {p : P} (f : Frm q w w') (kp : KAt w' q p) : NAt w' r q { k with pool := p } := by
  have e := f.block r h.lt (Ne.symm h.ne)
  exact ⟨by rw [e]; exact h.blk, fun o ho => (World.cell?_of_block e).trans (h.cell o ho), kp, h.ne⟩
theorem NAt.cP (h : NAt w r q k) : w.cell? ⟨r, 0, none⟩ = some (.pointer (some ⟨q, 0, none⟩)) := h.cell 0 (by omega)
theorem NAt.cB (h : NAt w r q k) (f j : Nat) (hf : f < 64) (hj : j < 8) : w.cell? ⟨r, 1 + f * 8 + j, none⟩ = some (.int .u8 (k.byt f j)) := by
  rw [h.cell _ (by omega), cellNk, if_neg (by omega), if_pos (by omega), show (1 + f * 8 + j - 1) / 8 = f by omega, show (1 + f * 8 + j - 1) % 8 = j by omega]
theorem NAt.cRefs (h : NAt w r q k) (f : Nat) (hf : f < 64) : w.cell? ⟨r, 513 + f, none⟩ = some (.int .i64 (k.refs f : Int)) := by
  rw [h.cell _ (by omega), cellNk, if_neg (by omega), if_neg (by omega), show 513 + f - 513 = f by omega]
theorem KAt.far {p : P} (h : KAt w q p) (hne : q ≠ r) (o : Nat) (v : Value) : KAt (w.setCell ⟨r, o, none⟩ v) q p := h.same (setBlk _ _ _ _ hne)
theorem NAt.set (h : NAt w r q k) (o : Nat) (ho : o < 577) (v : Value) (hp : k'.pool = k.pool) (hv : ∀ i, i < 577 → cellNk q k' i = if i = o then v else cellNk q k i) : NAt (w.setCell ⟨r, o, none⟩ v) r q k' := by
  obtain ⟨C, h1, h2⟩ := h.blk
  refine ⟨⟨_, blk_set h1 _ v, by simpa using h2⟩, fun i hi => ?_, by rw [hp]; exact h.pool.far h.ne o v, h.ne⟩
  rw [hv i hi]
  by_cases e : i = o
  · subst e; rw [cell_set_same h1 _ v (by omega), if_pos rfl]
  · rw [cell_set_ne h1 _ _ v (Ne.symm e), if_neg e]; exact h.cell i hi
theorem NAt.setRefs (h : NAt w r q k) (f v : Nat) (hf : f < 64) : NAt (w.setCell ⟨r, 513 + f, none⟩ (.int .i64 (v : Int))) r q { k with refs := fun g => if g = f then v else k.refs g } := by
  refine h.set (513 + f) (by omega) _ rfl (fun x hx => ?_)
  unfold cellNk
  by_cases c0 : x = 0
  · rw [if_pos c0, if_pos c0, if_neg (by omega)]
  · rw [if_neg c0, if_neg c0]
    by_cases c : x < 513
    · rw [if_pos c, if_pos c, if_neg (by omega)]
    · rw [if_neg c, if_neg c]
      by_cases e : x = 513 + f
      · rw [if_pos e]; simp [e]
      · rw [if_neg e]; simp [show x - 513 ≠ f by omega]
theorem NAt.setB (h : NAt w r q k) (f j : Nat) (v : Int) (hf : f < 64) (hj : j < 8) : NAt (w.setCell ⟨r, 1 + f * 8 + j, none⟩ (.int .u8 v)) r q { k with byt := fun g i => if g = f ∧ i = j then v else k.byt g i } := by
  refine h.set (1 + f * 8 + j) (by omega) _ rfl (fun x hx => ?_)
  unfold cellNk
  by_cases c0 : x = 0
  · rw [if_pos c0, if_pos c0, if_neg (by omega)]
  · rw [if_neg c0, if_neg c0]
    by_cases c : x < 513
    · rw [if_pos c, if_pos c]
      by_cases e : x = 1 + f * 8 + j
      · rw [if_pos e]; simp [show (x - 1) / 8 = f by omega, show (x - 1) % 8 = j by omega]
      · rw [if_neg e]; simp [show ¬ ((x - 1) / 8 = f ∧ (x - 1) % 8 = j) by omega]
    · rw [if_neg c, if_neg c, if_neg (by omega)]
/-- Eight bytes. -/
def by8 (g : Nat → Int) : Array Value := #[.int .u8 (g 0), .int .u8 (g 1), .int .u8 (g 2), .int .u8 (g 3), .int .u8 (g 4), .int .u8 (g 5), .int .u8 (g 6), .int .u8 (g 7)]
theorem by8_at (g : Nat → Int) (j : Nat) (hj : j < 8) : (by8 g)[j]? = some (.int .u8 (g j)) := by
  match j, hj with
  | 0, _ => rfl
  | 1, _ => rfl
  | 2, _ => rfl
  | 3, _ => rfl
  | 4, _ => rfl
  | 5, _ => rfl
  | 6, _ => rfl
  | 7, _ => rfl
theorem by8_one (g : Nat → Int) : (by8 g).all (·.oneCell') = true := by
  rw [Array.all_eq_true_iff_forall_mem]
  intro v hv
  simp only [by8, List.mem_toArray, List.mem_cons, List.not_mem_nil, or_false] at hv
  rcases hv with rfl | rfl | rfl | rfl | rfl | rfl | rfl | rfl <;> rfl
theorem heap_setCells_ne (b : Nat) : ∀ (vs : List Value) (o : Nat) (w : World) (k : Nat), k ≠ b → (w.setCells b o vs).heap[k]? = w.heap[k]?
  | [], _, _, _, _ => rfl
  | v :: r, o, w, k, h => by
    rw [World.setCells]
    exact (heap_setCells_ne b r (o + 1) _ k h).trans (setBlk _ _ _ _ h)
theorem heap_setCells_blk (b : Nat) {T : TypeId} : ∀ (vs : List Value) (o : Nat) (w : World) (C : Array Value), w.heap[b]? = some (.cells C T (0, 0)) → ∃ C', (w.setCells b o vs).heap[b]? = some (.cells C' T (0, 0)) ∧ C'.size = C.size
  | [], _, _, C, h => ⟨C, h, rfl⟩
  | v :: r, o, w, C, h => by
    rw [World.setCells]
    obtain ⟨C', h1, h2⟩ := heap_setCells_blk b r (o + 1) _ _ (blk_set h o v)
    exact ⟨C', h1, by rw [h2]; simp⟩
theorem Frm.setCells {b : Nat} : ∀ (vs : List Value) (o : Nat) {u w : World}, Frm b u w → Frm b u (w.setCells b o vs)
  | [], _, _, _, h => h
  | v :: r, o, u, w, h => by rw [World.setCells]; exact Frm.setCells r (o + 1) (h.setCell o v)
theorem NAt.there (h : NAt w r q k) (f : Nat) (hf : f < 64) (j : Nat) (hj : j < 8) : (w.cell? ⟨r, 1 + f * 8 + j, none⟩).isSome = true ∧ w.frozen? ⟨r, 1 + f * 8 + j, none⟩ = false :=
  ⟨by rw [h.cB f j hf hj]; rfl, h.frozen _⟩
theorem NAt.setRow (h : NAt w r q k) (f : Nat) (hf : f < 64) (g : Nat → Int) : NAt (w.setCells r (1 + f * 8) (by8 g).toList) r q { k with byt := fun a i => if a = f then g i else k.byt a i } := by
  obtain ⟨C, h1, h2⟩ := h.blk
  have ht := h.there f hf
  have hs : (by8 g).toList.length = 8 := rfl
  obtain ⟨C', k1, k2⟩ := heap_setCells_blk r (by8 g).toList (1 + f * 8) w C h1
  refine ⟨⟨C', k1, by omega⟩, fun x hx => ?_, h.pool.same (heap_setCells_ne r _ _ _ _ h.ne), h.ne⟩
  by_cases c : 1 + f * 8 ≤ x ∧ x < 1 + f * 8 + 8
  · obtain ⟨j, rfl, hj⟩ : ∃ j, x = 1 + f * 8 + j ∧ j < 8 := ⟨x - (1 + f * 8), by omega, by omega⟩
    rw [World.cell?_setCells_in r (by8 g).toList (1 + f * 8) w (fun i hi => (ht i (by omega)).1) j (by omega), ← List.getElem?_eq_getElem (by omega), Array.getElem?_toList, by8_at g j hj]
    unfold cellNk
    rw [if_neg (by omega), if_pos (by omega), show (1 + f * 8 + j - 1) / 8 = f by omega, show (1 + f * 8 + j - 1) % 8 = j by omega]
    simp
  · rw [World.cell?_setCells_out r _ (1 + f * 8) w ⟨r, x, none⟩ (fun _ _ => by rw [hs]; show x < _ ∨ _ ≤ x; omega), h.cell x hx]
    unfold cellNk
    by_cases c0 : x = 0
    · rw [if_pos c0, if_pos c0]
    · rw [if_neg c0, if_neg c0]
      by_cases d : x < 513
      · rw [if_pos d, if_pos d]; simp [show (x - 1) / 8 ≠ f by omega]
      · rw [if_neg d, if_neg d]
end
end Go.Proofs.Ytnppahmlifnnnab

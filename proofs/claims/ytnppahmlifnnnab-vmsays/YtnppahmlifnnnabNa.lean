/- The code's bank and memory, as they lie. -/
import Derived.Test.YtnppahmlifnnnabXj
import Derived.Test.YtnppahmlifnnnabMl
namespace Go.Proofs.Ytnppahmlifnnnab
open Go.RowKit
open Bd (P)
open Mv (Me Bk)

def cellV (q : Nat) (k : Bk) (o : Nat) : Value := if o = 0 then .pointer (some ⟨q, 0, none⟩) else if (o - 1) % 9 = 0 then .int .i64 (k.refs ((o - 1) / 9) : Int) else .int .u8 (k.byt ((o - 1) / 9) ((o - 1) % 9 - 1))
/-- The code's bank k lies in block r; its pool in block q. -/
structure VAt (w : World) (r q : Nat) (k : Bk) : Prop where
  blk : ∃ C, w.heap[r]? = some (.cells C 110 (0, 0)) ∧ C.size = 577
  cell : ∀ o, o < 577 → w.cell? ⟨r, o, none⟩ = some (cellV q k o)
  pool : CAt w q k.pool
  ne : q ≠ r
section
variable {w w' : World} {r q : Nat} {k k' : Bk}
theorem VAt.drewN (h : VAt w r q k) (n : Nat) : VAt (w.drewN n) r q k := ⟨h.blk, h.cell, h.pool.drewN n, h.ne⟩
theorem VAt.drew (h : VAt w r q k) : VAt w.drew r q k := ⟨h.blk, h.cell, h.pool.drew, h.ne⟩
theorem VAt.frozen (h : VAt w r q k) (o : Nat) : w.frozen? ⟨r, o, none⟩ = false := by obtain ⟨C, h1, _⟩ := h.blk; exact frozen_blk h1 o
theorem VAt.lt (h : VAt w r q k) : r < w.heap.size := by obtain ⟨C, h1, _⟩ := h.blk; exact (Array.getElem?_eq_some_iff.1 h1).1
theorem VAt.ltq (h : VAt w r q k) : q < w.heap.size := h.pool.lt
theorem VAt.same (h : VAt w r q k) (e : w'.heap[r]? = w.heap[r]?) (e2 : w'.heap[q]? = w.heap[q]?) : VAt w' r q k := ⟨by rw [e]; exact h.blk, fun o ho => (World.cell?_of_block e).trans (h.cell o ho), h.pool.same e2, h.ne⟩
theorem VAt.below (h : VAt w r q k) (b : Below w.heap.size w w') : VAt w' r q k := h.same (b.block r h.lt) (b.block q h.ltq)
theorem VAt.withPool (h : VAt w r q k) {p : P} (f : Frm q w w') (kp : CAt w' q p) : VAt w' r q { k with pool := p } := by
  have e := f.block r h.lt (Ne.symm h.ne)
  exact ⟨by rw [e]; exact h.blk, fun o ho => (World.cell?_of_block e).trans (h.cell o ho), kp, h.ne⟩
theorem VAt.cP (h : VAt w r q k) : w.cell? ⟨r, 0, none⟩ = some (.pointer (some ⟨q, 0, none⟩)) := h.cell 0 (by omega)
theorem VAt.cB (h : VAt w r q k) (f j : Nat) (hf : f < 64) (hj : j < 8) : w.cell? ⟨r, 1 + f * 9 + 1 + j, none⟩ = some (.int .u8 (k.byt f j)) := by
  rw [h.cell _ (by omega), cellV, if_neg (by omega), if_neg (by omega), show (1 + f * 9 + 1 + j - 1) / 9 = f by omega, show (1 + f * 9 + 1 + j - 1) % 9 - 1 = j by omega]
theorem VAt.cRefs (h : VAt w r q k) (f : Nat) (hf : f < 64) : w.cell? ⟨r, 1 + f * 9, none⟩ = some (.int .i64 (k.refs f : Int)) := by
  rw [h.cell _ (by omega), cellV, if_neg (by omega), if_pos (by omega), show (1 + f * 9 - 1) / 9 = f by omega]
theorem CAt.far {p : P} (h : CAt w q p) (hne : q ≠ r) (o : Nat) (v : Value) : CAt (w.setCell ⟨r, o, none⟩ v) q p := h.same (setBlk _ _ _ _ hne)
theorem VAt.set (h : VAt w r q k) (o : Nat) (ho : o < 577) (v : Value) (hp : k'.pool = k.pool) (hv : ∀ i, i < 577 → cellV q k' i = if i = o then v else cellV q k i) : VAt (w.setCell ⟨r, o, none⟩ v) r q k' := by
  obtain ⟨C, h1, h2⟩ := h.blk
  refine ⟨⟨_, blk_set h1 _ v, by simpa using h2⟩, fun i hi => ?_, by rw [hp]; exact h.pool.far h.ne o v, h.ne⟩
  rw [hv i hi]
  by_cases e : i = o
  · subst e; rw [cell_set_same h1 _ v (by omega), if_pos rfl]
  · rw [cell_set_ne h1 _ _ v (Ne.symm e), if_neg e]; exact h.cell i hi
theorem VAt.setRefs (h : VAt w r q k) (f v : Nat) (hf : f < 64) : VAt (w.setCell ⟨r, 1 + f * 9, none⟩ (.int .i64 (v : Int))) r q { k with refs := fun g => if g = f then v else k.refs g } := by
  refine h.set (1 + f * 9) (by omega) _ rfl (fun x hx => ?_)
  unfold cellV
  by_cases c0 : x = 0
  · rw [if_pos c0, if_pos c0, if_neg (by omega)]
  · rw [if_neg c0, if_neg c0]
    by_cases c : (x - 1) % 9 = 0
    · rw [if_pos c, if_pos c]
      by_cases e : x = 1 + f * 9
      · rw [if_pos e]; simp [show (x - 1) / 9 = f by omega]
      · rw [if_neg e]; simp [show (x - 1) / 9 ≠ f by omega]
    · rw [if_neg c, if_neg c, if_neg (by omega)]
theorem VAt.setB (h : VAt w r q k) (f j : Nat) (v : Int) (hf : f < 64) (hj : j < 8) : VAt (w.setCell ⟨r, 1 + f * 9 + 1 + j, none⟩ (.int .u8 v)) r q (Mv.stB k f j v) := by
  refine h.set (1 + f * 9 + 1 + j) (by omega) _ rfl (fun x hx => ?_)
  unfold cellV Mv.stB
  by_cases c0 : x = 0
  · rw [if_pos c0, if_pos c0, if_neg (by omega)]
  · rw [if_neg c0, if_neg c0]
    by_cases c : (x - 1) % 9 = 0
    · rw [if_pos c, if_pos c, if_neg (by omega)]
    · rw [if_neg c, if_neg c]
      by_cases e : x = 1 + f * 9 + 1 + j
      · rw [if_pos e]; simp [show (x - 1) / 9 = f by omega, show (x - 1) % 9 - 1 = j by omega]
      · rw [if_neg e]; simp [show ¬ ((x - 1) / 9 = f ∧ (x - 1) % 9 - 1 = j) by omega]
/-- A frame as one value: how many pages hold it, its bytes. -/
def fr9 (n : Int) (g : Nat → Int) : Array Value := #[.int .i64 n, .int .u8 (g 0), .int .u8 (g 1), .int .u8 (g 2), .int .u8 (g 3), .int .u8 (g 4), .int .u8 (g 5), .int .u8 (g 6), .int .u8 (g 7)]
theorem fr9_at (n : Int) (g : Nat → Int) (j : Nat) (hj : j < 9) : (fr9 n g)[j]? = some (if j = 0 then .int .i64 n else .int .u8 (g (j - 1))) := by
  match j, hj with
  | 0, _ => rfl
  | 1, _ => rfl
  | 2, _ => rfl
  | 3, _ => rfl
  | 4, _ => rfl
  | 5, _ => rfl
  | 6, _ => rfl
  | 7, _ => rfl
  | 8, _ => rfl
def Mv.setF (k : Bk) (f n : Nat) (g : Nat → Int) : Bk := { k with byt := fun a i => if a = f then g i else k.byt a i, refs := fun a => if a = f then n else k.refs a }
theorem VAt.setFrame (h : VAt w r q k) (f n : Nat) (hf : f < 64) (g : Nat → Int) : VAt (w.setCells r (1 + f * 9) (fr9 (n : Int) g).toList) r q (Mv.setF k f n g) := by
  obtain ⟨C, h1, h2⟩ := h.blk
  have ht : ∀ j, j < 9 → (w.cell? ⟨r, 1 + f * 9 + j, none⟩).isSome = true := fun j hj => by rw [h.cell _ (by omega)]; rfl
  have hs : (fr9 (n : Int) g).toList.length = 9 := rfl
  obtain ⟨C', k1, k2⟩ := heap_setCells_blk r (fr9 (n : Int) g).toList (1 + f * 9) w C h1
  refine ⟨⟨C', k1, by omega⟩, fun x hx => ?_, h.pool.same (heap_setCells_ne r _ _ _ _ h.ne), h.ne⟩
  by_cases c : 1 + f * 9 ≤ x ∧ x < 1 + f * 9 + 9
  · obtain ⟨j, rfl, hj⟩ : ∃ j, x = 1 + f * 9 + j ∧ j < 9 := ⟨x - (1 + f * 9), by omega, by omega⟩
    rw [World.cell?_setCells_in r (fr9 (n : Int) g).toList (1 + f * 9) w (fun i hi => ht i (by omega)) j (by omega), ← List.getElem?_eq_getElem (by omega), Array.getElem?_toList, fr9_at _ g j hj]
    unfold cellV Mv.setF
    rw [if_neg (show ¬ 1 + f * 9 + j = 0 by omega), show (1 + f * 9 + j - 1) / 9 = f by omega, show (1 + f * 9 + j - 1) % 9 = j by omega]
    simp
  · rw [World.cell?_setCells_out r _ (1 + f * 9) w ⟨r, x, none⟩ (fun _ _ => by rw [hs]; show x < _ ∨ _ ≤ x; omega), h.cell x hx]
    unfold cellV Mv.setF
    by_cases c0 : x = 0
    · rw [if_pos c0, if_pos c0]
    · rw [if_neg c0, if_neg c0]
      simp [show (x - 1) / 9 ≠ f by omega]
end

def cellU (r : Nat) (m : Me) (o : Nat) : Value := if o = 0 then .pointer (some ⟨r, 0, none⟩) else if (o - 1) % 2 = 0 then .int .i64 (m.is ((o - 1) / 2) : Int) else .int .i64 ((m.fr ((o - 1) / 2) : Int) - 1)
/-- The code's memory m lies in block b; its bank in block r. -/
structure UAt (w : World) (b r : Nat) (m : Me) : Prop where
  blk : ∃ C, w.heap[b]? = some (.cells C 116 (0, 0)) ∧ C.size = 33
  cell : ∀ o, o < 33 → w.cell? ⟨b, o, none⟩ = some (cellU r m o)
section
variable {w w' : World} {b r : Nat} {m m' : Me}
theorem UAt.drewN (h : UAt w b r m) (n : Nat) : UAt (w.drewN n) b r m := ⟨h.blk, h.cell⟩
theorem UAt.drew (h : UAt w b r m) : UAt w.drew b r m := ⟨h.blk, h.cell⟩
theorem UAt.frozen (h : UAt w b r m) (o : Nat) : w.frozen? ⟨b, o, none⟩ = false := by obtain ⟨C, h1, _⟩ := h.blk; exact frozen_blk h1 o
theorem UAt.lt (h : UAt w b r m) : b < w.heap.size := by obtain ⟨C, h1, _⟩ := h.blk; exact (Array.getElem?_eq_some_iff.1 h1).1
theorem UAt.same (h : UAt w b r m) (e : w'.heap[b]? = w.heap[b]?) : UAt w' b r m := ⟨by rw [e]; exact h.blk, fun o ho => (World.cell?_of_block e).trans (h.cell o ho)⟩
theorem UAt.below (h : UAt w b r m) (k : Below w.heap.size w w') : UAt w' b r m := h.same (k.block b h.lt)
theorem UAt.congr (h : UAt w b r m) (e : ∀ n, n < 16 → m'.is n = m.is n ∧ m'.fr n = m.fr n) : UAt w b r m' := ⟨h.blk, fun o ho => by
  rw [h.cell o ho]
  unfold cellU
  by_cases c : o = 0
  · rw [if_pos c, if_pos c]
  · rw [if_neg c, if_neg c, (e _ (by omega)).1, (e _ (by omega)).2]⟩
theorem UAt.cBank (h : UAt w b r m) : w.cell? ⟨b, 0, none⟩ = some (.pointer (some ⟨r, 0, none⟩)) := h.cell 0 (by omega)
theorem UAt.cIs (h : UAt w b r m) (i : Nat) (hi : i < 16) : w.cell? ⟨b, 1 + i * 2, none⟩ = some (.int .i64 (m.is i : Int)) := by
  rw [h.cell _ (by omega), cellU, if_neg (by omega), if_pos (by omega), show (1 + i * 2 - 1) / 2 = i by omega]
theorem UAt.cFr (h : UAt w b r m) (i : Nat) (hi : i < 16) : w.cell? ⟨b, 1 + i * 2 + 1, none⟩ = some (.int .i64 ((m.fr i : Int) - 1)) := by
  rw [h.cell _ (by omega), cellU, if_neg (by omega), if_neg (by omega), show (1 + i * 2 + 1 - 1) / 2 = i by omega]
theorem UAt.set (h : UAt w b r m) (o : Nat) (ho : o < 33) (v : Value) (hv : ∀ i, i < 33 → cellU r m' i = if i = o then v else cellU r m i) : UAt (w.setCell ⟨b, o, none⟩ v) b r m' := by
  obtain ⟨C, h1, h2⟩ := h.blk
  refine ⟨⟨_, blk_set h1 _ v, by simpa using h2⟩, fun i hi => ?_⟩
  rw [hv i hi]
  by_cases e : i = o
  · subst e; rw [cell_set_same h1 _ v (by omega), if_pos rfl]
  · rw [cell_set_ne h1 _ _ v (Ne.symm e), if_neg e]; exact h.cell i hi
theorem UAt.setIs (h : UAt w b r m) (i v : Nat) (hi : i < 16) : UAt (w.setCell ⟨b, 1 + i * 2, none⟩ (.int .i64 (v : Int))) b r { m with is := upn m.is i v } := by
  refine h.set (1 + i * 2) (by omega) _ (fun x hx => ?_)
  unfold cellU upn
  by_cases c0 : x = 0
  · rw [if_pos c0, if_pos c0, if_neg (by omega)]
  · rw [if_neg c0, if_neg c0]
    by_cases c : (x - 1) % 2 = 0
    · rw [if_pos c, if_pos c]
      by_cases e : x = 1 + i * 2
      · rw [if_pos e]; simp [show (x - 1) / 2 = i by omega]
      · rw [if_neg e]; simp [show (x - 1) / 2 ≠ i by omega]
    · rw [if_neg c, if_neg c, if_neg (by omega)]
theorem UAt.setFr (h : UAt w b r m) (i v : Nat) (hi : i < 16) (u : Int) (hu : u = (v : Int) - 1) : UAt (w.setCell ⟨b, 1 + i * 2 + 1, none⟩ (.int .i64 u)) b r { m with fr := upn m.fr i v } := by
  subst hu
  refine h.set (1 + i * 2 + 1) (by omega) _ (fun x hx => ?_)
  unfold cellU upn
  by_cases c0 : x = 0
  · rw [if_pos c0, if_pos c0, if_neg (by omega)]
  · rw [if_neg c0, if_neg c0]
    by_cases c : (x - 1) % 2 = 0
    · rw [if_pos c, if_pos c, if_neg (by omega)]
    · rw [if_neg c, if_neg c]
      by_cases e : x = 1 + i * 2 + 1
      · rw [if_pos e]; simp [show (x - 1) / 2 = i by omega]
      · rw [if_neg e]; simp [show (x - 1) / 2 ≠ i by omega]
end
/-- A memory of the code and its bank lie there. -/
structure UB (w : World) (b r q : Nat) (m : Me) (k : Bk) : Prop where
  me : UAt w b r m
  bk : VAt w r q k
  br : b ≠ r
  bq : b ≠ q
section
variable {b r q : Nat} {u v w : World}
theorem VAt.frm {k : Bk} (h : VAt u r q k) (f : Frm b u v) (h1 : b ≠ r) (h2 : b ≠ q) : VAt v r q k := h.same (f.block r h.lt (Ne.symm h1)) (f.block q h.ltq (Ne.symm h2))
theorem UAt.two {m : Me} (h : UAt u b r m) (f : Two r q u v) (h1 : b ≠ r) (h2 : b ≠ q) : UAt v b r m := h.same (f.block b h.lt h1 h2)
theorem UB.below {m : Me} {k : Bk} (h : UB u b r q m k) (f : Below u.heap.size u v) : UB v b r q m k := ⟨h.me.below f, h.bk.below f, h.br, h.bq⟩
theorem UB.drew {m : Me} {k : Bk} (h : UB u b r q m k) : UB u.drew b r q m k := ⟨h.me.drew, h.bk.drew, h.br, h.bq⟩
theorem UB.drewN {m : Me} {k : Bk} (h : UB u b r q m k) (n : Nat) : UB (u.drewN n) b r q m k := ⟨h.me.drewN n, h.bk.drewN n, h.br, h.bq⟩
theorem Thr.drew (h : Thr b r q u v) : Thr b r q u v.drew := ⟨h.os, h.tape, h.output, h.size, h.block⟩
theorem Thr.drewN (h : Thr b r q u v) (n : Nat) : Thr b r q u (v.drewN n) := ⟨h.os, h.tape, h.output, h.size, h.block⟩
theorem Thr.below (h : Below u.heap.size u v) : Thr b r q u v := ⟨h.os, h.tape, h.output, h.size, fun k hk _ _ _ => h.block k hk⟩
end
end Go.Proofs.Ytnppahmlifnnnab

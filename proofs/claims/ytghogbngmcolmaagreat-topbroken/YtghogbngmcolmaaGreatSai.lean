import Derived.Deep.MidRow
import Derived.Deep.CutRange
import Derived.Deep.CutBlock
import Derived.Deep.RegionWith
import Derived.Test.YtghogbngmcolmaaGreatSaa
import Derived.Test.YtghogbngmcolmaaGreatSad
import Derived.Test.YtghogbngmcolmaaGreatSah
namespace Go.Proofs.YtghogbngmcolmaaGreat
open Go.RowKit
namespace Mv
structure Me where
  is : Nat → Nat
  fr : Nat → Nat
def badB (a n : Int) : Bool := decide (a < 0 ∨ 15 < a ∨ n < 1 ∨ 16 - a < n)
def resK (m : Me) : Nat → Nat
  | 0 => 0
  | k + 1 => resK m k + if m.fr k = 0 then 0 else 1
theorem bad_no {a n : Int} (h : badB a n = false) : ∃ x k : Nat, a = x ∧ n = k ∧ x < 16 ∧ 1 ≤ k ∧ x + k ≤ 16 := by
  unfold badB at h
  rw [decide_eq_false_iff_not] at h
  exact ⟨a.toNat, n.toNat, by omega, by omega, by omega, by omega, by omega⟩
end Mv
open Mv (Me)
section
variable {w w' : World} {b r : Nat} {m m' : Me} {own own' : Nat → Bool}
def upn (f : Nat → Nat) (i v : Nat) : Nat → Nat := fun j => if j = i then v else f j
end
end Go.Proofs.YtghogbngmcolmaaGreat
namespace Go.Proofs.YtghogbngmcolmaaGreat
open Go.RowKit
open Mv (Me)
theorem resK_le (m : Me) (k : Nat) : Mv.resK m k ≤ k := by
  induction k with
  | zero => exact Nat.le_refl 0
  | succ k ih => show Mv.resK m k + _ ≤ k + 1; split <;> omega
end Go.Proofs.YtghogbngmcolmaaGreat
namespace Go.Proofs.YtghogbngmcolmaaGreat
open Go.RowKit
open Bd (P)
namespace Mv
structure Bk where
  pool : P
  byt : Nat → Nat → Int
  refs : Nat → Nat
def drp (k : Bk) (f : Nat) : Bk := { k with refs := fun g => if g = f then k.refs f - 1 else k.refs g, pool := if k.refs f = 1 then Bd.giveT k.pool f else k.pool }
end Mv
open Mv (Bk)
end Go.Proofs.YtghogbngmcolmaaGreat
namespace Go.Proofs.YtghogbngmcolmaaGreat
open Go.RowKit
open Bd (P)
open Mv (Bk)
def Mv.bk0 : Bk := ⟨Bd.b0, fun _ _ => 0, fun _ => 0⟩
end Go.Proofs.YtghogbngmcolmaaGreat
namespace Go.Proofs.YtghogbngmcolmaaGreat
open Go.RowKit
open Bd (P)
open Mv (Me Bk)
structure Thr (b r q : Nat) (w w' : World) : Prop where
  os : w'.os = w.os
  tape : w'.tape = w.tape
  output : w'.output = w.output
  size : w.heap.size ≤ w'.heap.size
  block : ∀ k, k < w.heap.size → k ≠ b → k ≠ r → k ≠ q → w'.heap[k]? = w.heap[k]?
section
variable {b r q : Nat} {u v w : World}
theorem Thr.refl (b r q : Nat) (w : World) : Thr b r q w w := ⟨rfl, rfl, rfl, Nat.le_refl _, fun _ _ _ _ _ => rfl⟩
theorem Thr.trans (h : Thr b r q u v) (k : Thr b r q v w) : Thr b r q u w := ⟨k.os.trans h.os, k.tape.trans h.tape, k.output.trans h.output, Nat.le_trans h.size k.size, fun j hj h1 h2 h3 => (k.block j (Nat.lt_of_lt_of_le hj h.size) h1 h2 h3).trans (h.block j hj h1 h2 h3)⟩
theorem Thr.mem (h : Frm b u v) : Thr b r q u v := ⟨h.os, h.tape, h.output, h.size, fun k hk h1 _ _ => h.block k hk h1⟩
theorem Thr.bank (h : Two r q u v) : Thr b r q u v := ⟨h.os, h.tape, h.output, h.size, fun k hk _ h1 h2 => h.block k hk h1 h2⟩
end
end Go.Proofs.YtghogbngmcolmaaGreat
namespace Go.Proofs.YtghogbngmcolmaaGreat
open Go.RowKit
open Bd (P)
open Mv (Me Bk)
namespace Mv
def cntK (fr : Nat → Nat) (f : Nat) : Nat → Nat
  | 0 => 0
  | i + 1 => cntK fr f i + if fr i = f + 1 then 1 else 0
theorem cntK_congr {fr fs : Nat → Nat} {f n : Nat} (h : ∀ i, i < n → fs i = fr i) : cntK fs f n = cntK fr f n := by
  induction n with
  | zero => rfl
  | succ n ih => show cntK fs f n + _ = cntK fr f n + _; rw [ih (fun i hi => h i (by omega)), h n (by omega)]
theorem cntK_out {fr fs : Nat → Nat} {f n i : Nat} (hi : i < n) (e : fr i = f + 1) (h0 : fs i = 0) (h : ∀ j, j ≠ i → fs j = fr j) : cntK fs f n + 1 = cntK fr f n := by
  induction n with
  | zero => omega
  | succ n ih =>
    show cntK fs f n + (if fs n = f + 1 then 1 else 0) + 1 = cntK fr f n + if fr n = f + 1 then 1 else 0
    by_cases c : i = n
    · subst c
      rw [cntK_congr (fun j hj => h j (by omega)), h0, e, if_neg (by omega), if_pos rfl]
    · rw [h n (fun d => c d.symm)]
      have := ih (by omega)
      omega
theorem cntK_other {fr fs : Nat → Nat} {f n i : Nat} (e : fr i ≠ f + 1) (h0 : fs i = 0) (h : ∀ j, j ≠ i → fs j = fr j) : cntK fs f n = cntK fr f n := by
  induction n with
  | zero => rfl
  | succ n ih =>
    show cntK fs f n + _ = cntK fr f n + _
    rw [ih]
    by_cases c : i = n
    · subst c; rw [h0, if_neg (by omega), if_neg e]
    · rw [h n (fun d => c d.symm)]
theorem cntK_pos {fr : Nat → Nat} {f n i : Nat} (hi : i < n) (e : fr i = f + 1) : 1 ≤ cntK fr f n := by
  induction n with
  | zero => omega
  | succ n ih =>
    show 1 ≤ cntK fr f n + if fr n = f + 1 then 1 else 0
    by_cases c : i = n
    · subst c; rw [if_pos e]; omega
    · have := ih (by omega); omega
structure Cnt (m : Me) (k : Bk) : Prop where
  inv : Bd.Inv k.pool
  nb : Bd.NB k.pool 64
  le : ∀ i, i < 16 → m.fr i ≤ 64
  cnt : ∀ f, f < 64 → cntK m.fr f 16 ≤ k.refs f ∧ k.refs f < 2 ^ 59
def umM (m : Me) (a i : Nat) : Me := ⟨fun x => if a ≤ x ∧ x < i then 0 else m.is x, fun x => if a ≤ x ∧ x < i then 0 else m.fr x⟩
def umK (m : Me) (k : Bk) (a : Nat) : Nat → Bk
  | 0 => k
  | j + 1 => if m.fr (a + j) = 0 then umK m k a j else drp (umK m k a j) (m.fr (a + j) - 1)
def umC (m : Me) (a : Nat) : Nat → Nat
  | 0 => 0
  | j + 1 => umC m a j + if m.fr (a + j) = 0 then 0 else 1
theorem umC_le (m : Me) (a j : Nat) : umC m a j ≤ j := by
  induction j with
  | zero => exact Nat.le_refl 0
  | succ j ih => show umC m a j + _ ≤ j + 1; split <;> omega
theorem if_at (a j : Nat) {α} (x y : α) : (if a ≤ a + j ∧ a + j < a + (j + 1) then x else y) = x := if_pos (by omega)
theorem if_step {a j x : Nat} (h : x ≠ a + j) {α} (u v : α) : (if a ≤ x ∧ x < a + (j + 1) then u else v) = if a ≤ x ∧ x < a + j then u else v := by
  by_cases c : a ≤ x ∧ x < a + j
  · rw [if_pos c, if_pos (by omega)]
  · rw [if_neg c, if_neg (by omega)]
theorem Cnt.step {m : Me} {k : Bk} {a j : Nat} (h : Cnt (umM m a (a + j)) (umK m k a j)) (hj : a + j < 16) : Cnt (umM m a (a + (j + 1))) (umK m k a (j + 1)) := by
  have e0 : (umM m a (a + j)).fr (a + j) = m.fr (a + j) := if_neg (by omega)
  have e1 : (umM m a (a + (j + 1))).fr (a + j) = 0 := if_at a j _ _
  have e2 : ∀ x, x ≠ a + j → (umM m a (a + (j + 1))).fr x = (umM m a (a + j)).fr x := fun x hx => if_step hx _ _
  have le : ∀ i, i < 16 → (umM m a (a + (j + 1))).fr i ≤ 64 := fun i hi => by
    by_cases c : i = a + j
    · subst c; rw [e1]; omega
    · rw [e2 i c]; exact h.le i hi
  by_cases c : m.fr (a + j) = 0
  · have eK : umK m k a (j + 1) = umK m k a j := if_pos c
    rw [eK]
    refine ⟨h.inv, h.nb, le, fun f hf => ?_⟩
    rw [cntK_congr (fr := (umM m a (a + j)).fr) (fun x _ => by
      by_cases d : x = a + j
      · subst d; rw [e1, e0, c]
      · exact e2 x d)]
    exact h.cnt f hf
  · have eK : umK m k a (j + 1) = drp (umK m k a j) (m.fr (a + j) - 1) := if_neg c
    rw [eK]
    have l := h.le (a + j) hj
    rw [e0] at l
    have ip : Bd.Inv (drp (umK m k a j) (m.fr (a + j) - 1)).pool ∧ Bd.NB (drp (umK m k a j) (m.fr (a + j) - 1)).pool 64 := by
      show Bd.Inv (if _ then _ else _) ∧ Bd.NB (if _ then _ else _) 64
      split
      · exact h.inv.give h.nb _
      · exact ⟨h.inv, h.nb⟩
    refine ⟨ip.1, ip.2, le, fun f hf => ?_⟩
    have hc := h.cnt f hf
    show _ ≤ (if f = m.fr (a + j) - 1 then (umK m k a j).refs (m.fr (a + j) - 1) - 1 else (umK m k a j).refs f) ∧ (if f = m.fr (a + j) - 1 then (umK m k a j).refs (m.fr (a + j) - 1) - 1 else (umK m k a j).refs f) < 2 ^ 59
    by_cases d : f = m.fr (a + j) - 1
    · have := cntK_out (f := f) hj (by rw [e0]; omega) e1 e2
      rw [if_pos d, ← d]
      omega
    · rw [if_neg d, cntK_other (fr := (umM m a (a + j)).fr) (by rw [e0]; omega) e1 e2]
      exact hc
end Mv
theorem umM_step {m : Me} {a j x : Nat} (h : x ≠ a + j) : (Mv.umM m a (a + (j + 1))).is x = (Mv.umM m a (a + j)).is x ∧ (Mv.umM m a (a + (j + 1))).fr x = (Mv.umM m a (a + j)).fr x := ⟨Mv.if_step h _ _, Mv.if_step h _ _⟩
theorem umM_at (m : Me) (a j : Nat) : (Mv.umM m a (a + (j + 1))).is (a + j) = 0 ∧ (Mv.umM m a (a + (j + 1))).fr (a + j) = 0 := ⟨Mv.if_at a j _ _, Mv.if_at a j _ _⟩
end Go.Proofs.YtghogbngmcolmaaGreat
namespace Go.Proofs.YtghogbngmcolmaaGreat
open Go.RowKit
open Bd (P)
open Mv (Me Bk)
def Mv.unE (a n : Int) : Int := if badB a n = true then 1 else 0
def Mv.unC (m : Me) (a n : Int) : Nat := if badB a n = true then 0 else umC m a.toNat n.toNat
def Mv.unM (m : Me) (a n : Int) : Me := if badB a n = true then m else umM m a.toNat (a.toNat + n.toNat)
def Mv.unK (m : Me) (k : Bk) (a n : Int) : Bk := if badB a n = true then k else umK m k a.toNat n.toNat
end Go.Proofs.YtghogbngmcolmaaGreat
namespace Go.Proofs.YtghogbngmcolmaaGreat
open Go.RowKit
open Bd (P)
open Mv (Me Bk)
def cellV (q : Nat) (k : Bk) (o : Nat) : Value := if o = 0 then .pointer (some ⟨q, 0, none⟩) else if (o - 1) % 9 = 0 then .int .i64 (k.refs ((o - 1) / 9) : Int) else .int .u8 (k.byt ((o - 1) / 9) ((o - 1) % 9 - 1))
structure VAt (w : World) (r q : Nat) (k : Bk) : Prop where
  blk : ∃ C, w.heap[r]? = some (.cells C 182 (0, 0)) ∧ C.size = 577
  cell : ∀ o, o < 577 → w.cell? ⟨r, o, none⟩ = some (cellV q k o)
  pool : CAt w q k.pool
  ne : q ≠ r
section
variable {w w' : World} {r q : Nat} {k k' : Bk}
theorem VAt.drew (h : VAt w r q k) : VAt w.drew r q k := ⟨h.blk, h.cell, h.pool.drew, h.ne⟩
theorem VAt.frozen (h : VAt w r q k) (o : Nat) : w.frozen? ⟨r, o, none⟩ = false := by obtain ⟨C, h1, _⟩ := h.blk; exact frozen_blk h1 o
theorem VAt.lt (h : VAt w r q k) : r < w.heap.size := by obtain ⟨C, h1, _⟩ := h.blk; exact (Array.getElem?_eq_some_iff.1 h1).1
theorem VAt.ltq (h : VAt w r q k) : q < w.heap.size := h.pool.lt
theorem VAt.same (h : VAt w r q k) (e : w'.heap[r]? = w.heap[r]?) (e2 : w'.heap[q]? = w.heap[q]?) : VAt w' r q k := ⟨by rw [e]; exact h.blk, fun o ho => (World.cell?_of_block e).trans (h.cell o ho), h.pool.same e2, h.ne⟩
theorem VAt.below (h : VAt w r q k) (b : Below w.heap.size w w') : VAt w' r q k := h.same (b.block r h.lt) (b.block q h.ltq)
theorem VAt.withPool (h : VAt w r q k) {p : P} (f : Frm q w w') (kp : CAt w' q p) : VAt w' r q { k with pool := p } := by
  have e := f.block r h.lt (Ne.symm h.ne)
  exact ⟨by rw [e]; exact h.blk, fun o ho => (World.cell?_of_block e).trans (h.cell o ho), kp, h.ne⟩
theorem VAt.cP (h : VAt w r q k) : w.cell? ⟨r, 0, none⟩ = some (.pointer (some ⟨q, 0, none⟩)) := h.cell 0 (by omega)
theorem VAt.cRefs (h : VAt w r q k) (f : Nat) (hf : f < 64) : w.cell? ⟨r, 1 + f * 9, none⟩ = some (.int .i64 (k.refs f : Int)) := by
  rw [h.cell _ (by omega), cellV, if_neg (by omega), if_pos (by omega), show (1 + f * 9 - 1) / 9 = f by omega]
theorem CAt.far {p : P} (h : CAt w q p) (hne : q ≠ r) (o : Nat) (v : Value) : CAt (w.setCell ⟨r, o, none⟩ v) q p := h.same (setBlk _ _ _ _ hne)
theorem VAt.set (h : VAt w r q k) (o : Nat) (ho : o < 577) (v : Value) (hp : k'.pool = k.pool) (hv : ∀ i, i < 577 → cellV q k' i = if i = o then v else cellV q k i) : VAt (w.setCell ⟨r, o, none⟩ v) r q k' := by
  obtain ⟨C, h1, h2⟩ := h.blk
  refine ⟨⟨_, blk_set h1 _ v, by simpa using h2⟩, fun i hi => ?_, by rw [hp]; exact h.pool.far h.ne o v, h.ne⟩
  rw [hv i hi]
  by_cases e : i = o
  · subst e; rw [cell_set_same h1 _ v (by omega), if_pos rfl]
  · rw [cell_set_ne h1 _ _ v (Ne.symm e), if_neg e]; exact h.cell i hi
theorem VAt.setRefs (h : VAt w r q k) (f v : Nat) (hf : f < 64) : VAt (w.setCell ⟨r, 1 + f * 9, none⟩ (.int .i64 (v : Int))) r q { k with refs := fun g => if g = f then v else k.refs g } := by
  refine h.set (1 + f * 9) (by omega) _ rfl (fun x hx => ?_)
  unfold cellV
  by_cases c0 : x = 0
  · rw [if_pos c0, if_pos c0, if_neg (by omega)]
  · rw [if_neg c0, if_neg c0]
    by_cases c : (x - 1) % 9 = 0
    · rw [if_pos c, if_pos c]
      by_cases e : x = 1 + f * 9
      · rw [if_pos e]; simp [show (x - 1) / 9 = f by omega]
      · rw [if_neg e]; simp [show (x - 1) / 9 ≠ f by omega]
    · rw [if_neg c, if_neg c, if_neg (by omega)]
end
def cellU (r : Nat) (m : Me) (o : Nat) : Value := if o = 0 then .pointer (some ⟨r, 0, none⟩) else if (o - 1) % 2 = 0 then .int .i64 (m.is ((o - 1) / 2) : Int) else .int .i64 ((m.fr ((o - 1) / 2) : Int) - 1)
structure UAt (w : World) (b r : Nat) (m : Me) : Prop where
  blk : ∃ C, w.heap[b]? = some (.cells C 123 (0, 0)) ∧ C.size = 33
  cell : ∀ o, o < 33 → w.cell? ⟨b, o, none⟩ = some (cellU r m o)
section
variable {w w' : World} {b r : Nat} {m m' : Me}
theorem UAt.drew (h : UAt w b r m) : UAt w.drew b r m := ⟨h.blk, h.cell⟩
theorem UAt.frozen (h : UAt w b r m) (o : Nat) : w.frozen? ⟨b, o, none⟩ = false := by obtain ⟨C, h1, _⟩ := h.blk; exact frozen_blk h1 o
theorem UAt.lt (h : UAt w b r m) : b < w.heap.size := by obtain ⟨C, h1, _⟩ := h.blk; exact (Array.getElem?_eq_some_iff.1 h1).1
theorem UAt.same (h : UAt w b r m) (e : w'.heap[b]? = w.heap[b]?) : UAt w' b r m := ⟨by rw [e]; exact h.blk, fun o ho => (World.cell?_of_block e).trans (h.cell o ho)⟩
theorem UAt.below (h : UAt w b r m) (k : Below w.heap.size w w') : UAt w' b r m := h.same (k.block b h.lt)
theorem UAt.congr (h : UAt w b r m) (e : ∀ n, n < 16 → m'.is n = m.is n ∧ m'.fr n = m.fr n) : UAt w b r m' := ⟨h.blk, fun o ho => by
  rw [h.cell o ho]
  unfold cellU
  by_cases c : o = 0
  · rw [if_pos c, if_pos c]
  · rw [if_neg c, if_neg c, (e _ (by omega)).1, (e _ (by omega)).2]⟩
theorem UAt.cBank (h : UAt w b r m) : w.cell? ⟨b, 0, none⟩ = some (.pointer (some ⟨r, 0, none⟩)) := h.cell 0 (by omega)
theorem UAt.cIs (h : UAt w b r m) (i : Nat) (hi : i < 16) : w.cell? ⟨b, 1 + i * 2, none⟩ = some (.int .i64 (m.is i : Int)) := by
  rw [h.cell _ (by omega), cellU, if_neg (by omega), if_pos (by omega), show (1 + i * 2 - 1) / 2 = i by omega]
theorem UAt.cFr (h : UAt w b r m) (i : Nat) (hi : i < 16) : w.cell? ⟨b, 1 + i * 2 + 1, none⟩ = some (.int .i64 ((m.fr i : Int) - 1)) := by
  rw [h.cell _ (by omega), cellU, if_neg (by omega), if_neg (by omega), show (1 + i * 2 + 1 - 1) / 2 = i by omega]
theorem UAt.set (h : UAt w b r m) (o : Nat) (ho : o < 33) (v : Value) (hv : ∀ i, i < 33 → cellU r m' i = if i = o then v else cellU r m i) : UAt (w.setCell ⟨b, o, none⟩ v) b r m' := by
  obtain ⟨C, h1, h2⟩ := h.blk
  refine ⟨⟨_, blk_set h1 _ v, by simpa using h2⟩, fun i hi => ?_⟩
  rw [hv i hi]
  by_cases e : i = o
  · subst e; rw [cell_set_same h1 _ v (by omega), if_pos rfl]
  · rw [cell_set_ne h1 _ _ v (Ne.symm e), if_neg e]; exact h.cell i hi
theorem UAt.setIs (h : UAt w b r m) (i v : Nat) (hi : i < 16) : UAt (w.setCell ⟨b, 1 + i * 2, none⟩ (.int .i64 (v : Int))) b r { m with is := upn m.is i v } := by
  refine h.set (1 + i * 2) (by omega) _ (fun x hx => ?_)
  unfold cellU upn
  by_cases c0 : x = 0
  · rw [if_pos c0, if_pos c0, if_neg (by omega)]
  · rw [if_neg c0, if_neg c0]
    by_cases c : (x - 1) % 2 = 0
    · rw [if_pos c, if_pos c]
      by_cases e : x = 1 + i * 2
      · rw [if_pos e]; simp [show (x - 1) / 2 = i by omega]
      · rw [if_neg e]; simp [show (x - 1) / 2 ≠ i by omega]
    · rw [if_neg c, if_neg c, if_neg (by omega)]
theorem UAt.setFr (h : UAt w b r m) (i v : Nat) (hi : i < 16) (u : Int) (hu : u = (v : Int) - 1) : UAt (w.setCell ⟨b, 1 + i * 2 + 1, none⟩ (.int .i64 u)) b r { m with fr := upn m.fr i v } := by
  subst hu
  refine h.set (1 + i * 2 + 1) (by omega) _ (fun x hx => ?_)
  unfold cellU upn
  by_cases c0 : x = 0
  · rw [if_pos c0, if_pos c0, if_neg (by omega)]
  · rw [if_neg c0, if_neg c0]
    by_cases c : (x - 1) % 2 = 0
    · rw [if_pos c, if_pos c, if_neg (by omega)]
    · rw [if_neg c, if_neg c]
      by_cases e : x = 1 + i * 2 + 1
      · rw [if_pos e]; simp [show (x - 1) / 2 = i by omega]
      · rw [if_neg e]; simp [show (x - 1) / 2 ≠ i by omega]
end
structure UB (w : World) (b r q : Nat) (m : Me) (k : Bk) : Prop where
  me : UAt w b r m
  bk : VAt w r q k
  br : b ≠ r
  bq : b ≠ q
section
variable {b r q : Nat} {u v w : World}
theorem VAt.frm {k : Bk} (h : VAt u r q k) (f : Frm b u v) (h1 : b ≠ r) (h2 : b ≠ q) : VAt v r q k := h.same (f.block r h.lt (Ne.symm h1)) (f.block q h.ltq (Ne.symm h2))
theorem UAt.two {m : Me} (h : UAt u b r m) (f : Two r q u v) (h1 : b ≠ r) (h2 : b ≠ q) : UAt v b r m := h.same (f.block b h.lt h1 h2)
theorem UB.below {m : Me} {k : Bk} (h : UB u b r q m k) (f : Below u.heap.size u v) : UB v b r q m k := ⟨h.me.below f, h.bk.below f, h.br, h.bq⟩
theorem UB.drew {m : Me} {k : Bk} (h : UB u b r q m k) : UB u.drew b r q m k := ⟨h.me.drew, h.bk.drew, h.br, h.bq⟩
theorem Thr.drew (h : Thr b r q u v) : Thr b r q u v.drew := ⟨h.os, h.tape, h.output, h.size, h.block⟩
theorem Thr.below (h : Below u.heap.size u v) : Thr b r q u v := ⟨h.os, h.tape, h.output, h.size, fun k hk _ _ _ => h.block k hk⟩
end
end Go.Proofs.YtghogbngmcolmaaGreat
namespace Go.Proofs.YtghogbngmcolmaaGreat
open Go.RowKit
open Bd (P)
open Mv (Me Bk)
def vzA : Array Value := ((List.range 577).map fun i => if i = 0 then Value.pointer none else if (i - 1) % 9 = 0 then Value.int .i64 0 else .int .u8 0).toArray
set_option maxRecDepth 100000 in
theorem vz_eq : Tryz.zeroCells182 = vzA := by kernel_rfl
theorem vz_at (i : Nat) (h : i < 577) : vzA[i]? = some (if i = 0 then Value.pointer none else if (i - 1) % 9 = 0 then Value.int .i64 0 else .int .u8 0) := by simp [vzA, h]
theorem v_new {w : World} {r q : Nat} (h : w.heap[r]? = some (.cells (vzA.setIfInBounds 0 (.pointer (some ⟨q, 0, none⟩))) 182 (0, 0))) (hp : CAt w q Bd.b0) (hne : q ≠ r) : VAt w r q Mv.bk0 := by
  refine ⟨⟨_, h, by simp [vzA]⟩, fun o ho => ?_, hp, hne⟩
  rw [cell_blk h]
  unfold cellV
  by_cases c : o = 0
  · subst c; rw [Array.getElem?_setIfInBounds_self_of_lt (by simp [vzA]), if_pos rfl]
  · rw [Array.getElem?_setIfInBounds_ne (by omega), vz_at o ho, if_neg c, if_neg c]
    split <;> rfl
set_option maxRecDepth 100000 in
set_option maxHeartbeats 1000000 in
theorem vnewBank_any (w : World) : Calls Tryz.prog 55 #[] w fun e w' => ∃ r, e = .returned (.pointer (some ⟨r, 0, none⟩)) ∧ VAt w' r w.heap.size Mv.bk0 ∧ Below w.heap.size w w' ∧ w.heap.size < r := by
  go_enter Tryz.func55, Tryz.ntmps55
  go_wp2_with fail
  refine (cnew_any _).mono ?_
  rintro e w1 ⟨rfl, hk, hb, hs⟩
  have FIN : Hid (VAt (w1.alloc (.cells (Tryz.zeroCells182.setIfInBounds 0 (.pointer (some ⟨w.heap.size, 0, none⟩))) 182)) w1.heap.size w.heap.size Mv.bk0 ∧ Below w.heap.size w (w1.alloc (.cells (Tryz.zeroCells182.setIfInBounds 0 (.pointer (some ⟨w.heap.size, 0, none⟩))) 182)) ∧ w.heap.size < w1.heap.size) := Hid.intro (by
    rw [vz_eq]
    have bb : Below w1.heap.size w1 (w1.alloc (.cells (vzA.setIfInBounds 0 (.pointer (some ⟨w.heap.size, 0, none⟩))) 182)) := (Below.refl _ _).alloc (Nat.le_refl _) _
    exact ⟨v_new (heap_alloc_new w1 _) (hk.same (bb.block _ hs)) (by omega), hb.alloc (by omega) _, hs⟩)
  clear hk hb hs
  go_wp2_with fail
  go_ret
  exact ⟨_, rfl, FIN.out⟩
set_option maxRecDepth 100000 in
set_option maxHeartbeats 1000000 in
theorem vleave_any (r q f : Nat) (k : Bk) (w : World) (h : VAt w r q k) (hf : f < 64) (hI : Bd.Inv k.pool) (h1 : 1 ≤ k.refs f) (h2 : k.refs f < 2 ^ 60) :
    Calls Tryz.prog 155 #[.pointer (some ⟨r, 0, none⟩), .int .i64 f] w fun e w' => e = .returned (.tuple #[]) ∧ VAt w' r q (Mv.drp k f) ∧ Two r q w w' := by
  have HI := Hid.intro hI
  have c1 := h.cRefs f hf
  have cf := h.frozen
  have fI : (f : Int) < 64 := by omega
  obtain ⟨n, hn⟩ : ∃ n, k.refs f = n + 1 := ⟨k.refs f - 1, by omega⟩
  have S1 : Hid (VAt ((w.setCell ⟨r, 1 + f * 9, none⟩ (.int .i64 (n : Int))).drew) r q { k with refs := fun g => if g = f then n else k.refs g } ∧ Two r q w ((w.setCell ⟨r, 1 + f * 9, none⟩ (.int .i64 (n : Int))).drew)) := Hid.intro ⟨(h.setRefs f n hf).drew, ((Two.refl r q w).left ((Frm.refl r w).setCell _ _)).drew⟩
  have HD : Hid (Mv.drp k f = { k with refs := fun g => if g = f then n else k.refs g, pool := if n = 0 then Bd.giveT k.pool f else k.pool }) := Hid.intro (by
    unfold Mv.drp
    rw [hn, show n + 1 - 1 = n from rfl]
    cases n <;> rfl)
  rw [hn] at c1 h2
  have hw : IntKind.i64.wrap (((n + 1 : Nat) : Int) - 1) = (n : Int) := by rw [IntWalk.i64_in _ ⟨by omega, by omega⟩]; omega
  clear h hI h1 hn
  go_enter Tryz.func155, Tryz.ntmps155
  go_wp2_with fail
  go_region
  generalize hW1 : World.drew _ = W1
  have S2 : Hid (VAt W1 r q { k with refs := fun g => if g = f then n else k.refs g } ∧ Two r q w W1) := Hid.intro (by rw [← hW1]; exact S1.out)
  have d1 : W1.cell? ⟨r, 1 + f * 9, none⟩ = some (.int .i64 (n : Int)) := by
    have := S2.out.1.cRefs f hf
    rw [this]
    show some (Value.int .i64 (((if f = f then n else k.refs f) : Nat) : Int)) = _
    rw [if_pos rfl]
  have d0 := S2.out.1.cP
  clear hW1 c1 cf S1
  by_cases e0 : n = 0
  · subst e0
    have d1' : W1.cell? ⟨r, 1 + f * 9, none⟩ = some (.int .i64 0) := d1
    clear d1
    go_wp2_with fail
    refine (cgive_any q f k.pool _ S2.out.1.pool HI.out).mono ?_
    rintro e w2 ⟨rfl, kp, F⟩
    have S3 : Hid (VAt w2 r q (Mv.drp k f) ∧ Two r q w w2) := Hid.intro ⟨by rw [HD.out]; exact S2.out.1.withPool F kp, S2.out.2.right F⟩
    clear kp F
    go_wp2_with fail
    go_end0
    exact ⟨rfl, S3.out⟩
  · have e0' : ((n : Int) == 0) = false := by simp; omega
    have S3 : Hid (VAt W1 r q (Mv.drp k f) ∧ Two r q w W1) := Hid.intro ⟨by rw [HD.out, if_neg e0]; exact S2.out.1, S2.out.2⟩
    go_wp2_with fail
    go_end0
    exact ⟨rfl, S3.out⟩
end Go.Proofs.YtghogbngmcolmaaGreat
namespace Go.Proofs.YtghogbngmcolmaaGreat
open Go.RowKit
open Bd (P)
open Mv (Me Bk)
def rowP (m : Me) : List Value := (List.range 32).map fun o => if o % 2 = 0 then Value.int .i64 (m.is (o / 2) : Int) else .int .i64 ((m.fr (o / 2) : Int) - 1)
theorem rowP_len (m : Me) : (rowP m).length = 32 := by simp [rowP]
theorem UAt.range {w : World} {b r : Nat} {m : Me} (h : UAt w b r m) : w.rangeAt b 1 (rowP m) := fun j v hv => by
  have hj : j < 32 := by have := (List.getElem?_eq_some_iff.1 hv).1; rwa [rowP_len] at this
  simp [rowP, hj] at hv
  rw [h.cell _ (by omega), ← hv]
  unfold cellU
  rw [if_neg (by omega), show 1 + j - 1 = j by omega]
theorem rowP_ex (m : Me) (x : Nat) (h : x < 16) : (rowP m).toArray.extract (x * 2) (x * 2 + 2) = #[.int .i64 (m.is x : Int), .int .i64 ((m.fr x : Int) - 1)] := by
  have hs : (rowP m).toArray.size = 32 := by simp [rowP]
  apply Array.ext_getElem?
  intro i
  rw [Array.getElem?_extract]
  by_cases hi : i < 2
  · rw [if_pos (by rw [hs]; omega)]
    have e : (rowP m).toArray[x * 2 + i]? = some (if (x * 2 + i) % 2 = 0 then Value.int .i64 (m.is ((x * 2 + i) / 2) : Int) else .int .i64 ((m.fr ((x * 2 + i) / 2) : Int) - 1)) := by
      simp [rowP, show x * 2 + i < 32 by omega]
    rw [e, show (x * 2 + i) / 2 = x by omega]
    match i, hi with
    | 0, _ => rw [if_pos (by omega)]; rfl
    | 1, _ => rw [if_neg (by omega)]; rfl
  · rw [if_neg (by rw [hs]; omega), Array.getElem?_eq_none (by simp; omega)]
theorem index_rowP (m : Me) (x : Nat) (h : x < 16) (w : World) : Sem.run Tryz.prog (Instr.index 121 (Value.agg (rowP m).toArray) (Value.int IntKind.i64 x)) w = .ok (.agg #[.int .i64 (m.is x : Int), .int .i64 ((m.fr x : Int) - 1)]) w := by
  have hu : Tryz.prog.underlying 121 = some (.array 16 120) := by kernel_rfl
  have hx := rowP_ex m x h
  have h1 : (x : Int) < 16 := by omega
  obtain ⟨A, hA⟩ : ∃ A, (rowP m).toArray = A := ⟨_, rfl⟩
  rw [hA] at hx ⊢
  simp [Instr.index, Sem.run_bind, run_underlying hu, go_sem, hx]
  intro c; omega
theorem rowP_size (m : Me) : (Tryz.prog.info? 121).map (·.size) = some (rowP m).length := by rw [rowP_len]; kernel_rfl
set_option maxRecDepth 100000 in
set_option maxHeartbeats 1000000 in
theorem vresident_any (b r : Nat) (m : Me) (w : World) (h : UAt w b r m) :
    Calls Tryz.prog 30 #[.pointer (some ⟨b, 0, none⟩)] w fun e w' => e = .returned (.int .i64 (Mv.resK m 16 : Int)) ∧ Below w.heap.size w w' := by
  have hsz := Hid.intro (rowP_size m)
  have HR := Hid.intro h.range
  clear h
  go_enter Tryz.func30, Tryz.ntmps30
  go_wp2_with (refine wpList_load_mid rfl 121 _ rfl b 1 rfl (rowP m) (.array 16 120) HR.out (by kernel_rfl) rfl hsz.out ?_)
  go_loopw [3, 10] (fun s i wr => ∃ (k : Nat), i = .int .i64 k ∧ s = .int .i64 (Mv.resK m k : Int) ∧ k ≤ 16 ∧ Hid (Below w.heap.size w wr)) (fun _ i _ => 16 - (intOf i).toNat)
  case atStart => exact ⟨0, rfl, rfl, by omega, Below.refl _ _⟩
  case round =>
    obtain ⟨k, rfl, rfl, hk, T⟩ := hrel
    by_cases hlt : k < 16
    · have hltI : (k : Int) < 16 := by omega
      have hix := index_rowP m k hlt
      have LS : Hid (Mv.resK m (k + 1) = Mv.resK m k + if m.fr k = 0 then 0 else 1) := Hid.intro rfl
      have BL : Hid (∀ o, Below w.heap.size w (wr.alloc o)) := Hid.intro (fun o => T.out.alloc T.out.size o)
      have lb := resK_le m k
      generalize m.is k = u0 at *
      generalize m.fr k = u at *
      by_cases e1 : u = 0
      · have LE : Hid (Mv.resK m (k + 1) = Mv.resK m k) := Hid.intro (by rw [LS.out, if_pos e1]; rfl)
        subst e1
        clear LS
        go_wp2_with fail
        go_roundw
        case rel => exact ⟨k + 1, by go_num, by rw [LE.out], by omega, BL.out _⟩
        case measure => simp [intOf]; omega
      · have LE : Hid (Mv.resK m (k + 1) = Mv.resK m k + 1) := Hid.intro (by rw [LS.out, if_neg e1])
        have e1' : ((u : Int) - 1 == -1) = false := by simp; omega
        generalize Mv.resK m k = lk at *
        clear LS e1
        go_wp2_with fail
        go_roundw
        case rel => exact ⟨k + 1, by go_num, by rw [LE.out]; go_num, by omega, BL.out _⟩
        case measure => simp [intOf]; omega
    · have hk64 : k = 16 := by omega
      subst hk64
      go_wp2_with fail
      go_ret
      exact ⟨rfl, T.out⟩
end Go.Proofs.YtghogbngmcolmaaGreat
namespace Go.Proofs.YtghogbngmcolmaaGreat
open Go.RowKit
open Bd (P)
open Mv (Me Bk)
def uzA (r : Nat) : Array Value := ((List.range 33).map fun o => if o = 0 then Value.pointer (some ⟨r, 0, none⟩) else .int .i64 0).toArray
theorem uz_at (r i : Nat) (h : i < 33) : (uzA r)[i]? = some (if i = 0 then Value.pointer (some ⟨r, 0, none⟩) else .int .i64 0) := by simp [uzA, h]
def Mv.me0 : Me := ⟨fun _ => 0, fun _ => 0⟩
def Mv.meK (k : Nat) : Me := ⟨fun _ => 0, fun n => if n < k then 0 else 1⟩
theorem u_zero {w : World} {b r : Nat} (h : w.heap[b]? = some (.cells (uzA r) 123 (0, 0))) : UAt w b r (Mv.meK 0) := by
  refine ⟨⟨_, h, by simp [uzA]⟩, fun o ho => ?_⟩
  rw [cell_blk h, uz_at r o ho]
  unfold cellU
  by_cases c : o = 0
  · rw [if_pos c, if_pos c]
  · rw [if_neg c, if_neg c]
    split
    · rfl
    · simp [Mv.meK]
set_option maxRecDepth 100000 in
set_option maxHeartbeats 1000000 in
theorem vnew_any (r : Nat) (w : World) : Calls Tryz.prog 103 #[.pointer (some ⟨r, 0, none⟩)] w fun e w' => e = .returned (.pointer (some ⟨w.heap.size, 0, none⟩)) ∧ UAt w' w.heap.size r Mv.me0 ∧ Below w.heap.size w w' := by
  have S0 : Hid (∀ C, C = uzA r → UAt (w.alloc (.cells C 123)) w.heap.size r (Mv.meK 0) ∧ Below w.heap.size w (w.alloc (.cells C 123))) := Hid.intro (fun C hC => by
    subst hC
    exact ⟨u_zero (heap_alloc_new w _), (Below.refl _ _).alloc (Nat.le_refl _) _⟩)
  go_enter Tryz.func103, Tryz.ntmps103
  go_wp2_with fail
  refine wp_gen (fun W => UAt W w.heap.size r (Mv.meK 0) ∧ Below w.heap.size w W) (S0.out _ rfl) ?_
  intro W1 h1
  have S1 := Hid.intro h1
  clear h1 S0
  obtain ⟨b, hb⟩ : ∃ b, w.heap.size = b := ⟨_, rfl⟩
  rw [hb] at S1 ⊢
  have HB := Hid.intro hb
  clear hb
  go_loopw [8] (fun i wr => ∃ (k : Nat), i = .int .i64 k ∧ k ≤ 16 ∧ Hid (UAt wr b r (Mv.meK k) ∧ Below b w wr)) (fun i _ => 16 - (intOf i).toNat)
  case atStart => exact ⟨0, rfl, by omega, S1⟩
  case round =>
    clear S1
    obtain ⟨k, rfl, hk, S⟩ := hrel
    by_cases hlt : k < 16
    · have hltI : (k : Int) < 16 := by omega
      have c1 := S.out.1.cFr k hlt
      have cf := S.out.1.frozen
      have S2 : Hid (UAt (wr.setCell ⟨b, 1 + k * 2 + 1, none⟩ (.int .i64 (-1))) b r (Mv.meK (k + 1)) ∧ Below b w (wr.setCell ⟨b, 1 + k * 2 + 1, none⟩ (.int .i64 (-1)))) := Hid.intro ⟨(S.out.1.setFr k 0 hlt (-1) rfl).congr (fun n _ => ⟨rfl, by
        show (if n < k + 1 then 0 else 1) = (if n = k then 0 else if n < k then 0 else 1)
        by_cases c : n = k
        · rw [if_pos c, if_pos (by omega)]
        · rw [if_neg c]
          by_cases d : n < k
          · rw [if_pos d, if_pos (by omega)]
          · rw [if_neg d, if_neg (by omega)]⟩), S.out.2.setCell (Nat.le_refl _) _⟩
      go_wp2_with fail
      go_roundw
      case rel => exact ⟨k + 1, by go_num, by omega, S2⟩
      case measure => simp [intOf]; omega
    · have hk16 : k = 16 := by omega
      subst hk16
      have FIN : Hid (UAt wr b r Mv.me0) := Hid.intro (S.out.1.congr (fun n hn => ⟨rfl, by show 0 = if n < 16 then 0 else 1; rw [if_pos hn]⟩))
      go_wp2_with fail
      go_ret
      rw [HB.out]
      exact ⟨rfl, FIN.out, S.out.2⟩
set_option maxRecDepth 100000 in
set_option maxHeartbeats 400000 in
theorem vspan_bad (b : Nat) (a n : Int) (w : World) (k : Mv.badB a n = true) : Calls Tryz.prog 154 #[.pointer (some ⟨b, 0, none⟩), .int .i64 a, .int .i64 n] w fun e w' => e = .returned (.tuple #[.slice none 0 0, errV 1]) ∧ w' = w := by
  unfold Mv.badB at k
  rw [decide_eq_true_iff] at k
  by_cases h1 : n < 1
  · clear k
    go_enter Tryz.func154, Tryz.ntmps154
    go_wp2
    go_ret2
    exact ⟨rfl, rfl⟩
  · have d1 : decide (n < 1) = false := decide_eq_false h1
    by_cases h2 : a < 0
    · clear k h1
      go_enter Tryz.func154, Tryz.ntmps154
      go_wp2
      go_ret2
      exact ⟨rfl, rfl⟩
    · have d2 : decide (a < 0) = false := decide_eq_false h2
      by_cases h3 : 16 ≤ a
      · clear k h1 h2
        go_enter Tryz.func154, Tryz.ntmps154
        go_wp2
        go_ret2
        exact ⟨rfl, rfl⟩
      · have d3 : decide (16 ≤ a) = false := decide_eq_false h3
        have h4 : 16 - a < n := by omega
        have hw : IntKind.i64.wrap (16 - a) = 16 - a := IntWalk.i64_in _ ⟨by omega, by omega⟩
        clear k h1 h2 h3
        go_enter Tryz.func154, Tryz.ntmps154
        go_wp2
        go_ret2
        exact ⟨rfl, rfl⟩
set_option maxRecDepth 100000 in
set_option maxHeartbeats 400000 in
theorem vspan_ok (b x n : Nat) (w : World) (hx : x < 16) (h1 : 1 ≤ n) (hn : x + n ≤ 16) : Calls Tryz.prog 154 #[.pointer (some ⟨b, 0, none⟩), .int .i64 x, .int .i64 n] w fun e w' => e = .returned (.tuple #[.slice (some ⟨b, 1 + x * 2, none⟩) n (16 - x), errV 0]) ∧ w' = w := by
  have d1 : decide ((n : Int) < 1) = false := by simp; omega
  have d3 : decide (16 ≤ (x : Int)) = false := by simp; omega
  have hw : IntKind.i64.wrap (16 - (x : Int)) = 16 - (x : Int) := IntWalk.i64_in _ ⟨by omega, by omega⟩
  have d4 : decide (16 - (x : Int) < (n : Int)) = false := by simp; omega
  have hw2 : IntKind.i64.wrap ((x : Int) + (n : Int)) = (x : Int) + (n : Int) := IntWalk.i64_in _ ⟨by omega, by omega⟩
  have d5 : (x : Int) + (n : Int) ≤ 16 := by omega
  have d6 : (x : Int) ≤ (x : Int) + (n : Int) := by omega
  go_enter Tryz.func154, Tryz.ntmps154
  go_wp2_with fail
  rw [show x + n - x = n by omega]
  go_ret2
  exact ⟨rfl, rfl⟩
theorem UAt.cIs2 {w : World} {b r : Nat} {m : Me} (h : UAt w b r m) (x j : Nat) (hj : x + j < 16) : w.cell? ⟨b, 1 + x * 2 + j * 2, none⟩ = some (.int .i64 (m.is (x + j) : Int)) := by
  have := h.cIs (x + j) hj
  rw [show 1 + (x + j) * 2 = 1 + x * 2 + j * 2 by omega] at this
  exact this
theorem UAt.cFr2 {w : World} {b r : Nat} {m : Me} (h : UAt w b r m) (x j : Nat) (hj : x + j < 16) : w.cell? ⟨b, 1 + x * 2 + j * 2 + 1, none⟩ = some (.int .i64 ((m.fr (x + j) : Int) - 1)) := by
  have := h.cFr (x + j) hj
  rw [show 1 + (x + j) * 2 + 1 = 1 + x * 2 + j * 2 + 1 by omega] at this
  exact this
end Go.Proofs.YtghogbngmcolmaaGreat
namespace Go.Proofs.YtghogbngmcolmaaGreat
open Go.RowKit
open Bd (P)
open Mv (Me Bk)
def UV (b r q x : Nat) (m : Me) (k : Bk) (w0 : World) (j : Nat) (w : World) : Prop := UB w b r q (Mv.umM m x (x + j)) (Mv.umK m k x j) ∧ Thr b r q w0 w ∧ Mv.Cnt (Mv.umM m x (x + j)) (Mv.umK m k x j)
theorem UV.start {b r q x : Nat} {m : Me} {k : Bk} {w : World} (h : UB w b r q m k) (C : Mv.Cnt m k) : UV b r q x m k w 0 w := by
  have e1 : ∀ i, (Mv.umM m x (x + 0)).is i = m.is i := fun i => if_neg (by omega)
  have e2 : ∀ i, (Mv.umM m x (x + 0)).fr i = m.fr i := fun i => if_neg (by omega)
  refine ⟨⟨h.me.congr (fun i _ => ⟨e1 i, e2 i⟩), h.bk, h.br, h.bq⟩, Thr.refl _ _ _ _, C.inv, C.nb, fun i hi => by rw [e2]; exact C.le i hi, fun f hf => ?_⟩
  rw [Mv.cntK_congr (fr := m.fr) (fun i _ => e2 i)]
  exact C.cnt f hf
theorem UV.below {b r q x j : Nat} {m : Me} {k : Bk} {w0 w w' : World} (h : UV b r q x m k w0 j w) (B : Below w.heap.size w w') : UV b r q x m k w0 j w' := ⟨h.1.below B, h.2.1.trans (Thr.below B), h.2.2⟩
theorem UV.fr {b r q x j : Nat} {m : Me} {k : Bk} {w0 w : World} (_ : UV b r q x m k w0 j w) : (Mv.umM m x (x + j)).fr (x + j) = m.fr (x + j) ∧ (Mv.umM m x (x + j)).is (x + j) = m.is (x + j) := ⟨if_neg (by omega), if_neg (by omega)⟩
theorem UV.step {b r q x j : Nat} {m : Me} {k : Bk} {w0 w w2 : World} (h : UV b r q x m k w0 j w) (hj : x + j < 16) (me : UAt w2 b r (Mv.umM m x (x + j))) (bk : VAt w2 r q (Mv.umK m k x (j + 1))) (t : Thr b r q w0 w2) :
    UV b r q x m k w0 (j + 1) ((w2.setCell ⟨b, 1 + x * 2 + j * 2, none⟩ (.int .i64 0)).setCell ⟨b, 1 + x * 2 + j * 2 + 1, none⟩ (.int .i64 (-1))) := by
  have f : Frm b w2 ((w2.setCell ⟨b, 1 + x * 2 + j * 2, none⟩ (.int .i64 0)).setCell ⟨b, 1 + x * 2 + j * 2 + 1, none⟩ (.int .i64 (-1))) := ((Frm.refl b w2).setCell _ _).setCell _ _
  have a := (me.setIs (x + j) 0 hj).setFr (x + j) 0 hj (-1) rfl
  rw [show 1 + (x + j) * 2 = 1 + x * 2 + j * 2 by omega] at a
  refine ⟨⟨a.congr (fun i _ => ?_), bk.frm f h.1.br h.1.bq, h.1.br, h.1.bq⟩, t.trans (Thr.mem f), h.2.2.step hj⟩
  show _ = upn _ _ _ i ∧ _ = upn _ _ _ i
  unfold upn
  by_cases d : i = x + j
  · subst d; rw [if_pos rfl, if_pos rfl]; exact umM_at m x j
  · rw [if_neg d, if_neg d]; exact umM_step d
set_option maxRecDepth 100000 in
set_option maxHeartbeats 2000000 in
theorem vunmap_ok (b r q x n : Nat) (m : Me) (k : Bk) (w : World) (h : UB w b r q m k) (C : Mv.Cnt m k) (hx : x < 16) (h1 : 1 ≤ n) (hn : x + n ≤ 16) :
    Calls Tryz.prog 145 #[.pointer (some ⟨b, 0, none⟩), .int .i64 x, .int .i64 n] w fun e w' => e = .returned (.tuple #[.int .i64 (Mv.umC m x n : Int), errV 0]) ∧ UB w' b r q (Mv.umM m x (x + n)) (Mv.umK m k x n) ∧ Thr b r q w w' := by
  have S0 : Hid (UV b r q x m k w 0 w) := Hid.intro (UV.start h C)
  have SP := Hid.intro (vspan_ok b x n w hx h1 hn)
  clear h C
  go_enter Tryz.func145, Tryz.ntmps145
  go_wp2_with fail
  refine SP.out.mono ?_
  rintro e w1 ⟨rfl, hw⟩
  subst w1
  rw [errV_zero]
  go_wp2_with fail
  go_loopw [10, 25] (fun s i wr => ∃ (j : Nat), i = .int .i64 j ∧ s = .int .i64 (Mv.umC m x j : Int) ∧ j ≤ n ∧ Hid (UV b r q x m k w j wr)) (fun _ i _ => n - (intOf i).toNat)
  case atStart => exact ⟨0, rfl, rfl, by omega, S0⟩
  case round =>
    clear S0
    obtain ⟨j, rfl, rfl, hj, S⟩ := hrel
    by_cases hlt : j < n
    · have hltI : (j : Int) < (n : Int) := by omega
      have c0 := S.out.1.me.cIs2 x j (by omega)
      have c1 := S.out.1.me.cFr2 x j (by omega)
      have cf := S.out.1.me.frozen
      rw [S.out.fr.1] at c1
      have hbs : b < wr.heap.size := S.out.1.me.lt
      have hbn : b ≠ wr.heap.size := by omega
      have lc := Mv.umC_le m x j
      by_cases f0 : m.fr (x + j) = 0
      · have LE : Hid (Mv.umC m x (j + 1) = Mv.umC m x j) := Hid.intro (by show Mv.umC m x j + (if m.fr (x + j) = 0 then 0 else 1) = _; rw [if_pos f0]; rfl)
        have KE : Hid (Mv.umK m k x (j + 1) = Mv.umK m k x j) := Hid.intro (if_pos f0)
        rw [f0] at c1
        have c1' : wr.cell? ⟨b, 1 + x * 2 + j * 2 + 1, none⟩ = some (.int .i64 (-1)) := c1
        have NX : Hid (∀ o, UV b r q x m k w (j + 1) (((wr.setCell ⟨b, 1 + x * 2 + j * 2, none⟩ (.int .i64 0)).setCell ⟨b, 1 + x * 2 + j * 2 + 1, none⟩ (.int .i64 (-1))).alloc o)) := Hid.intro (fun o =>
          (S.out.step (by omega) S.out.1.me (by rw [KE.out]; exact S.out.1.bk) S.out.2.1).below ((Below.refl _ _).alloc (Nat.le_refl _) o))
        clear f0 c1
        go_wp2_with fail
        go_roundw
        case rel => exact ⟨j + 1, by go_num, by rw [LE.out], by omega, NX.out _⟩
        case measure => simp [intOf]; omega
      · obtain ⟨v, hv⟩ : ∃ v, m.fr (x + j) = v + 1 := ⟨m.fr (x + j) - 1, by omega⟩
        have LE : Hid (Mv.umC m x (j + 1) = Mv.umC m x j + 1) := Hid.intro (by show Mv.umC m x j + (if m.fr (x + j) = 0 then 0 else 1) = _; rw [if_neg f0])
        have KE : Hid (Mv.umK m k x (j + 1) = Mv.drp (Mv.umK m k x j) v) := Hid.intro (by
          show (if m.fr (x + j) = 0 then Mv.umK m k x j else Mv.drp (Mv.umK m k x j) (m.fr (x + j) - 1)) = _
          rw [if_neg f0, hv, Nat.add_sub_cancel])
        rw [hv, show ((v + 1 : Nat) : Int) - 1 = (v : Int) by omega] at c1
        have v64 : v < 64 := by have := S.out.2.2.le (x + j) (by omega); rw [S.out.fr.1, hv] at this; omega
        have v1 : ((v : Int) == -1) = false := by simp
        have RF : Hid (1 ≤ (Mv.umK m k x j).refs v ∧ (Mv.umK m k x j).refs v < 2 ^ 60) := Hid.intro (by
          have a := S.out.2.2.cnt v v64
          have p := Mv.cntK_pos (fr := (Mv.umM m x (x + j)).fr) (f := v) (n := 16) (i := x + j) (by omega) (by rw [S.out.fr.1, hv])
          omega)
        have d0 := S.out.1.me.cBank
        have SB : Hid (∀ o, UV b r q x m k w j (wr.alloc o)) := Hid.intro (fun o => S.out.below ((Below.refl _ _).alloc (Nat.le_refl _) o))
        clear f0 hv
        go_wp2_with fail
        go_region_with ((go_at_call 155; refine (vleave_any r q v (Mv.umK m k x j) _ (by first | exact (SB.out _).1.bk.drew | exact (SB.out _).1.bk) v64 S.out.2.2.inv RF.out.1 RF.out.2).mono ?_; rintro e w4 ⟨rfl, hk4, F4⟩; have H4 : Hid (UAt w4 b r (Mv.umM m x (x + j)) ∧ VAt w4 r q (Mv.drp (Mv.umK m k x j) v) ∧ Thr b r q w w4) := Hid.intro (by first | exact ⟨(SB.out _).1.me.drew.two F4 S.out.1.br S.out.1.bq, hk4, (SB.out _).2.1.drew.trans (Thr.bank F4)⟩ | exact ⟨(SB.out _).1.me.two F4 S.out.1.br S.out.1.bq, hk4, (SB.out _).2.1.trans (Thr.bank F4)⟩); clear hk4 F4))
        all_goals
          clear c0 c1 cf d0 hbs hbn
          have e0 := H4.out.1.cIs2 x j (by omega)
          have e1 := H4.out.1.cFr2 x j (by omega)
          have ef := H4.out.1.frozen
          have NX : Hid (UV b r q x m k w (j + 1) ((w4.setCell ⟨b, 1 + x * 2 + j * 2, none⟩ (.int .i64 0)).setCell ⟨b, 1 + x * 2 + j * 2 + 1, none⟩ (.int .i64 (-1)))) := Hid.intro (S.out.step (by omega) H4.out.1 (by rw [KE.out]; exact H4.out.2.1) H4.out.2.2)
          generalize Mv.umC m x j = cj at *
          go_wp2_with fail
          go_roundw
          case rel => exact ⟨j + 1, by go_num, by rw [LE.out]; go_num, by omega, NX.out⟩
          case measure => simp [intOf]; omega
    · have hjn : j = n := by omega
      subst hjn
      go_wp2_with fail
      go_ret2
      exact ⟨rfl, S.out.1, S.out.2.1⟩
theorem vunmap_any (b r q : Nat) (a n : Int) (m : Me) (k : Bk) (w : World) (h : UB w b r q m k) (C : Mv.Cnt m k) :
    Calls Tryz.prog 145 #[.pointer (some ⟨b, 0, none⟩), .int .i64 a, .int .i64 n] w fun e w' => e = .returned (.tuple #[.int .i64 (Mv.unC m a n : Int), errV (Mv.unE a n)]) ∧ UB w' b r q (Mv.unM m a n) (Mv.unK m k a n) ∧ Thr b r q w w' := by
  unfold Mv.unC Mv.unE Mv.unM Mv.unK
  cases hb : Mv.badB a n
  · obtain ⟨x, j, rfl, rfl, hx, hk1, hk⟩ := Mv.bad_no hb
    rw [if_neg (by decide), if_neg (by decide), if_neg (by decide), if_neg (by decide), Int.toNat_natCast, Int.toNat_natCast]
    exact vunmap_ok b r q x j m k w h C hx hk1 hk
  · rw [if_pos rfl, if_pos rfl, if_pos rfl, if_pos rfl]
    have HF := Hid.intro h
    have SP := Hid.intro (vspan_bad b a n w hb)
    clear hb h C
    go_enter Tryz.func145, Tryz.ntmps145
    go_wp2_with fail
    refine SP.out.mono ?_
    rintro e w1 ⟨rfl, hw⟩
    subst w1
    rw [errV_ne (by decide)]
    go_wp2_with fail
    go_ret2
    exact ⟨rfl, HF.out, Thr.refl _ _ _ _⟩
end Go.Proofs.YtghogbngmcolmaaGreat
namespace Go.Proofs.YtghogbngmcolmaaGreat
open Go.RowKit
open Bd (P)
open Mv (Me Bk)
def memA (r : Nat) (m : Me) : Array Value := ((List.range 33).map (cellU r m)).toArray
theorem memA_at (r : Nat) (m : Me) (i : Nat) (h : i < 33) : (memA r m)[i]? = some (cellU r m i) := by simp [memA, h]
theorem memA_size (r : Nat) (m : Me) : (memA r m).size = 33 := by simp [memA]
theorem memA_len (r : Nat) (m : Me) : (memA r m).toList.length = 33 := by simp [memA]
theorem memA_one (r : Nat) (m : Me) : (memA r m).all (·.oneCell') = true := by
  rw [Array.all_eq_true_iff_forall_mem]
  intro v hv
  simp only [memA, List.mem_toArray, List.mem_map] at hv
  obtain ⟨o, _, rfl⟩ := hv
  unfold cellU
  split
  · rfl
  · split <;> rfl
theorem UAt.all {w : World} {b r : Nat} {m : Me} (h : UAt w b r m) : w.rangeAt b 0 (memA r m).toList := fun j v hv => by
  have hj : j < 33 := by have := (List.getElem?_eq_some_iff.1 hv).1; rwa [memA_len] at this
  rw [Array.getElem?_toList, memA_at r m j hj] at hv
  rw [Nat.zero_add, ← hv]; exact h.cell j hj
def uA0 : Array Value := ((List.range 33).map fun o => if o = 0 then Value.pointer none else .int .i64 0).toArray
section
variable {ops : Array Oper} {rest : List Oper} {x : Oper} {a : Act} {w : World} {Q : Exit → Act → World → Prop}
theorem wpList_alloc_u (hgd : x.guard = none) (ho : x.op = .alloc 123) (h : wpList Tryz.prog ops Q rest (a.put x.dst (.pointer (some ⟨w.heap.size, 0, none⟩))) (w.alloc (.cells uA0 123))) : wpList Tryz.prog ops Q (x :: rest) a w :=
  wpList_plain hgd fun _ hK => by
    unfold Oper.wp execOp
    simp only [ho]
    simp [go_sem]
    exact hK _ _ h
end
theorem uA0_size : uA0.size = 33 := by simp [uA0]
theorem u_copy {w : World} {c r : Nat} {m : Me} (h : w.heap[c]? = some (.cells uA0 123 (0, 0))) : UAt (w.setCells c 0 (memA r m).toList) c r m := by
  obtain ⟨C', k1, k2⟩ := heap_setCells_blk c (memA r m).toList 0 w uA0 h
  refine ⟨⟨C', k1, by rw [k2, uA0_size]⟩, fun o ho => ?_⟩
  have := World.cell?_setCells_in c (memA r m).toList 0 w (fun i hi => by
    rw [memA_len] at hi
    rw [cell_blk h]
    simp [uA0]; exact hi) o (by rw [memA_len]; exact ho)
  rw [Nat.zero_add] at this
  rw [this, ← List.getElem?_eq_getElem (by rw [memA_len]; exact ho), Array.getElem?_toList, memA_at r m o ho]
def Mv.foK (m : Me) (k : Bk) (j : Nat) : Bk := { k with refs := fun f => k.refs f + Mv.cntK m.fr f j }
theorem VAt.congr {w : World} {r q : Nat} {k k' : Bk} (h : VAt w r q k) (e1 : k'.pool = k.pool) (e2 : ∀ f, f < 64 → k'.refs f = k.refs f) (e3 : ∀ f j, f < 64 → k'.byt f j = k.byt f j) : VAt w r q k' := by
  refine ⟨h.blk, fun o ho => ?_, by rw [e1]; exact h.pool, h.ne⟩
  rw [h.cell o ho]
  unfold cellV
  by_cases c : o = 0
  · rw [if_pos c, if_pos c]
  · rw [if_neg c, if_neg c, e2 _ (by omega), e3 _ _ (by omega)]
theorem VAt.foStart {w : World} {r q : Nat} {m : Me} {k : Bk} (h : VAt w r q k) : VAt w r q (Mv.foK m k 0) := h.congr rfl (fun _ _ => rfl) (fun _ _ _ => rfl)
theorem VAt.foNo {w : World} {r q j : Nat} {m : Me} {k : Bk} (h : VAt w r q (Mv.foK m k j)) (c : m.fr j = 0) : VAt w r q (Mv.foK m k (j + 1)) := h.congr rfl (fun f _ => by
  show k.refs f + (Mv.cntK m.fr f j + if m.fr j = f + 1 then 1 else 0) = k.refs f + Mv.cntK m.fr f j
  rw [if_neg (by omega)]; rfl) (fun _ _ _ => rfl)
theorem VAt.foYes {w : World} {r q j v : Nat} {m : Me} {k : Bk} (h : VAt w r q (Mv.foK m k j)) (c : m.fr j = v + 1) (hv : v < 64) : VAt (w.setCell ⟨r, 1 + v * 9, none⟩ (.int .i64 (((Mv.foK m k j).refs v + 1 : Nat) : Int))) r q (Mv.foK m k (j + 1)) := (h.setRefs v _ hv).congr rfl (fun f _ => by
  show k.refs f + (Mv.cntK m.fr f j + if m.fr j = f + 1 then 1 else 0) = if f = v then k.refs v + Mv.cntK m.fr v j + 1 else k.refs f + Mv.cntK m.fr f j
  by_cases e : f = v
  · subst e; rw [if_pos c, if_pos rfl]; omega
  · rw [if_neg (by omega), if_neg e]; rfl) (fun _ _ _ => rfl)
theorem cntK_le (fr : Nat → Nat) (f n : Nat) : Mv.cntK fr f n ≤ n := by
  induction n with
  | zero => exact Nat.le_refl 0
  | succ n ih => show Mv.cntK fr f n + _ ≤ n + 1; split <;> omega
set_option maxRecDepth 100000 in
set_option maxHeartbeats 2000000 in
theorem vfork_any (b r q : Nat) (m : Me) (k : Bk) (w : World) (h : UB w b r q m k) (hl : ∀ i, i < 16 → m.fr i ≤ 64) (hr : ∀ f, f < 64 → k.refs f < 2 ^ 58) :
    Calls Tryz.prog 72 #[.pointer (some ⟨b, 0, none⟩)] w fun e w' => e = .returned (.pointer (some ⟨w.heap.size, 0, none⟩)) ∧ UAt w' w.heap.size r m ∧ UB w' b r q m (Mv.foK m k 16) ∧ Frm r w w' := by
  have HF := Hid.intro (And.intro h (And.intro hl hr))
  have HR := Hid.intro h.me.all
  have hs1 : Hid ((Tryz.prog.info? 123).map (·.size) = some (memA r m).toList.length) := Hid.intro (by rw [memA_len]; kernel_rfl)
  have hs2 : Hid ((Tryz.prog.info? 123).map (·.size) = some (memA r m).size) := Hid.intro (by rw [memA_size]; kernel_rfl)
  have h1c := Hid.intro (memA_one r m)
  have N0 : Hid ((w.alloc (.cells uA0 123)).heap[w.heap.size]? = some (.cells uA0 123 (0, 0))) := Hid.intro (heap_alloc_new w _)
  have TH : Hid ((w.alloc (.cells uA0 123)).there w.heap.size 0 (memA r m).size) := Hid.intro (fun j hj => by
    rw [memA_size] at hj
    refine ⟨?_, frozen_blk N0.out _⟩
    rw [cell_blk N0.out]
    simp [uA0]; exact hj)
  have FIN : Hid (UAt ((w.alloc (.cells uA0 123)).setCells w.heap.size 0 (memA r m).toList) w.heap.size r m ∧ UB ((w.alloc (.cells uA0 123)).setCells w.heap.size 0 (memA r m).toList) b r q m k ∧ Below w.heap.size w ((w.alloc (.cells uA0 123)).setCells w.heap.size 0 (memA r m).toList)) := Hid.intro (by
    have bb : Below w.heap.size w ((w.alloc (.cells uA0 123)).setCells w.heap.size 0 (memA r m).toList) := (Frm.setCells _ _ (Frm.refl w.heap.size _)).below ((Below.refl _ _).alloc (Nat.le_refl _) _) (Nat.le_refl _) (by simp)
    exact ⟨u_copy N0.out, HF.out.1.below bb, bb⟩)
  obtain ⟨A, hA⟩ : ∃ A, memA r m = A := ⟨_, rfl⟩
  rw [hA] at HR hs1 hs2 h1c TH FIN
  clear h hl hr hA N0
  go_enter Tryz.func72, Tryz.ntmps72
  go_upto_region 2 with (first | (refine wpList_load_mid rfl 123 _ rfl b 0 rfl A.toList _ HR.out Tryz.underlying123 rfl hs1.out ?_; rw [Array.toArray_toList]) | (refine wpList_alloc_u rfl rfl ?_) | (refine wpList_store_mid rfl 123 _ _ rfl w.heap.size 0 A rfl rfl TH.out hs2.out h1c.out ?_))
  refine wp_gen (fun W => UAt W w.heap.size r m ∧ UB W b r q m k ∧ Below w.heap.size w W) FIN.out ?_
  intro W1 hW1
  have S1 := Hid.intro hW1
  clear hW1 FIN TH HR hs1 hs2 h1c
  obtain ⟨c, hc⟩ : ∃ c, w.heap.size = c := ⟨_, rfl⟩
  have HC : Hid (w.heap.size = c ∧ c ≠ r ∧ c ≠ q ∧ b ≠ c) := Hid.intro ⟨hc, by have := HF.out.1.bk.lt; omega, by have := HF.out.1.bk.ltq; omega, by have := HF.out.1.me.lt; omega⟩
  rw [hc] at S1 ⊢
  clear hc
  have hsz := Hid.intro (rowP_size m)
  have HR := Hid.intro S1.out.1.range
  go_wp2_with (refine wpList_load_mid rfl 121 _ rfl c 1 rfl (rowP m) (.array 16 120) HR.out (by kernel_rfl) rfl hsz.out ?_)
  have S2 : Hid (UAt W1 c r m ∧ UB W1 b r q m (Mv.foK m k 0) ∧ Frm r w W1) := Hid.intro ⟨S1.out.1, ⟨S1.out.2.1.me, S1.out.2.1.bk.foStart, S1.out.2.1.br, S1.out.2.1.bq⟩, Frm.of_below (by have := S1.out.2.2; rw [← HC.out.1] at this; exact this)⟩
  clear S1 HR hsz
  go_loopw [11] (fun i wr => ∃ (j : Nat), i = .int .i64 j ∧ j ≤ 16 ∧ Hid (UAt wr c r m ∧ UB wr b r q m (Mv.foK m k j) ∧ Frm r w wr)) (fun i _ => 16 - (intOf i).toNat)
  case atStart => exact ⟨0, rfl, by omega, S2⟩
  case round =>
    clear S2
    obtain ⟨j, rfl, hj, S⟩ := hrel
    by_cases hlt : j < 16
    · have hltI : (j : Int) < 16 := by omega
      have hix := index_rowP m j hlt
      have AL : Hid (∀ o, UAt (wr.alloc o) c r m ∧ UB (wr.alloc o) b r q m (Mv.foK m k j) ∧ Frm r w (wr.alloc o)) := Hid.intro (fun o => by
        have bb : Below wr.heap.size wr (wr.alloc o) := (Below.refl _ _).alloc (Nat.le_refl _) o
        exact ⟨S.out.1.below bb, S.out.2.1.below bb, S.out.2.2.trans (Frm.of_below bb)⟩)
      generalize m.is j = u0 at *
      by_cases f0 : m.fr j = 0
      · have NX : Hid (∀ o, UAt (wr.alloc o) c r m ∧ UB (wr.alloc o) b r q m (Mv.foK m k (j + 1)) ∧ Frm r w (wr.alloc o)) := Hid.intro (fun o => ⟨(AL.out o).1, ⟨(AL.out o).2.1.me, (AL.out o).2.1.bk.foNo f0, (AL.out o).2.1.br, (AL.out o).2.1.bq⟩, (AL.out o).2.2⟩)
        rw [f0] at hix
        clear f0
        go_wp2_with fail
        go_roundw
        case rel => exact ⟨j + 1, by go_num, by omega, NX.out _⟩
        case measure => simp [intOf]; omega
      · obtain ⟨v, hv⟩ : ∃ v, m.fr j = v + 1 := ⟨m.fr j - 1, by omega⟩
        have v64 : v < 64 := by have := HF.out.2.1 j hlt; omega
        rw [hv, show ((v + 1 : Nat) : Int) - 1 = (v : Int) by omega] at hix
        have v1 : ((v : Int) == -1) = false := by simp
        have vI : (v : Int) < 64 := by omega
        have hcl := cntK_le m.fr v j
        have hrl := HF.out.2.2 v v64
        have rfl2 : Hid ((Mv.foK m k j).refs v < 2 ^ 59) := Hid.intro (by show k.refs v + Mv.cntK m.fr v j < _; omega)
        have NX : Hid (∀ W, UAt W c r m → UB W b r q m (Mv.foK m k j) → Frm r w W → UAt (W.setCell ⟨r, 1 + v * 9, none⟩ (.int .i64 (((Mv.foK m k j).refs v + 1 : Nat) : Int))) c r m ∧ UB (W.setCell ⟨r, 1 + v * 9, none⟩ (.int .i64 (((Mv.foK m k j).refs v + 1 : Nat) : Int))) b r q m (Mv.foK m k (j + 1)) ∧ Frm r w (W.setCell ⟨r, 1 + v * 9, none⟩ (.int .i64 (((Mv.foK m k j).refs v + 1 : Nat) : Int)))) := Hid.intro (fun W a1 a2 a3 =>
          ⟨a1.same (setBlk _ _ _ _ HC.out.2.1), ⟨a2.me.same (setBlk _ _ _ _ a2.br), a2.bk.foYes hv v64, a2.br, a2.bq⟩, a3.setCell _ _⟩)
        obtain ⟨rv, hrv⟩ : ∃ rv, (Mv.foK m k j).refs v = rv := ⟨_, rfl⟩
        rw [hrv] at NX rfl2
        have CR : Hid (∀ W, UB W b r q m (Mv.foK m k j) → W.cell? ⟨r, 1 + v * 9, none⟩ = some (.int .i64 (rv : Int))) := Hid.intro (fun W hW => by rw [← hrv]; exact hW.bk.cRefs v v64)
        have rl := rfl2.out
        have hw : IntKind.i64.wrap ((rv : Int) + 1) = (rv : Int) + 1 := IntWalk.i64_in _ ⟨by omega, by omega⟩
        clear f0 hv hrv hcl hrl
        go_upto_region 6 with fail
        refine wp_gen (fun W => (UAt W c r m ∧ UB W b r q m (Mv.foK m k j) ∧ Frm r w W) ∧ W.heap[wr.heap.size]? = some (.cells #[.int .i64 (u0 : Int), .int .i64 (v : Int)] 120 (0, 0))) ⟨AL.out _, heap_alloc_new wr _⟩ ?_
        rintro W2 ⟨h2, x2⟩
        have H2 := Hid.intro h2
        have d0 := h2.2.1.me.cBank
        have d1 := act_cells x2 1 _ rfl
        have d2 := CR.out _ h2.2.1
        have df := h2.2.1.bk.frozen
        generalize wr.heap.size = bp at *
        clear h2 x2 AL S hix
        go_region
        generalize hW : World.drew _ = W3
        have H3 : Hid (UAt W3 c r m ∧ UB W3 b r q m (Mv.foK m k (j + 1)) ∧ Frm r w W3) := Hid.intro (by
          rw [← hW]
          have a := NX.out W2 H2.out.1 H2.out.2.1 H2.out.2.2
          exact ⟨a.1.drew, a.2.1.drew, a.2.2.drew⟩)
        clear hW d0 d1 d2 df
        go_wp2_with fail
        go_roundw
        case rel => exact ⟨j + 1, by go_num, by omega, H3⟩
        case measure => simp [intOf]; omega
    · have hj16 : j = 16 := by omega
      subst hj16
      go_wp2_with fail
      go_ret
      rw [HC.out.1]
      exact ⟨rfl, S.out⟩
end Go.Proofs.YtghogbngmcolmaaGreat

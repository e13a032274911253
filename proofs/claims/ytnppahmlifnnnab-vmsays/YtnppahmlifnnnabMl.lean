/- The document's own memory: Unmap, a page at a time. -/
import Derived.Test.YtnppahmlifnnnabMk
namespace Go.Proofs.Ytnppahmlifnnnab
open Go.RowKit
open Bd (P)
open Mv (Me Bk)
def UmAt (b r q a : Nat) (m : Me) (own : Nat → Bool) (k : Bk) (w0 : World) (j : Nat) (w : World) : Prop := MB w b r q (Mv.umM m a (a + j)) (Mv.umO own a (a + j)) (Mv.umK m k a j) ∧ Thr b r q w0 w ∧ Mv.Cnt (Mv.umM m a (a + j)) (Mv.umK m k a j)
theorem UmAt.start {b r q a : Nat} {m : Me} {own : Nat → Bool} {k : Bk} {w : World} (h : MB w b r q m own k) (C : Mv.Cnt m k) : UmAt b r q a m own k w 0 w := by
  have e1 : ∀ x, (Mv.umM m a (a + 0)).is x = m.is x := fun x => if_neg (by omega)
  have e2 : ∀ x, (Mv.umM m a (a + 0)).fr x = m.fr x := fun x => if_neg (by omega)
  have e3 : ∀ x, Mv.umO own a (a + 0) x = own x := fun x => if_neg (by omega)
  refine ⟨⟨h.me.congr (cellM_congr (fun i _ => e1 i) (fun i _ => e2 i) (fun i _ => e3 i)), h.bk, h.br, h.bq⟩, Thr.refl _ _ _ _, C.inv, C.nb, fun i hi => by rw [e2]; exact C.le i hi, fun f hf => ?_⟩
  rw [Mv.cntK_congr (fr := m.fr) (fun i _ => e2 i)]
  exact C.cnt f hf
/-- The page at which the walk stands has no frame. -/
theorem UmAt.no {b r q a j : Nat} {m : Me} {own : Nat → Bool} {k : Bk} {w0 w : World} (h : UmAt b r q a m own k w0 j w) (hj : a + j < 16) (c : m.fr (a + j) = 0) :
    UmAt b r q a m own k w0 (j + 1) ((w.setCell ⟨b, 1 + (a + j), none⟩ (.int .i64 0)).setCell ⟨b, 33 + (a + j), none⟩ (.bool false)) := by
  have f : Frm b w ((w.setCell ⟨b, 1 + (a + j), none⟩ (.int .i64 0)).setCell ⟨b, 33 + (a + j), none⟩ (.bool false)) := ((Frm.refl b w).setCell _ _).setCell _ _
  refine ⟨⟨((h.1.me.setIs (a + j) 0 hj).setOwn (a + j) false hj).congr (cellM_congr (fun i _ => ?_) (fun i _ => ?_) (fun i _ => ?_)), ?_, h.1.br, h.1.bq⟩, h.2.1.trans (Thr.mem f), h.2.2.step hj⟩
  · show _ = upn _ _ _ i
    unfold upn
    by_cases d : i = a + j
    · subst d; rw [if_pos rfl]; exact (umM_at m a j).1
    · rw [if_neg d]; exact (umM_step d).1
  · by_cases d : i = a + j
    · subst d; rw [(umM_at m a j).2]; show 0 = (if a ≤ a + j ∧ a + j < a + j then 0 else m.fr (a + j)); rw [if_neg (by omega), c]
    · exact (umM_step d).2
  · show (if a ≤ i ∧ i < a + (j + 1) then false else own i) = if i = a + j then false else (if a ≤ i ∧ i < a + j then false else own i)
    by_cases d : i = a + j
    · rw [if_pos d, if_pos (by omega)]
    · rw [if_neg d]; exact Mv.if_step d _ _
  · rw [show Mv.umK m k a (j + 1) = Mv.umK m k a j from if_pos c]
    exact h.1.bk.frm f h.1.br h.1.bq
theorem UmAt.yes {b r q a j : Nat} {m : Me} {own : Nat → Bool} {k : Bk} {w0 w w1 w2 : World} (h : UmAt b r q a m own k w0 j w) (hj : a + j < 16) (c : m.fr (a + j) ≠ 0)
    (e1 : w1 = w.setCell ⟨b, 1 + (a + j), none⟩ (.int .i64 0)) (hk : NAt w2 r q (Mv.drp (Mv.umK m k a j) (m.fr (a + j) - 1))) (t : Two r q w1 w2) :
    UmAt b r q a m own k w0 (j + 1) ((w2.setCell ⟨b, 17 + (a + j), none⟩ (.int .i64 0)).setCell ⟨b, 33 + (a + j), none⟩ (.bool false)) := by
  subst e1
  have g : Frm b w (w.setCell ⟨b, 1 + (a + j), none⟩ (.int .i64 0)) := (Frm.refl b w).setCell _ _
  have f : Frm b w2 ((w2.setCell ⟨b, 17 + (a + j), none⟩ (.int .i64 0)).setCell ⟨b, 33 + (a + j), none⟩ (.bool false)) := ((Frm.refl b w2).setCell _ _).setCell _ _
  have m1 := (h.1.me.setIs (a + j) 0 hj).two t h.1.br h.1.bq
  refine ⟨⟨((m1.setFr (a + j) 0 hj).setOwn (a + j) false hj).congr (cellM_congr (fun i _ => ?_) (fun i _ => ?_) (fun i _ => ?_)), ?_, h.1.br, h.1.bq⟩, ((h.2.1.trans (Thr.mem g)).trans (Thr.bank t)).trans (Thr.mem f), h.2.2.step hj⟩
  · show _ = upn _ _ _ i
    unfold upn
    by_cases d : i = a + j
    · subst d; rw [if_pos rfl]; exact (umM_at m a j).1
    · rw [if_neg d]; exact (umM_step d).1
  · show _ = upn _ _ _ i
    unfold upn
    by_cases d : i = a + j
    · subst d; rw [if_pos rfl]; exact (umM_at m a j).2
    · rw [if_neg d]; exact (umM_step d).2
  · show (if a ≤ i ∧ i < a + (j + 1) then false else own i) = if i = a + j then false else (if a ≤ i ∧ i < a + j then false else own i)
    by_cases d : i = a + j
    · rw [if_pos d, if_pos (by omega)]
    · rw [if_neg d]; exact Mv.if_step d _ _
  · rw [show Mv.umK m k a (j + 1) = Mv.drp (Mv.umK m k a j) (m.fr (a + j) - 1) from if_neg c]
    exact hk.frm f h.1.br h.1.bq
def Mv.unE (a n : Int) : Int := if badB a n = true then 1 else 0
def Mv.unC (m : Me) (a n : Int) : Nat := if badB a n = true then 0 else umC m a.toNat n.toNat
def Mv.unM (m : Me) (a n : Int) : Me := if badB a n = true then m else umM m a.toNat (a.toNat + n.toNat)
def Mv.unO (own : Nat → Bool) (a n : Int) : Nat → Bool := if badB a n = true then own else umO own a.toNat (a.toNat + n.toNat)
def Mv.unK (m : Me) (k : Bk) (a n : Int) : Bk := if badB a n = true then k else umK m k a.toNat n.toNat
end Go.Proofs.Ytnppahmlifnnnab

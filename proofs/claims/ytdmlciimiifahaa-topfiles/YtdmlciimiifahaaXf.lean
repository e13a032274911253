/- TopFiles: the forest and the table, plain. -/
import Derived.Test.YtdmlciimiifahaaXe
import Derived.Test.YtdmlciimiifahaaYa
import Derived.Test.YtdmlciimiifahaaPn
namespace Go.Proofs.Ytdmlciimiifahaa
open Go.RowKit
open Fx (Fi)
open Tr (Fo Nd)
open Pp (Pi)

/-- Three open files. -/
def Fx.tt (x y u : Fi) : Nat → Fi := fun m => if m = 0 then x else if m = 1 then y else if m = 2 then u else Fi.no
section
variable (x y u v : Fi)
theorem Fx.tt_put0 : Fx.put (Fx.tt x y u) 0 v = Fx.tt v y u := by
  funext m
  unfold Fx.put Fx.tt
  by_cases c : m = 0
  · rw [if_pos c, if_pos c]
  · rw [if_neg c, if_neg c, if_neg c]
theorem Fx.tt_put1 : Fx.put (Fx.tt x y u) 1 v = Fx.tt x v u := by
  funext m
  unfold Fx.put Fx.tt
  by_cases c : m = 1
  · subst c; rfl
  · rw [if_neg c, if_neg c, if_neg c]
theorem Fx.tt_put2 : Fx.put (Fx.tt x y u) 2 v = Fx.tt x y v := by
  funext m
  unfold Fx.put Fx.tt
  by_cases c : m = 2
  · subst c; rfl
  · rw [if_neg c, if_neg c, if_neg c]
theorem Fx.tt_nul : Fx.nul = Fx.tt Fi.no Fi.no Fi.no := by
  funext m
  unfold Fx.tt Fx.nul
  repeat' split
  all_goals rfl
theorem Fx.tt_cnt : Fx.cnt (Fx.tt x y u) 24 = (if x.refs = 0 then 0 else 1) + (if y.refs = 0 then 0 else 1) + (if u.refs = 0 then 0 else 1) := by
  have e : Fx.cnt (Fx.tt x y u) 24 = 0 + (if x.refs = 0 then 0 else 1) + (if y.refs = 0 then 0 else 1) + (if u.refs = 0 then 0 else 1) := rfl
  rw [e, Nat.zero_add]
end
/-- What the forest has: nodes 1 and 2 are files; node 1 has l names, is held h times, and has the bytes A. -/
structure Tk (F : Fo) (l h : Nat) (A : ByteArray) : Prop where
  ok : Tr.Ok F
  hb : Tr.Hb F 3
  k1 : (F.nd 1).kind = 1
  l1 : (F.nd 1).links = l
  h1 : (F.nd 1).held = h
  s1 : (F.nd 1).size = A.size
  b1 : Tr.rdS (F.nd 1).byt 0 A.size = A
  k2 : (F.nd 2).kind = 1
/-- The name a leads to node 1. -/
def Tk.Nm (F : Fo) : Prop := (F.nd 0).kind = 2 ∧ (F.nd 0).size = 2 ∧ (F.nd 0).nam 0 = ⟨#[97]⟩ ∧ (F.nd 0).kid 0 = 1
section
variable {F : Fo} {l h : Nat} {A : ByteArray}
theorem Tk.sm (k : Tk F l h A) : Fx.Sm F Pp.nul := ⟨k.hb.lt (by omega), fun wr n _ => by unfold Pp.tim Pp.nul; cases wr <;> exact Nat.two_pow_pos 60⟩
theorem Tk.le (k : Tk F l h A) : A.size ≤ 40 := by have := k.ok.fz 1 (by omega) k.k1; rw [k.s1] at this; exact this
theorem Tk.is1 (k : Tk F l h A) : Tr.isE F 1 1 = 0 := by
  unfold Tr.isE Tr.nodeE
  have e : (1 : Int).toNat = 1 := rfl
  rw [e, k.k1]
  rfl
theorem Tk.is2 (k : Tk F l h A) : Tr.isE F 2 1 = 0 := by
  unfold Tr.isE Tr.nodeE
  have e : (2 : Int).toNat = 2 := rfl
  rw [e, k.k2]
  rfl
theorem Tk.congr (k : Tk F l h A) {G : Fo} (ok : Tr.Ok G) (hb : Tr.Hb G 3) (e1 : G.nd 1 = F.nd 1) (e2 : (G.nd 2).kind = 1) : Tk G l h A := ⟨ok, hb, by rw [e1]; exact k.k1, by rw [e1]; exact k.l1, by rw [e1]; exact k.h1, by rw [e1]; exact k.s1, by rw [e1]; exact k.b1, e2⟩
/-- Bytes are written behind those that are there. -/
theorem Tk.wrote (k : Tk F l h A) (s : ByteArray) (e : Tr.wriE F 1 (A.size : Int) s = 0) : Tk (Tr.wriF F 1 (A.size : Int) s) l h (A ++ s) := by
  have ok := k.ok.wri 1 (A.size : Int) s
  have hb := k.hb.wri 1 (A.size : Int) s
  by_cases s0 : s.size = 0
  · have : s = ByteArray.empty := by
      apply ByteArray.ext
      exact Array.eq_empty_of_size_eq_zero s0
    have ef : Tr.wriF F 1 (A.size : Int) s = F := by unfold Tr.wriF; rw [if_neg (fun d => d.2 s0)]
    rw [ef, this, ByteArray.append_empty]
    exact k
  · have ef : Tr.wriF F 1 (A.size : Int) s = F.put 1 (Tr.wriN (F.nd 1) A.size s) := by unfold Tr.wriF; rw [if_pos ⟨e, s0⟩, Int.toNat_natCast]; rfl
    rw [ef] at ok hb ⊢
    have sz : (A ++ s).size = A.size + s.size := ByteArray.size_append
    refine ⟨ok, hb, by rw [Tr.put_same]; exact k.k1, by rw [Tr.put_same]; exact k.l1, by rw [Tr.put_same]; exact k.h1, ?_, ?_, ?_⟩
    · rw [Tr.put_same, sz]
      show max (F.nd 1).size (A.size + s.size) = _
      rw [k.s1]; omega
    · rw [Tr.put_same, sz]
      show Tr.rdS (Tr.wrB (F.nd 1).byt A.size (Tr.byI s)) 0 (A.size + s.size) = _
      rw [← Tr.rdS_cat, Nat.zero_add, Tr.rdS_own]
      have : Tr.rdS (Tr.wrB (F.nd 1).byt A.size (Tr.byI s)) 0 A.size = Tr.rdS (F.nd 1).byt 0 A.size := Tr.rdS_ext (fun j hj => by unfold Tr.wrB; rw [if_pos (by omega)])
      rw [this, k.b1]
    · rw [Tr.put_ne _ _ _ _ (by omega)]; exact k.k2
theorem Tk.wri0 (F : Fo) (a : Int) (s : ByteArray) (n : Nat) (hn : (n : Int) ≠ 0) : (Tr.wriF F (n : Int) a s).nd 0 = F.nd 0 := by
  unfold Tr.wriF
  split
  · rw [Tr.put_ne _ _ _ _ (by omega)]
  · rfl
theorem Tk.nmw (hm : Tk.Nm F) (n : Nat) (hn : (n : Int) ≠ 0) (a : Int) (s : ByteArray) : Tk.Nm (Tr.wriF F (n : Int) a s) := by
  unfold Tk.Nm
  rw [Tk.wri0 F a s n hn]
  exact hm
/-- Others write elsewhere. -/
theorem Tk.other (k : Tk F l h A) (a : Int) (s : ByteArray) : Tk (Tr.wriF F 2 a s) l h A := by
  refine k.congr (k.ok.wri 2 a s) (k.hb.wri 2 a s) ?_ ?_
  · unfold Tr.wriF
    split
    · rw [Tr.put_ne _ _ _ _ (by decide)]
    · rfl
  · unfold Tr.wriF
    split
    · rw [show (2 : Int).toNat = 2 from rfl, Tr.put_same]; exact k.k2
    · exact k.k2
/-- The name a is removed. -/
theorem Tk.plc (hm : Tk.Nm F) : Tr.PlcTo (F.nd 0) ⟨#[97]⟩ ((0 : Nat) : Int) := .inl ⟨0, rfl, by rw [hm.2.1]; omega, by rw [hm.2.2.1], fun j hj => absurd hj (Nat.not_lt_zero j)⟩
theorem Tk.rem (k : Tk F 1 2 A) (hm : Tk.Nm F) {E : Int} {G : Fo} (hr : Tr.RemTo F 0 ⟨#[97]⟩ E G) : E = 0 ∧ Tk G 0 2 A := by
  have i0 : Tr.isE F 0 2 = 0 := by
    unfold Tr.isE Tr.nodeE
    have e : (0 : Int).toNat = 0 := rfl
    rw [e, hm.1]
    rfl
  have fnd : Tr.FndTo F 0 ⟨#[97]⟩ 1 0 := .inr ⟨i0, .inl ⟨0, Tk.plc hm, hm.2.2.2.symm, rfl⟩⟩
  have me : Tr.RemTo F 0 ⟨#[97]⟩ 0 (Tr.remF F 0 0 1) := ⟨1, 0, fnd, .inr ⟨rfl, .inr ⟨fun d => by rw [k.k1] at d; exact absurd d.1 (by decide), rfl, 0, Tk.plc hm, rfl⟩⟩⟩
  obtain ⟨rfl, rfl⟩ := hr.unique me
  have ok := k.ok.rem me
  have hb := k.hb.rem k.ok me
  have e : Tr.remF F 0 0 1 = (F.put 0 (Tr.forN (F.nd 0) 0)).put 1 { F.nd 1 with links := 0 } := by
    unfold Tr.remF
    rw [Tr.put_ne _ _ _ _ (by decide), k.l1]
    refine Tr.swe_no (fun d => ?_)
    rw [Tr.put_same] at d
    have := d.2
    rw [k.h1] at this
    omega
  rw [e] at ok hb ⊢
  refine ⟨rfl, ok, hb, by rw [Tr.put_same]; exact k.k1, by rw [Tr.put_same], by rw [Tr.put_same]; exact k.h1, by rw [Tr.put_same]; exact k.s1, by rw [Tr.put_same]; exact k.b1, ?_⟩
  rw [Tr.put_ne _ _ _ _ (by decide), Tr.put_ne _ _ _ _ (by decide)]
  exact k.k2
/-- What is read. -/
theorem Tk.reaE (k : Tk F l h A) (p : Nat) (m : Int) : Tr.reaE F 1 (p : Int) m = if m < 0 then 1 else 0 := by
  unfold Tr.reaE
  rw [k.is1, if_neg (fun d => d rfl)]
  by_cases c : m < 0
  · rw [if_pos (.inr c), if_pos c]
  · rw [if_neg (by omega), if_neg c]
theorem Tk.reaS (k : Tk F l h A) (p : Nat) (hp : p ≤ A.size) (m : Int) (hm : 0 ≤ m) : Tr.reaS F 1 (p : Int) m = A.extract p (p + min m.toNat (A.size - p)) := by
  unfold Tr.reaS
  rw [if_pos (by rw [k.reaE, if_neg (by omega)])]
  have e : (1 : Int).toNat = 1 := rfl
  rw [e, Int.toNat_natCast, k.s1, Nat.min_eq_left hp]
  have c := Tr.rdS_cut (F.nd 1).byt 0 A.size p (p + min m.toNat (A.size - p)) (by omega)
  rw [k.b1, Nat.zero_add] at c
  rw [c, Nat.add_sub_cancel_left]
/-- Held once less. -/
theorem Tk.letE (k : Tk F l (h + 1) A) : Tr.letE F 1 = 0 := by
  unfold Tr.letE Tr.nodeE
  have e : (1 : Int).toNat = 1 := rfl
  rw [e, k.k1, k.h1]
  rfl
theorem Tk.letT (k : Tk F l (h + 2) A) : Tk (Tr.letT F 1) l (h + 1) A ∧ Tr.letT F 1 = F.put 1 { F.nd 1 with held := h + 1 } := by
  have e : Tr.letT F 1 = F.put 1 { F.nd 1 with held := h + 1 } := by
    unfold Tr.letT
    rw [if_pos k.letE]
    have e1 : (1 : Int).toNat = 1 := rfl
    rw [e1, k.h1]
    refine Tr.swe_no (fun d => ?_)
    rw [Tr.put_same] at d
    exact absurd d.2 (by show ¬ h + 2 - 1 = 0; omega)
  have ok := k.ok.letT 1
  have hb := k.hb.letT 1
  rw [e] at ok hb
  rw [e]
  refine ⟨⟨ok, hb, by rw [Tr.put_same]; exact k.k1, by rw [Tr.put_same]; exact k.l1, by rw [Tr.put_same], by rw [Tr.put_same]; exact k.s1, by rw [Tr.put_same]; exact k.b1, ?_⟩, rfl⟩
  rw [Tr.put_ne _ _ _ _ (by decide)]
  exact k.k2
theorem Tk.gone (k : Tk F 0 1 A) : Tr.letT F 1 = (F.put 1 { F.nd 1 with held := 0 }).put 1 Nd.no := by
  unfold Tr.letT
  rw [if_pos k.letE]
  have e1 : (1 : Int).toNat = 1 := rfl
  rw [e1, k.h1]
  exact Tr.swe_yes (by rw [Tr.put_same]; exact ⟨k.l1, rfl⟩)
theorem Tk.cnt_put (F : Fo) (n : Nat) (x : Nd) : ∀ m, Tr.cntN (F.put n x) m + (if n < m ∧ (F.nd n).kind ≠ 0 then 1 else 0) = Tr.cntN F m + (if n < m ∧ x.kind ≠ 0 then 1 else 0)
  | 0 => by rw [if_neg (fun d => absurd d.1 (Nat.not_lt_zero n)), if_neg (fun d => absurd d.1 (Nat.not_lt_zero n))]; rfl
  | m + 1 => by
    have ih := Tk.cnt_put F n x m
    show Tr.cntN (F.put n x) m + (if ((F.put n x).nd m).kind = 0 then 0 else 1) + _ = Tr.cntN F m + (if (F.nd m).kind = 0 then 0 else 1) + _
    by_cases c : m = n
    · subst c
      rw [Tr.put_same]
      rw [if_neg (fun d => absurd d.1 (Nat.lt_irrefl m)), if_neg (fun d => absurd d.1 (Nat.lt_irrefl m))] at ih
      by_cases d : (F.nd m).kind = 0 <;> by_cases e : x.kind = 0 <;> simp [d, e] <;> omega
    · rw [Tr.put_ne _ _ _ _ c]
      have q : (n < m + 1) ↔ (n < m) := by omega
      simp only [q]
      omega
end
end Go.Proofs.Ytdmlciimiifahaa

/- Memories of one bank, plain: a byte is stored, pages go, a memory is forked; how many frames are free. -/
import Derived.Test.YtnppahmlifnnnabOa
namespace Go.Proofs.Ytnppahmlifnnnab
open Bd (P)
open Mv (Me Bk)
namespace Mv
section
variable {k k' : Bk} {N : Nat} {me me' : Nat → Me} {fl : Nat → Nat → Int}
theorem Wld.bytes (h : Wld k N me) (b : Nat → Nat → Int) : Wld { k with byt := b } N me := ⟨h.inv, h.nb, h.n8, h.le, h.ref, h.tk, h.one⟩
theorem cntK_two {fr : Nat → Nat} {f n i j : Nat} (hi : i < n) (hj : j < n) (ne : i ≠ j) (ei : fr i = f + 1) (ej : fr j = f + 1) : 2 ≤ cntK fr f n := by
  have a := cntK_set fr f i 0 n
  rw [if_pos hi, if_pos hi] at a
  have b := cntK_pos (fr := upn fr i 0) (f := f) (n := n) hj (by show (if j = i then 0 else fr j) = f + 1; rw [if_neg (Ne.symm ne)]; exact ej)
  have c : one (fr i) f = 1 := if_pos ei
  have d : one 0 f = 0 := if_neg (by omega)
  omega
/-- A frame that is held once is held by one page alone. -/
theorem Wld.alone (h : Wld k N me) {f i j n x : Nat} (hf : f < 64) (h1 : k.refs f = 1) (hi : i < N) (hj : j < N) (hn : n < 16) (hx : x < 16) (e1 : (me i).fr n = f + 1) (e2 : (me j).fr x = f + 1) : i = j ∧ n = x := by
  rw [h.ref f hf] at h1
  by_cases c : i = j
  · subst c
    refine ⟨rfl, Classical.byContradiction fun d => ?_⟩
    have := cntK_two hn hx d e1 e2
    have := tot_ge me f hi
    omega
  · exfalso
    have a := tot_set me f i me0 N
    rw [if_pos hi, if_pos hi] at a
    have z : cntK me0.fr f 16 = 0 := by
      have : ∀ n, cntK me0.fr f n = 0 := fun n => by
        induction n with
        | zero => rfl
        | succ n ih => show cntK me0.fr f n + (if 0 = f + 1 then 1 else 0) = 0; rw [ih, if_neg (by omega)]
      exact this 16
    have b := tot_ge (setP me i me0) f hj
    rw [setP_ne _ _ _ _ (Ne.symm c)] at b
    have p1 := cntK_pos (fr := (me i).fr) (f := f) (n := 16) hn e1
    have p2 := cntK_pos (fr := (me j).fr) (f := f) (n := 16) hx e2
    omega
def updF (fl : Nat → Nat → Int) (i x : Nat) (v : Int) : Nat → Nat → Int := fun j y => if j = i ∧ y = x then v else fl j y
/-- A byte is stored where its frame is held once. -/
theorem Flt.store (h : Flt k N me fl) (w : Wld k N me) {i x g : Nat} (hi : i < N) (hx : x < 128) (hg : g < 64) (eg : (me i).fr (x / 8) = g + 1) (h1 : k.refs g = 1) (v : Int) : Flt (stB k g (x % 8) v) N me (updF fl i x v) := fun j hj y hy => by
  have hf := h j hj y hy
  unfold updF
  show _ = if (me j).fr (y / 8) = 0 then 0 else (if (me j).fr (y / 8) - 1 = g ∧ y % 8 = x % 8 then v else k.byt ((me j).fr (y / 8) - 1) (y % 8))
  by_cases c : j = i ∧ y = x
  · obtain ⟨rfl, rfl⟩ := c
    rw [if_pos ⟨rfl, rfl⟩, eg, if_neg (by omega), if_pos ⟨by omega, rfl⟩]
  · rw [if_neg c, hf]
    by_cases d : (me j).fr (y / 8) = 0
    · rw [if_pos d, if_pos d]
    · rw [if_neg d, if_neg d, if_neg]
      rintro ⟨e1, e2⟩
      have := w.alone hg h1 hi hj (by omega : x / 8 < 16) (by omega : y / 8 < 16) eg (by omega)
      exact c ⟨this.1.symm, by omega⟩
theorem umK_byt (m : Me) (k : Bk) (x : Nat) : ∀ j, (umK m k x j).byt = k.byt := by
  intro j
  induction j with
  | zero => rfl
  | succ j ih =>
    show (if m.fr (x + j) = 0 then umK m k x j else drp (umK m k x j) (m.fr (x + j) - 1)).byt = k.byt
    split
    · exact ih
    · exact ih
def zeroF (fl : Nat → Nat → Int) (i a e : Nat) : Nat → Nat → Int := fun j y => if j = i ∧ a ≤ y ∧ y < e then 0 else fl j y
/-- Pages are gone. -/
theorem Flt.unmap (h : Flt k N me fl) {i x n : Nat} : Flt (umK (me i) k x n) N (setP me i (umM (me i) x (x + n))) (zeroF fl i (8 * x) (8 * (x + n))) := fun j hj y hy => by
  have hf := h j hj y hy
  rw [umK_byt]
  unfold zeroF
  by_cases c : j = i
  · subst c
    rw [setP_same]
    have e : (umM (me j) x (x + n)).fr (y / 8) = if x ≤ y / 8 ∧ y / 8 < x + n then 0 else (me j).fr (y / 8) := rfl
    rw [e]
    by_cases d : x ≤ y / 8 ∧ y / 8 < x + n
    · rw [if_pos d, if_pos rfl, if_pos ⟨rfl, by omega, by omega⟩]
    · rw [if_neg d, if_neg (fun c => d (by omega)), hf]
  · rw [setP_ne _ _ _ _ c, if_neg (fun d => c d.1), hf]
/-- A memory is forked. -/
theorem Flt.fork (h : Flt k N me fl) {i : Nat} (hi : i < N) : Flt (foK (me i) k 16) (N + 1) (setP me N (me i)) (fun j => if j = N then fl i else fl j) := fun j hj y hy => by
  show (if j = N then fl i else fl j) y = if (setP me N (me i) j).fr (y / 8) = 0 then 0 else k.byt ((setP me N (me i) j).fr (y / 8) - 1) (y % 8)
  by_cases c : j = N
  · subst c; rw [if_pos rfl, setP_same]; exact h i hi y hy
  · rw [if_neg c, setP_ne _ _ _ _ c]; exact h j (by omega) y hy
theorem flt0 : Flt bk0 1 (fun _ => me0) (fun _ _ => 0) := fun _ _ x _ => (if_pos (show (me0).fr (x / 8) = 0 from rfl)).symm
end
end Mv
namespace Bd
/-- All blocks below frame j, as many frames as they have. -/
def allK (p : P) : Nat → Nat
  | 0 => 0
  | i + 1 => allK p i + if 0 < p.ord i then sz (p.ord i) else 0
theorem allK_at {p : P} (h : Inv p) : ∀ j, j < 64 → ∃ i, i ≤ j ∧ 0 < p.ord i ∧ j < i + sz (p.ord i) ∧ allK p (j + 1) = i + sz (p.ord i) := by
  intro j
  induction j with
  | zero =>
    intro _
    obtain ⟨a, a1, a2, a3⟩ := h.cov 0 (by omega)
    obtain rfl : a = 0 := by omega
    exact ⟨0, by omega, a2, a3, by show 0 + (if 0 < p.ord 0 then sz (p.ord 0) else 0) = _; rw [if_pos a2]⟩
  | succ j ih =>
    intro hj
    obtain ⟨i, i1, i2, i3, i4⟩ := ih (by omega)
    show ∃ i', i' ≤ j + 1 ∧ 0 < p.ord i' ∧ j + 1 < i' + sz (p.ord i') ∧ allK p (j + 1) + (if 0 < p.ord (j + 1) then sz (p.ord (j + 1)) else 0) = i' + sz (p.ord i')
    by_cases c : 0 < p.ord (j + 1)
    · have e : i + sz (p.ord i) = j + 1 := by
        by_cases d : j + 1 < i + sz (p.ord i)
        · have := h.own i (j + 1) (by omega) i2 (by omega) d; omega
        · omega
      have sp := sz_pos (p.ord (j + 1))
      exact ⟨j + 1, by omega, c, by omega, by rw [if_pos c, i4, e]⟩
    · obtain ⟨a, a1, a2, a3⟩ := h.cov (j + 1) hj
      have ne : a ≠ j + 1 := fun d => by rw [d] at a2; exact c a2
      have ea : a = i := h.cov_unique (x := j) (by omega) (by omega) a2 (by omega) i1 i2 i3
      subst ea
      exact ⟨a, by omega, a2, a3, by rw [if_neg c, i4]; rfl⟩
theorem allK_all {p : P} (h : Inv p) : allK p 64 = 64 := by
  obtain ⟨i, i1, i2, i3, i4⟩ := allK_at h 63 (by omega)
  have := (h.al i (by omega) i2).2
  rw [i4]; omega
end Bd
namespace Mv
/-- How many of the first frames no page is in. -/
def freC (k : Bk) : Nat → Nat
  | 0 => 0
  | f + 1 => freC k f + if k.refs f = 0 then 1 else 0
theorem freC_left {k : Bk} {N : Nat} {me : Nat → Me} (h : Wld k N me) : freC k 64 = Bd.left k.pool := by
  have key : ∀ j, j ≤ 64 → Bd.leftK k.pool j + j = Bd.allK k.pool j + freC k j := by
    intro j
    induction j with
    | zero => intro _; rfl
    | succ j ih =>
      intro hj
      have a := ih (by omega)
      show Bd.leftK k.pool j + (if 0 < k.pool.ord j ∧ k.pool.tk j = false then Bd.sz (k.pool.ord j) else 0) + (j + 1) = Bd.allK k.pool j + (if 0 < k.pool.ord j then Bd.sz (k.pool.ord j) else 0) + (freC k j + if k.refs j = 0 then 1 else 0)
      have t := h.tk j (by omega)
      cases c : k.pool.tk j
      · rw [c] at t
        have r0 : k.refs j = 0 := by
          have : ¬ 1 ≤ k.refs j := fun d => by cases t.2 d
          omega
        rw [if_pos r0]
        by_cases d : 0 < k.pool.ord j
        · rw [if_pos ⟨d, rfl⟩, if_pos d]; omega
        · rw [if_neg (fun e => d e.1), if_neg d]; omega
      · have o := h.one j (by omega) c
        have r1 := t.1 c
        rw [if_neg (fun e => by cases e.2), o, if_pos (by omega), if_neg (by omega)]
        have : Bd.sz 1 = 1 := rfl
        omega
  have := key 64 (Nat.le_refl _)
  rw [Bd.allK_all h.inv] at this
  show _ = Bd.leftK k.pool 64
  omega
end Mv
end Go.Proofs.Ytnppahmlifnnnab

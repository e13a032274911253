import Derived.Below
import Derived.Test.YtghogbngmcolmaaGreatSad
import Derived.Test.YtghogbngmcolmaaGreatSaa
namespace Go.Proofs.YtghogbngmcolmaaGreat
namespace Sp
structure T where
  here : Nat → Bool
  par : Nat → Int
  who : Nat → Nat → Nat
  of : Nat → Nat
def way (t : T) : Nat → Int → List Nat
  | 0, _ => []
  | k + 1, z => if z < 0 then [] else z.toNat :: way t k (t.par z.toNat)
def W (t : T) (z : Int) : List Nat := way t 6 z
structure Tree (t : T) (d : Nat → Nat) : Prop where
  root : t.here 0 = true ∧ t.par 0 = -1 ∧ d 0 = 1
  up : ∀ n, 0 < n → n < 6 → t.here n = true → ∃ p : Nat, p < 6 ∧ t.par n = (p : Int) ∧ t.here p = true ∧ d n = d p + 1
  le : ∀ n, n < 6 → t.here n = true → 1 ≤ d n ∧ d n ≤ 4
section
variable {t : T} {d : Nat → Nat}
theorem way_neg (t : T) (k : Nat) (z : Int) (h : z < 0) : way t k z = [] := by cases k <;> simp [way, h]
theorem way_nat (t : T) (k n : Nat) : way t (k + 1) (n : Int) = n :: way t k (t.par n) := by
  simp only [way]; rw [if_neg (by omega), Int.toNat_natCast]
theorem Tree.par_cases (h : Tree t d) {n : Nat} (hn : n < 6) (hh : t.here n = true) : (n = 0 ∧ t.par n = -1 ∧ d n = 1) ∨ ∃ p : Nat, p < 6 ∧ t.par n = (p : Int) ∧ t.here p = true ∧ d n = d p + 1 := by
  by_cases e : n = 0
  · subst e; exact .inl ⟨rfl, h.root.2⟩
  · exact .inr (h.up n (by omega) hn hh)
theorem Tree.way_eq (h : Tree t d) : ∀ (k n : Nat), n < 6 → t.here n = true → d n ≤ k → way t (k + 1) (n : Int) = way t k (n : Int)
  | 0, n, hn, hh, hk => absurd (h.le n hn hh).1 (by omega)
  | k + 1, n, hn, hh, hk => by
    rw [way_nat, way_nat]
    rcases h.par_cases hn hh with ⟨_, e, _⟩ | ⟨p, h1, e, h2, h3⟩
    · rw [e, way_neg _ _ _ (by omega), way_neg _ _ _ (by omega)]
    · rw [e, h.way_eq k p h1 h2 (by omega)]
theorem Tree.step (h : Tree t d) {n : Nat} (hn : n < 6) (hh : t.here n = true) : W t (n : Int) = n :: W t (t.par n) := by
  unfold W
  rw [way_nat]
  rcases h.par_cases hn hh with ⟨_, e, _⟩ | ⟨p, h1, e, h2, h3⟩
  · rw [e, way_neg _ _ _ (by omega), way_neg _ _ _ (by omega)]
  · rw [e, h.way_eq 5 p h1 h2 (by have := (h.le n hn hh).2; omega)]
theorem W_neg (t : T) (z : Int) (h : z < 0) : W t z = [] := way_neg t 6 z h
theorem Tree.ind (h : Tree t d) {P : Nat → Prop} (hP : ∀ n, n < 6 → t.here n = true → (∀ p : Nat, p < 6 → t.here p = true → t.par n = (p : Int) → d n = d p + 1 → P p) → P n) : ∀ n, n < 6 → t.here n = true → P n := by
  have : ∀ k n, d n ≤ k → n < 6 → t.here n = true → P n := by
    intro k
    induction k with
    | zero => intro n h1 h2 h3; have := (h.le n h2 h3).1; omega
    | succ k ih => intro n h1 h2 h3; exact hP n h2 h3 (fun p p1 p2 _ p4 => ih p (by omega) p1 p2)
  exact fun n => this (d n) n (Nat.le_refl _)
theorem Tree.len (h : Tree t d) {n : Nat} (hn : n < 6) (hh : t.here n = true) : (W t (n : Int)).length = d n := by
  refine h.ind (P := fun n => (W t (n : Int)).length = d n) (fun n hn hh ih => ?_) n hn hh
  show (W t (n : Int)).length = d n
  rw [h.step hn hh]
  rcases h.par_cases hn hh with ⟨_, e, e2⟩ | ⟨p, h1, e, h2, h3⟩
  · rw [e, W_neg _ _ (by omega), e2]; rfl
  · rw [e, List.length_cons, ih p h1 h2 e h3, h3]
theorem Tree.mem (h : Tree t d) {n : Nat} (hn : n < 6) (hh : t.here n = true) : ∀ x, x ∈ W t (n : Int) → x < 6 ∧ t.here x = true ∧ d x ≤ d n := by
  refine h.ind (P := fun n => ∀ x, x ∈ W t (n : Int) → x < 6 ∧ t.here x = true ∧ d x ≤ d n) (fun n hn hh ih => ?_) n hn hh
  intro x hx
  rw [h.step hn hh] at hx
  rcases List.mem_cons.1 hx with e | hx
  · subst e; exact ⟨hn, hh, Nat.le_refl _⟩
  · rcases h.par_cases hn hh with ⟨_, e, e2⟩ | ⟨p, h1, e, h2, h3⟩
    · rw [e, W_neg _ _ (by omega)] at hx; cases hx
    · rw [e] at hx
      have := ih p h1 h2 e h3 x hx
      exact ⟨this.1, this.2.1, by omega⟩
theorem Tree.nodup (h : Tree t d) {n : Nat} (hn : n < 6) (hh : t.here n = true) : (W t (n : Int)).Nodup := by
  refine h.ind (P := fun n => (W t (n : Int)).Nodup) (fun n hn hh ih => ?_) n hn hh
  show (W t (n : Int)).Nodup
  rw [h.step hn hh]
  rcases h.par_cases hn hh with ⟨_, e, e2⟩ | ⟨p, h1, e, h2, h3⟩
  · rw [e, W_neg _ _ (by omega)]; simp
  · rw [e, List.nodup_cons]
    exact ⟨fun hm => by have := (h.mem h1 h2 n hm).2.2; omega, ih p h1 h2 e h3⟩
theorem W_same {t t' : T} (h : Tree t d) (hp : ∀ n, n < 6 → t.here n = true → t'.par n = t.par n) {n : Nat} (hn : n < 6) (hh : t.here n = true) : W t' (n : Int) = W t (n : Int) := by
  have : ∀ k n, n < 6 → t.here n = true → way t' k (n : Int) = way t k (n : Int) := by
    intro k
    induction k with
    | zero => intro n _ _; rfl
    | succ k ih =>
      intro n hn hh
      rw [way_nat, way_nat, hp n hn hh]
      rcases h.par_cases hn hh with ⟨_, e, _⟩ | ⟨p, h1, e, h2, h3⟩
      · rw [e, way_neg _ _ _ (by omega), way_neg _ _ _ (by omega)]
      · rw [e, ih p h1 h2]
  exact this 6 n hn hh
end
structure Inv (t : T) (d : Nat → Nat) : Prop where
  tree : Tree t d
  no : ∀ n, n < 6 → t.here n = false → t.par n = 0
  who0 : ∀ n, n < 6 → t.who n 0 = 0
  wle : ∀ n p, n < 6 → p < 21 → t.who n p ≤ 20
  one : ∀ n p q, n < 6 → p < 21 → q < 21 → t.who n p = t.who n q → t.who n p ≠ 0 → p = q
  has : ∀ n x, n < 6 → x < 20 → ((∃ p, p < 21 ∧ t.who n p = x + 1) ↔ (t.of x ≠ 0 ∧ n ∈ W t ((t.of x - 1 : Nat) : Int)))
  ofs : ∀ x, x < 20 → t.of x ≠ 0 → t.of x ≤ 6 ∧ t.here (t.of x - 1) = true
def isE (t : T) (z : Int) : Int := if z < 0 ∨ 6 ≤ z then 1 else if t.here z.toNat = true then 0 else 2
def procE (z : Int) : Int := if z < 0 ∨ 20 ≤ z then 1 else 0
def freeS (t : T) : Nat := ((List.range 6).find? (fun n => !t.here n)).getD 6
def addE (t : T) (z : Int) : Int := if isE t z = 0 then (if 4 ≤ (W t z).length then 7 else if freeS t = 6 then 4 else 0) else isE t z
def addN (t : T) (z : Int) : Nat := if addE t z = 0 then freeS t else 0
def upN (f : Nat → Nat) (i v : Nat) : Nat → Nat := fun j => if j = i then v else f j
def upI (f : Nat → Int) (i : Nat) (v : Int) : Nat → Int := fun j => if j = i then v else f j
def upB (f : Nat → Bool) (i : Nat) (v : Bool) : Nat → Bool := fun j => if j = i then v else f j
def addT (t : T) (z : Int) : T := if addE t z = 0 then { t with here := upB t.here (freeS t) true, par := upI t.par (freeS t) z } else t
def memP (t : T) (n p : Nat) : Bool := decide (t.who n p ≠ 0)
def memb (t : T) (n : Nat) : List Nat := ((List.range 21).filter (memP t n)).map (fun p => t.who n p - 1)
def kidP (t : T) (n k : Nat) : Bool := t.here k && decide (t.par k = (n : Int))
def kids (t : T) (n : Nat) : Bool := (List.range 6).any (kidP t n)
def dropE (t : T) (z : Int) : Int := if isE t z = 0 then (if z = 0 ∨ memb t z.toNat ≠ [] ∨ kids t z.toNat = true then 5 else 0) else isE t z
def dropT (t : T) (z : Int) : T := if dropE t z = 0 then { t with here := upB t.here z.toNat false, par := upI t.par z.toNat 0 } else t
def lowP (t : T) (n p : Nat) : Bool := decide (1 ≤ p) && decide (t.who n p = 0)
def low (t : T) (n : Nat) : Nat := ((List.range 21).find? (lowP t n)).getD 0
def pairE (t : T) (z x : Int) : Int := if isE t z = 0 then procE x else isE t z
def entE (t : T) (z x : Int) : Int := if pairE t z x = 0 then (if t.of x.toNat = 0 then 0 else 3) else pairE t z x
def putT (t : T) (L : List Nat) (x : Nat) : T := { t with who := fun n p => if n ∈ L ∧ p = low t n then x + 1 else t.who n p }
def entT (t : T) (z x : Int) : T := if entE t z x = 0 then { putT t (W t z) x.toNat with of := upN t.of x.toNat (z.toNat + 1) } else t
def isP (t : T) (n x p : Nat) : Bool := decide (t.who n p = x + 1)
def pidOf (t : T) (n x : Nat) : Nat := ((List.range 21).find? (isP t n x)).getD 0
def entN (t : T) (z x : Int) : Nat := if entE t z x = 0 then pidOf (entT t z x) z.toNat x.toNat else 0
def inE (t : T) (x : Int) : Int := if procE x = 0 then (if t.of x.toNat = 0 then 2 else 0) else procE x
def inN (t : T) (x : Int) : Nat := if inE t x = 0 then t.of x.toNat - 1 else 0
def cutT (t : T) (L : List Nat) (x : Nat) : T := { t with who := fun n p => if n ∈ L ∧ t.who n p = x + 1 then 0 else t.who n p }
def leaT (t : T) (x : Int) : T := if inE t x = 0 then { cutT t (List.range 6) x.toNat with of := upN t.of x.toNat 0 } else t
def pidE (t : T) (x z : Int) : Int := if pairE t z x = 0 then (if pidOf t z.toNat x.toNat = 0 then 2 else 0) else pairE t z x
def pidN (t : T) (x z : Int) : Nat := if pidE t x z = 0 then pidOf t z.toNat x.toNat else 0
def findE (t : T) (z p : Int) : Int := if isE t z = 0 then (if p < 1 ∨ 20 < p ∨ t.who z.toNat p.toNat = 0 then 2 else 0) else isE t z
def findN (t : T) (z p : Int) : Nat := if findE t z p = 0 then t.who z.toNat p.toNat - 1 else 0
def t0 : T := ⟨fun n => decide (n = 0), fun n => if n = 0 then -1 else 0, fun _ _ => 0, fun _ => 0⟩
theorem find_lt {P : Nat → Bool} {n i : Nat} (h : (List.range n).find? P = some i) : i < n ∧ P i = true ∧ ∀ j, j < i → P j = false := by
  obtain ⟨h1, L, M, h2, h3⟩ := List.find?_eq_some_iff_append.1 h
  have hi : i < n := by have := List.mem_of_find?_eq_some h; simpa using this
  refine ⟨hi, h1, fun j hj => ?_⟩
  have hl : L.length = i := by
    have e1 : (List.range n)[L.length]? = some i := by rw [h2]; simp
    rw [List.getElem?_range (by have := congrArg List.length h2; simp at this; omega)] at e1
    exact Option.some.inj e1
  have hm : j ∈ L := by
    have e : (List.range n)[j]? = L[j]? := by rw [h2, List.getElem?_append_left (by omega)]
    rw [List.getElem?_range (by omega)] at e
    exact List.mem_of_getElem? e.symm
  have := h3 j hm
  simpa using this
theorem find_at {P : Nat → Bool} {n i : Nat} (hi : i < n) (h : P i = true) (hl : ∀ j, j < i → P j = false) : (List.range n).find? P = some i := by
  cases hf : (List.range n).find? P with
  | none =>
    have := List.find?_eq_none.1 hf i (by simpa using hi)
    exact absurd h this
  | some k =>
    have := find_lt hf
    congr 1
    by_cases e1 : k < i
    · have := hl k e1; rw [(find_lt hf).2.1] at this; cases this
    · by_cases e2 : i < k
      · have := (find_lt hf).2.2 i e2; rw [h] at this; cases this
      · omega
theorem find_no {P : Nat → Bool} {n : Nat} (h : ∀ j, j < n → P j = false) : (List.range n).find? P = none := by
  rw [List.find?_eq_none]
  intro j hj
  rw [h j (by simpa using hj)]; simp
theorem isE_zero {t : T} {z : Int} (h : isE t z = 0) : ∃ n : Nat, z = n ∧ n < 6 ∧ t.here n = true := by
  unfold isE at h
  by_cases k : z < 0 ∨ 6 ≤ z
  · rw [if_pos k] at h; omega
  · obtain ⟨n, rfl⟩ := Int.eq_ofNat_of_zero_le (show 0 ≤ z by omega)
    rw [if_neg k, Int.toNat_natCast] at h
    refine ⟨n, rfl, by omega, ?_⟩
    by_cases c : t.here n = true
    · exact c
    · rw [if_neg c] at h; omega
theorem isE_nat {t : T} {n : Nat} (hn : n < 6) (hh : t.here n = true) : isE t n = 0 := by
  unfold isE; rw [if_neg (by omega), Int.toNat_natCast, if_pos hh]
theorem procE_zero {z : Int} (h : procE z = 0) : ∃ n : Nat, z = n ∧ n < 20 := by
  unfold procE at h
  by_cases k : z < 0 ∨ 20 ≤ z
  · rw [if_pos k] at h; omega
  · exact ⟨z.toNat, by omega, by omega⟩
theorem procE_nat {n : Nat} (hn : n < 20) : procE n = 0 := by unfold procE; rw [if_neg (by omega)]
theorem pairE_zero {t : T} {z x : Int} (h : pairE t z x = 0) : ∃ n k : Nat, z = n ∧ x = k ∧ n < 6 ∧ k < 20 ∧ t.here n = true := by
  unfold pairE at h
  by_cases k : isE t z = 0
  · rw [if_pos k] at h
    obtain ⟨n, rfl, h1, h2⟩ := isE_zero k
    obtain ⟨m, rfl, h3⟩ := procE_zero h
    exact ⟨n, m, rfl, rfl, h1, h3, h2⟩
  · rw [if_neg k] at h; exact absurd h k
theorem freeS_lt {t : T} (h : freeS t ≠ 6) : freeS t < 6 ∧ t.here (freeS t) = false ∧ ∀ j, j < freeS t → t.here j = true := by
  unfold freeS at *
  cases hf : (List.range 6).find? (fun n => !t.here n) with
  | none => rw [hf] at h; exact absurd rfl h
  | some k =>
    have := find_lt hf
    refine ⟨this.1, ?_, fun j hj => ?_⟩
    · have := this.2.1; simpa using this
    · have := this.2.2 j hj; simpa using this
theorem freeS_at {t : T} {n : Nat} (hn : n < 6) (h : t.here n = false) (hl : ∀ j, j < n → t.here j = true) : freeS t = n := by
  unfold freeS
  rw [find_at (P := fun n => !t.here n) hn (by simp [h]) (fun j hj => by simp [hl j hj])]; rfl
theorem freeS_no {t : T} (hl : ∀ j, j < 6 → t.here j = true) : freeS t = 6 := by
  unfold freeS
  rw [find_no (P := fun n => !t.here n) (fun j hj => by simp [hl j hj])]; rfl
theorem addE_zero {t : T} {z : Int} (h : addE t z = 0) : ∃ n : Nat, z = n ∧ n < 6 ∧ t.here n = true ∧ (W t z).length < 4 ∧ freeS t < 6 ∧ t.here (freeS t) = false ∧ ∀ j, j < freeS t → t.here j = true := by
  unfold addE at h
  by_cases k : isE t z = 0
  · rw [if_pos k] at h
    obtain ⟨n, rfl, h1, h2⟩ := isE_zero k
    by_cases c : 4 ≤ (W t n).length
    · rw [if_pos c] at h; omega
    · rw [if_neg c] at h
      by_cases f : freeS t = 6
      · rw [if_pos f] at h; omega
      · exact ⟨n, rfl, h1, h2, by omega, freeS_lt f⟩
  · rw [if_neg k] at h; exact absurd h k
theorem tree0 : Tree t0 (fun _ => 1) := by
  refine ⟨⟨rfl, rfl, rfl⟩, fun n h0 _ hh => ?_, fun n _ _ => ⟨by omega, by omega⟩⟩
  simp [t0] at hh; omega
theorem inv0 : Inv t0 (fun _ => 1) := by
  refine ⟨tree0, fun n _ hh => ?_, fun _ _ => rfl, fun _ _ _ _ => Nat.zero_le _, fun _ _ _ _ _ _ _ h => absurd rfl h, fun n x _ _ => ⟨fun ⟨p, _, h⟩ => ?_, fun ⟨h, _⟩ => absurd rfl h⟩, fun x _ h => absurd rfl h⟩
  · simp [t0] at hh ⊢; exact fun e => absurd e hh
  · simp [t0] at h
theorem Inv.dead {t : T} {d : Nat → Nat} (h : Inv t d) {n p : Nat} (hn : n < 6) (hp : p < 21) (hh : t.here n = false) : t.who n p = 0 := by
  by_cases e : t.who n p = 0
  · exact e
  · have hl := h.wle n p hn hp
    have := (h.has n (t.who n p - 1) hn (by omega)).1 ⟨p, hp, by omega⟩
    have o := h.ofs (t.who n p - 1) (by omega) this.1
    have := (h.tree.mem (by omega) o.2 n this.2).2.1
    rw [hh] at this; cases this
end Sp
end Go.Proofs.YtghogbngmcolmaaGreat
namespace Go.Proofs.YtghogbngmcolmaaGreat
namespace Sp
section
variable {t : T} {d : Nat → Nat}
theorem Inv.add (h : Inv t d) (z : Int) : ∃ d', Inv (addT t z) d' := by
  unfold addT
  by_cases k : addE t z = 0
  · rw [if_pos k]
    obtain ⟨n, rfl, hn, hh, hl, hf, hfh, _⟩ := addE_zero k
    rw [h.tree.len hn hh] at hl
    generalize freeS t = f at *
    have fn : n ≠ f := fun e => by rw [e, hfh] at hh; cases hh
    have f0 : f ≠ 0 := fun e => by rw [e, h.tree.root.1] at hfh; cases hfh
    have nf : ∀ m, t.here m = true → m ≠ f := fun m hm e => by rw [e, hfh] at hm; cases hm
    have hpar : ∀ m, m < 6 → t.here m = true → upI t.par f n m = t.par m := fun m _ hm => by unfold upI; rw [if_neg (nf m hm)]
    obtain ⟨t', et⟩ : ∃ t' : T, { t with here := upB t.here f true, par := upI t.par f n } = t' := ⟨_, rfl⟩
    have eh : ∀ m, t'.here m = if m = f then true else t.here m := fun m => by rw [← et]; rfl
    have ep : ∀ m, t'.par m = if m = f then (n : Int) else t.par m := fun m => by rw [← et]; rfl
    have ew : t'.who = t.who := by rw [← et]
    have eo : t'.of = t.of := by rw [← et]
    have hw : ∀ m, m < 6 → t.here m = true → W t' (m : Int) = W t (m : Int) := fun m hm hmh => W_same h.tree (fun m hm hh => by rw [ep, if_neg (nf m hh)]) hm hmh
    rw [et]
    refine ⟨fun m => if m = f then d n + 1 else d m, ⟨⟨?_, fun m m0 hm hmh => ?_, fun m hm hmh => ?_⟩, fun m hm hmh => ?_, by rw [ew]; exact h.who0, by rw [ew]; exact h.wle, by rw [ew]; exact h.one, fun m x hm hx => ?_, fun x hx hx0 => ?_⟩⟩
    · refine ⟨?_, ?_, ?_⟩
      · rw [eh]; split
        · rfl
        · exact h.tree.root.1
      · rw [ep, if_neg (Ne.symm f0)]; exact h.tree.root.2.1
      · show (if 0 = f then d n + 1 else d 0) = 1
        rw [if_neg (Ne.symm f0)]; exact h.tree.root.2.2
    · show ∃ p : Nat, p < 6 ∧ t'.par m = (p : Int) ∧ t'.here p = true ∧ (if m = f then d n + 1 else d m) = (if p = f then d n + 1 else d p) + 1
      by_cases e : m = f
      · subst e
        refine ⟨n, hn, by rw [ep, if_pos rfl], by rw [eh, if_neg fn]; exact hh, by rw [if_pos rfl, if_neg fn]⟩
      · rw [eh, if_neg e] at hmh
        obtain ⟨p, p1, p2, p3, p4⟩ := h.tree.up m m0 hm hmh
        exact ⟨p, p1, by rw [ep, if_neg e]; exact p2, by rw [eh, if_neg (nf p p3)]; exact p3, by rw [if_neg e, if_neg (nf p p3)]; exact p4⟩
    · show 1 ≤ (if m = f then d n + 1 else d m) ∧ (if m = f then d n + 1 else d m) ≤ 4
      by_cases e : m = f
      · rw [if_pos e]; omega
      · rw [if_neg e]
        rw [eh, if_neg e] at hmh
        exact h.tree.le m hm hmh
    · rw [eh] at hmh
      by_cases e : m = f
      · rw [if_pos e] at hmh; cases hmh
      · rw [if_neg e] at hmh; rw [ep, if_neg e]; exact h.no m hm hmh
    · rw [ew, eo, h.has m x hm hx]
      constructor
      · rintro ⟨h1, h2⟩
        have o := h.ofs x hx h1
        exact ⟨h1, by rw [hw _ (by omega) o.2]; exact h2⟩
      · rintro ⟨h1, h2⟩
        have o := h.ofs x hx h1
        exact ⟨h1, by rw [hw _ (by omega) o.2] at h2; exact h2⟩
    · rw [eo] at hx0 ⊢
      have o := h.ofs x hx hx0
      exact ⟨o.1, by rw [eh]; split; rfl; exact o.2⟩
  · rw [if_neg k]; exact ⟨d, h⟩
theorem memb_nil {n : Nat} (h : memb t n = []) (p : Nat) (hp : p < 21) : t.who n p = 0 := by
  unfold memb at h
  have h1 := List.map_eq_nil_iff.1 h
  have := List.filter_eq_nil_iff.1 h1 p (by simpa using hp)
  simpa [memP] using this
theorem kids_no {n : Nat} (h : kids t n = false) (k : Nat) (hk : k < 6) (hh : t.here k = true) : t.par k ≠ (n : Int) := fun e => by
  have : kids t n = true := by unfold kids; rw [List.any_eq_true]; exact ⟨k, by simpa using hk, by unfold kidP; rw [hh, e]; simp⟩
  rw [h] at this; cases this
theorem dropE_zero {z : Int} (h : dropE t z = 0) : ∃ n : Nat, z = n ∧ n ≠ 0 ∧ n < 6 ∧ t.here n = true ∧ memb t n = [] ∧ kids t n = false := by
  unfold dropE at h
  by_cases k : isE t z = 0
  · rw [if_pos k] at h
    obtain ⟨n, rfl, h1, h2⟩ := isE_zero k
    rw [Int.toNat_natCast] at h
    by_cases c : (n : Int) = 0 ∨ memb t n ≠ [] ∨ kids t n = true
    · rw [if_pos c] at h; omega
    · refine ⟨n, rfl, fun e => c (.inl (by omega)), h1, h2, ?_, ?_⟩
      · exact Classical.byContradiction fun e => c (.inr (.inl e))
      · cases hk : kids t n
        · rfl
        · exact absurd (.inr (.inr hk)) c
  · rw [if_neg k] at h; exact absurd h k
theorem Inv.drop (h : Inv t d) (z : Int) : Inv (dropT t z) d := by
  unfold dropT
  by_cases k : dropE t z = 0
  · rw [if_pos k]
    obtain ⟨f, rfl, f0, hf, hfh, hm, hk⟩ := dropE_zero k
    rw [Int.toNat_natCast]
    obtain ⟨t', et⟩ : ∃ t' : T, { t with here := upB t.here f false, par := upI t.par f 0 } = t' := ⟨_, rfl⟩
    have eh : ∀ m, t'.here m = if m = f then false else t.here m := fun m => by rw [← et]; rfl
    have ep : ∀ m, t'.par m = if m = f then (0 : Int) else t.par m := fun m => by rw [← et]; rfl
    have ew : t'.who = t.who := by rw [← et]
    have eo : t'.of = t.of := by rw [← et]
    rw [et]
    have pn : ∀ m p : Nat, m < 6 → t.here m = true → t.par m = (p : Int) → p ≠ f := fun m p hm hh e c => kids_no hk m hm hh (by rw [e, c])
    have tr : Tree t' d := by
      refine ⟨⟨by rw [eh, if_neg (Ne.symm f0)]; exact h.tree.root.1, by rw [ep, if_neg (Ne.symm f0)]; exact h.tree.root.2.1, h.tree.root.2.2⟩, fun m m0 hm' hmh => ?_, fun m hm' hmh => ?_⟩
      · rw [eh] at hmh
        by_cases e : m = f
        · rw [if_pos e] at hmh; cases hmh
        · rw [if_neg e] at hmh
          obtain ⟨p, p1, p2, p3, p4⟩ := h.tree.up m m0 hm' hmh
          exact ⟨p, p1, by rw [ep, if_neg e]; exact p2, by rw [eh, if_neg (pn m p hm' hmh p2)]; exact p3, p4⟩
      · rw [eh] at hmh
        by_cases e : m = f
        · rw [if_pos e] at hmh; cases hmh
        · rw [if_neg e] at hmh; exact h.tree.le m hm' hmh
    have hw : ∀ m, m < 6 → t'.here m = true → W t (m : Int) = W t' (m : Int) := fun m hm' hmh => W_same tr (fun k hk' hkh => by
      rw [eh] at hkh
      by_cases e : k = f
      · rw [if_pos e] at hkh; cases hkh
      · rw [ep, if_neg e]) hm' hmh
    have of : ∀ x, x < 20 → t.of x ≠ 0 → t.of x - 1 ≠ f := fun x hx hx0 e => by
      have o := h.ofs x hx hx0
      have : t.of x - 1 ∈ W t ((t.of x - 1 : Nat) : Int) := by rw [h.tree.step (by omega) o.2]; simp
      obtain ⟨p, hp, hw⟩ := (h.has (t.of x - 1) x (by omega) hx).2 ⟨hx0, this⟩
      rw [e, memb_nil hm p hp] at hw; omega
    refine ⟨tr, fun m hm' hmh => ?_, by rw [ew]; exact h.who0, by rw [ew]; exact h.wle, by rw [ew]; exact h.one, fun m x hm' hx => ?_, fun x hx hx0 => ?_⟩
    · rw [eh] at hmh
      by_cases e : m = f
      · rw [ep, if_pos e]
      · rw [if_neg e] at hmh; rw [ep, if_neg e]; exact h.no m hm' hmh
    · rw [ew, eo, h.has m x hm' hx]
      constructor
      · rintro ⟨h1, h2⟩
        have o := h.ofs x hx h1
        exact ⟨h1, by rw [← hw _ (by omega) (by rw [eh, if_neg (of x hx h1)]; exact o.2)]; exact h2⟩
      · rintro ⟨h1, h2⟩
        have o := h.ofs x hx h1
        exact ⟨h1, by rw [← hw _ (by omega) (by rw [eh, if_neg (of x hx h1)]; exact o.2)] at h2; exact h2⟩
    · rw [eo] at hx0 ⊢
      have o := h.ofs x hx hx0
      exact ⟨o.1, by rw [eh, if_neg (of x hx hx0)]; exact o.2⟩
  · rw [if_neg k]; exact h
theorem len_le : ∀ (l m : List Nat), l.Nodup → (∀ x ∈ l, x ∈ m) → l.length ≤ m.length
  | [], _, _, _ => Nat.zero_le _
  | a :: t, m, hn, hs => by
    have hn' := List.nodup_cons.1 hn
    have ha : a ∈ m := hs a (by simp)
    have := len_le t (m.erase a) hn'.2 (fun x hx => (List.mem_erase_of_ne (show x ≠ a from fun e => hn'.1 (by rw [← e]; exact hx))).2 (hs x (by simp [hx])))
    rw [List.length_erase_of_mem ha] at this
    have hp : 0 < m.length := List.length_pos_of_mem ha
    simp only [List.length_cons]
    omega
theorem Inv.room (h : Inv t d) {x n : Nat} (hx : x < 20) (h0 : t.of x = 0) (hn : n < 6) : ∃ p, 1 ≤ p ∧ p < 21 ∧ t.who n p = 0 := by
  refine Classical.byContradiction fun hc => ?_
  have hne : ∀ p, p < 20 → t.who n (p + 1) ≠ 0 := fun p hp e => hc ⟨p + 1, by omega, by omega, e⟩
  have hl : ((List.range 20).map (fun p => t.who n (p + 1) - 1)).Nodup := by
    rw [List.nodup_iff_pairwise_ne, List.pairwise_map]
    refine List.Pairwise.imp_of_mem ?_ (List.nodup_iff_pairwise_ne.1 List.nodup_range)
    intro a b ha hb hab e
    have ha' : a < 20 := by simpa using ha
    have hb' : b < 20 := by simpa using hb
    have a0 := hne a ha'
    have b0 := hne b hb'
    have := h.one n (a + 1) (b + 1) hn (by omega) (by omega) (by omega) a0
    omega
  have hs : ∀ y ∈ (List.range 20).map (fun p => t.who n (p + 1) - 1), y ∈ (List.range 20).erase x := by
    intro y hy
    obtain ⟨a, ha, rfl⟩ := List.mem_map.1 hy
    have ha' : a < 20 := by simpa using ha
    have a0 := hne a ha'
    have al := h.wle n (a + 1) hn (by omega)
    rw [List.Nodup.mem_erase_iff List.nodup_range]
    refine ⟨fun e => ?_, by simp; omega⟩
    have := (h.has n x hn hx).1 ⟨a + 1, by omega, by omega⟩
    exact this.1 h0
  have hlen := len_le _ _ hl hs
  rw [List.length_erase_of_mem (by simpa using hx)] at hlen
  simp at hlen
theorem Inv.low (h : Inv t d) {x n : Nat} (hx : x < 20) (h0 : t.of x = 0) (hn : n < 6) : 1 ≤ Sp.low t n ∧ Sp.low t n < 21 ∧ t.who n (Sp.low t n) = 0 ∧ ∀ q, 1 ≤ q → q < Sp.low t n → t.who n q ≠ 0 := by
  obtain ⟨p, p1, p2, p3⟩ := h.room hx h0 hn
  unfold Sp.low
  cases hf : (List.range 21).find? (lowP t n) with
  | none =>
    have := List.find?_eq_none.1 hf p (by simpa using p2)
    exact absurd (by unfold lowP; rw [p3]; simp; omega) this
  | some k =>
    have := find_lt hf
    have h1 := this.2.1
    unfold lowP at h1
    simp at h1
    refine ⟨h1.1, this.1, h1.2, fun q q1 q2 e => ?_⟩
    have := this.2.2 q q2
    unfold lowP at this
    rw [e] at this
    simp at this; omega
theorem low_at {n p : Nat} (p1 : 1 ≤ p) (p2 : p < 21) (h : t.who n p = 0) (hl : ∀ q, 1 ≤ q → q < p → t.who n q ≠ 0) : Sp.low t n = p := by
  unfold Sp.low
  rw [find_at p2 (by unfold lowP; rw [h]; simp; omega) (fun q hq => by
    unfold lowP
    by_cases e : 1 ≤ q
    · have := hl q e hq; simp [this]
    · simp [e])]
  rfl
theorem entE_zero {z x : Int} (h : entE t z x = 0) : ∃ n k : Nat, z = n ∧ x = k ∧ n < 6 ∧ k < 20 ∧ t.here n = true ∧ t.of k = 0 := by
  unfold entE at h
  by_cases c : pairE t z x = 0
  · rw [if_pos c] at h
    obtain ⟨n, k, rfl, rfl, h1, h2, h3⟩ := pairE_zero c
    rw [Int.toNat_natCast] at h
    refine ⟨n, k, rfl, rfl, h1, h2, h3, ?_⟩
    by_cases e : t.of k = 0
    · exact e
    · rw [if_neg e] at h; omega
  · rw [if_neg c] at h; exact absurd h c
theorem Inv.enter (h : Inv t d) (z x : Int) : Inv (entT t z x) d := by
  unfold entT
  by_cases k : entE t z x = 0
  · rw [if_pos k]
    obtain ⟨n, y, rfl, rfl, hn, hy, hh, h0⟩ := entE_zero k
    rw [Int.toNat_natCast, Int.toNat_natCast]
    obtain ⟨t', et⟩ : ∃ t' : T, { putT t (W t n) y with of := upN t.of y (n + 1) } = t' := ⟨_, rfl⟩
    have eh : t'.here = t.here := by rw [← et]; rfl
    have ep : t'.par = t.par := by rw [← et]; rfl
    have ew : ∀ m p, t'.who m p = if m ∈ W t n ∧ p = Sp.low t m then y + 1 else t.who m p := fun m p => by rw [← et]; rfl
    have eo : ∀ u, t'.of u = if u = y then n + 1 else t.of u := fun u => by rw [← et]; rfl
    rw [et]
    have hw : ∀ m, m < 6 → t.here m = true → W t' (m : Int) = W t (m : Int) := fun m hm hmh => W_same h.tree (fun k _ _ => by rw [ep]) hm hmh
    have lw : ∀ m, m < 6 → _ := fun m hm => h.low (n := m) hy h0 hm
    have free : ∀ m p, m < 6 → p < 21 → t.who m p ≠ y + 1 := fun m p hm hp e => ((h.has m y hm hy).1 ⟨p, hp, e⟩).1 h0
    refine ⟨⟨by rw [eh, ep]; exact h.tree.root, by rw [eh, ep]; exact h.tree.up, by rw [eh]; exact h.tree.le⟩, by rw [eh, ep]; exact h.no, fun m hm => ?_, fun m p hm hp => ?_, fun m p q hm hp hq e e0 => ?_, fun m u hm hu => ?_, fun u hu u0 => ?_⟩
    · rw [ew, if_neg (fun c => by have := (lw m hm).1; omega)]; exact h.who0 m hm
    · rw [ew]; split
      · omega
      · exact h.wle m p hm hp
    · rw [ew] at e e0
      rw [ew m q] at e
      by_cases c : m ∈ W t n ∧ p = Sp.low t m
      · rw [if_pos c] at e e0
        by_cases c2 : m ∈ W t n ∧ q = Sp.low t m
        · rw [c.2, c2.2]
        · rw [if_neg c2] at e; exact absurd e.symm (free m q hm hq)
      · rw [if_neg c] at e e0
        by_cases c2 : m ∈ W t n ∧ q = Sp.low t m
        · rw [if_pos c2] at e; exact absurd e (free m p hm hp)
        · rw [if_neg c2] at e; exact h.one m p q hm hp hq e e0
    · rw [eo]
      by_cases e : u = y
      · subst e
        rw [if_pos rfl]
        show _ ↔ n + 1 ≠ 0 ∧ m ∈ W t' (((n + 1 - 1 : Nat)) : Int)
        rw [Nat.add_sub_cancel, hw n hn hh]
        constructor
        · rintro ⟨p, hp, e⟩
          rw [ew] at e
          by_cases c : m ∈ W t n ∧ p = Sp.low t m
          · exact ⟨by omega, c.1⟩
          · rw [if_neg c] at e; exact absurd e (free m p hm hp)
        · rintro ⟨_, c⟩
          exact ⟨Sp.low t m, (lw m hm).2.1, by rw [ew, if_pos ⟨c, rfl⟩]⟩
      · rw [if_neg e]
        have hm' : (∃ p, p < 21 ∧ t'.who m p = u + 1) ↔ (∃ p, p < 21 ∧ t.who m p = u + 1) := by
          constructor
          · rintro ⟨p, hp, e2⟩
            rw [ew] at e2
            by_cases c : m ∈ W t n ∧ p = Sp.low t m
            · rw [if_pos c] at e2; omega
            · rw [if_neg c] at e2; exact ⟨p, hp, e2⟩
          · rintro ⟨p, hp, e2⟩
            refine ⟨p, hp, ?_⟩
            rw [ew, if_neg (fun c => by rw [c.2, (lw m hm).2.2.1] at e2; omega)]; exact e2
        rw [hm', h.has m u hm hu]
        constructor
        · rintro ⟨h1, h2⟩
          have o := h.ofs u hu h1
          exact ⟨h1, by rw [hw _ (by omega) o.2]; exact h2⟩
        · rintro ⟨h1, h2⟩
          have o := h.ofs u hu h1
          exact ⟨h1, by rw [hw _ (by omega) o.2] at h2; exact h2⟩
    · rw [eo] at u0 ⊢
      rw [eh]
      by_cases e : u = y
      · rw [if_pos e]; exact ⟨by omega, by rw [Nat.add_sub_cancel]; exact hh⟩
      · rw [if_neg e] at u0 ⊢; exact h.ofs u hu u0
  · rw [if_neg k]; exact h
theorem inE_zero {x : Int} (h : inE t x = 0) : ∃ k : Nat, x = k ∧ k < 20 ∧ t.of k ≠ 0 := by
  unfold inE at h
  by_cases c : procE x = 0
  · rw [if_pos c] at h
    obtain ⟨k, rfl, h2⟩ := procE_zero c
    rw [Int.toNat_natCast] at h
    refine ⟨k, rfl, h2, fun e => ?_⟩
    rw [if_pos e] at h; omega
  · rw [if_neg c] at h; exact absurd h c
theorem Inv.leave (h : Inv t d) (x : Int) : Inv (leaT t x) d := by
  unfold leaT
  by_cases k : inE t x = 0
  · rw [if_pos k]
    obtain ⟨y, rfl, hy, h0⟩ := inE_zero k
    rw [Int.toNat_natCast]
    obtain ⟨t', et⟩ : ∃ t' : T, { cutT t (List.range 6) y with of := upN t.of y 0 } = t' := ⟨_, rfl⟩
    have eh : t'.here = t.here := by rw [← et]; rfl
    have ep : t'.par = t.par := by rw [← et]; rfl
    have ew : ∀ m p, m < 6 → t'.who m p = if t.who m p = y + 1 then 0 else t.who m p := fun m p hm => by rw [← et]; simp [cutT, hm]
    have eo : ∀ u, t'.of u = if u = y then 0 else t.of u := fun u => by rw [← et]; rfl
    rw [et]
    have hw : ∀ m, m < 6 → t.here m = true → W t' (m : Int) = W t (m : Int) := fun m hm hmh => W_same h.tree (fun k _ _ => by rw [ep]) hm hmh
    refine ⟨⟨by rw [eh, ep]; exact h.tree.root, by rw [eh, ep]; exact h.tree.up, by rw [eh]; exact h.tree.le⟩, by rw [eh, ep]; exact h.no, fun m hm => ?_, fun m p hm hp => ?_, fun m p q hm hp hq e e0 => ?_, fun m u hm hu => ?_, fun u hu u0 => ?_⟩
    · rw [ew _ _ hm, h.who0 m hm]; rfl
    · rw [ew _ _ hm]; split
      · omega
      · exact h.wle m p hm hp
    · rw [ew _ _ hm] at e e0
      rw [ew _ q hm] at e
      by_cases c : t.who m p = y + 1
      · rw [if_pos c] at e0; exact absurd rfl e0
      · rw [if_neg c] at e e0
        by_cases c2 : t.who m q = y + 1
        · rw [if_pos c2] at e; exact absurd e e0
        · rw [if_neg c2] at e; exact h.one m p q hm hp hq e e0
    · rw [eo]
      by_cases e : u = y
      · subst e
        rw [if_pos rfl]
        constructor
        · rintro ⟨p, hp, e⟩
          rw [ew _ _ hm] at e
          by_cases c : t.who m p = u + 1
          · rw [if_pos c] at e; omega
          · rw [if_neg c] at e; exact absurd e c
        · rintro ⟨c, _⟩; exact absurd rfl c
      · rw [if_neg e]
        have hm' : (∃ p, p < 21 ∧ t'.who m p = u + 1) ↔ (∃ p, p < 21 ∧ t.who m p = u + 1) := by
          constructor
          · rintro ⟨p, hp, e2⟩
            rw [ew _ _ hm] at e2
            by_cases c : t.who m p = y + 1
            · rw [if_pos c] at e2; omega
            · rw [if_neg c] at e2; exact ⟨p, hp, e2⟩
          · rintro ⟨p, hp, e2⟩
            refine ⟨p, hp, ?_⟩
            rw [ew _ _ hm, if_neg (fun c => by rw [c] at e2; omega)]; exact e2
        rw [hm', h.has m u hm hu]
        constructor
        · rintro ⟨h1, h2⟩
          have o := h.ofs u hu h1
          exact ⟨h1, by rw [hw _ (by omega) o.2]; exact h2⟩
        · rintro ⟨h1, h2⟩
          have o := h.ofs u hu h1
          exact ⟨h1, by rw [hw _ (by omega) o.2] at h2; exact h2⟩
    · rw [eo] at u0 ⊢
      rw [eh]
      by_cases e : u = y
      · rw [if_pos e] at u0; exact absurd rfl u0
      · rw [if_neg e] at u0 ⊢; exact h.ofs u hu u0
  · rw [if_neg k]; exact h
end
end Sp
end Go.Proofs.YtghogbngmcolmaaGreat
namespace Go.Proofs.YtghogbngmcolmaaGreat
open Go.RowKit
open Sp (T)
def tyT (c : Bool) : TypeId := if c then 147 else 100000
def cw (c h : Bool) (v : Nat) : Int := if c then (if h then (v : Int) - 1 else 0) else v
def co (c : Bool) (v : Nat) : Int := if c then (v : Int) - 1 else v
def cellT (c : Bool) (t : T) (o : Nat) : Value :=
  if o < 138 then (if o % 23 = 0 then .bool (t.here (o / 23)) else if o % 23 = 1 then .int .i64 (t.par (o / 23)) else .int .i64 (cw c (t.here (o / 23)) (t.who (o / 23) (o % 23 - 2)))) else .int .i64 (co c (t.of (o - 138)))
theorem cellT_here (c : Bool) (t : T) (n : Nat) (hn : n < 6) : cellT c t (n * 23) = .bool (t.here n) := by
  unfold cellT
  rw [if_pos (by omega), if_pos (by omega), show n * 23 / 23 = n by omega]
theorem cellT_par (c : Bool) (t : T) (n : Nat) (hn : n < 6) : cellT c t (n * 23 + 1) = .int .i64 (t.par n) := by
  unfold cellT
  rw [if_pos (by omega), if_neg (by omega), if_pos (by omega), show (n * 23 + 1) / 23 = n by omega]
theorem cellT_who (c : Bool) (t : T) (n p : Nat) (hn : n < 6) (hp : p < 21) : cellT c t (n * 23 + 2 + p) = .int .i64 (cw c (t.here n) (t.who n p)) := by
  unfold cellT
  rw [if_pos (by omega), if_neg (by omega), if_neg (by omega), show (n * 23 + 2 + p) / 23 = n by omega, show (n * 23 + 2 + p) % 23 - 2 = p by omega]
theorem cellT_of (c : Bool) (t : T) (x : Nat) : cellT c t (138 + x) = .int .i64 (co c (t.of x)) := by
  unfold cellT
  rw [if_neg (by omega), show 138 + x - 138 = x by omega]
theorem cell_sort {P : Nat → Prop} (h1 : ∀ n, n < 6 → P (n * 23)) (h2 : ∀ n, n < 6 → P (n * 23 + 1)) (h3 : ∀ n p, n < 6 → p < 21 → P (n * 23 + 2 + p)) (h4 : ∀ x, x < 20 → P (138 + x)) (o : Nat) (ho : o < 158) : P o := by
  by_cases a : o < 138
  · by_cases r0 : o % 23 = 0
    · have := h1 (o / 23) (by omega); rwa [show o / 23 * 23 = o by omega] at this
    · by_cases r1 : o % 23 = 1
      · have := h2 (o / 23) (by omega); rwa [show o / 23 * 23 + 1 = o by omega] at this
      · have := h3 (o / 23) (o % 23 - 2) (by omega) (by omega); rwa [show o / 23 * 23 + 2 + (o % 23 - 2) = o by omega] at this
  · have := h4 (o - 138) (by omega); rwa [show 138 + (o - 138) = o by omega] at this
structure Tb (c : Bool) (w : World) (b : Nat) (t : T) : Prop where
  blk : ∃ C, w.heap[b]? = some (.cells C (tyT c) (0, 0)) ∧ C.size = 158
  cell : ∀ o, o < 158 → w.cell? ⟨b, o, none⟩ = some (cellT c t o)
section
variable {c : Bool} {w w' : World} {b : Nat} {t t' : T}
theorem Tb.drew (h : Tb c w b t) : Tb c w.drew b t := ⟨h.blk, h.cell⟩
theorem Tb.frozen (h : Tb c w b t) (o : Nat) : w.frozen? ⟨b, o, none⟩ = false := by obtain ⟨C, h1, _⟩ := h.blk; exact frozen_blk h1 o
theorem Tb.lt (h : Tb c w b t) : b < w.heap.size := by obtain ⟨C, h1, _⟩ := h.blk; exact (Array.getElem?_eq_some_iff.1 h1).1
theorem Tb.same (h : Tb c w b t) (e : w'.heap[b]? = w.heap[b]?) : Tb c w' b t := ⟨by rw [e]; exact h.blk, fun o ho => (World.cell?_of_block e).trans (h.cell o ho)⟩
theorem Tb.below (h : Tb c w b t) (k : Below w.heap.size w w') : Tb c w' b t := h.same (k.block b h.lt)
theorem Tb.congr (h : Tb c w b t) (e : ∀ o, o < 158 → cellT c t' o = cellT c t o) : Tb c w b t' := ⟨h.blk, fun o ho => by rw [e o ho]; exact h.cell o ho⟩
theorem Tb.cHere (h : Tb c w b t) (n : Nat) (hn : n < 6) : w.cell? ⟨b, n * 23, none⟩ = some (.bool (t.here n)) := by rw [h.cell _ (by omega), cellT_here c t n hn]
theorem Tb.cPar (h : Tb c w b t) (n : Nat) (hn : n < 6) : w.cell? ⟨b, n * 23 + 1, none⟩ = some (.int .i64 (t.par n)) := by rw [h.cell _ (by omega), cellT_par c t n hn]
theorem Tb.cWho (h : Tb c w b t) (n p : Nat) (hn : n < 6) (hp : p < 21) : w.cell? ⟨b, n * 23 + 2 + p, none⟩ = some (.int .i64 (cw c (t.here n) (t.who n p))) := by rw [h.cell _ (by omega), cellT_who c t n p hn hp]
theorem Tb.cOf (h : Tb c w b t) (x : Nat) (hx : x < 20) : w.cell? ⟨b, 138 + x, none⟩ = some (.int .i64 (co c (t.of x))) := by rw [h.cell _ (by omega), cellT_of]
theorem Tb.whoC (h : Tb true w b t) (n p : Nat) (hn : n < 6) (hp : p < 21) (hh : t.here n = true) : w.cell? ⟨b, n * 23 + 2 + p, none⟩ = some (.int .i64 ((t.who n p : Int) - 1)) := by rw [h.cWho n p hn hp, hh]; rfl
theorem Tb.ofC (h : Tb true w b t) (x : Nat) (hx : x < 20) : w.cell? ⟨b, 138 + x, none⟩ = some (.int .i64 ((t.of x : Int) - 1)) := by rw [h.cOf x hx]; rfl
theorem Tb.set (h : Tb c w b t) (o : Nat) (ho : o < 158) (v : Value) (hv : ∀ i, i < 158 → cellT c t' i = if i = o then v else cellT c t i) : Tb c (w.setCell ⟨b, o, none⟩ v) b t' := by
  obtain ⟨C, h1, h2⟩ := h.blk
  refine ⟨⟨_, blk_set h1 _ v, by simpa using h2⟩, fun i hi => ?_⟩
  rw [hv i hi]
  by_cases e : i = o
  · subst e; rw [cell_set_same h1 _ v (by omega), if_pos rfl]
  · rw [cell_set_ne h1 _ _ v (Ne.symm e), if_neg e]; exact h.cell i hi
def upW (t : T) (n p v : Nat) : T := { t with who := fun a q => if a = n ∧ q = p then v else t.who a q }
theorem Tb.setWho (h : Tb c w b t) (n p v : Nat) (hn : n < 6) (hp : p < 21) : Tb c (w.setCell ⟨b, n * 23 + 2 + p, none⟩ (.int .i64 (cw c (t.here n) v))) b (upW t n p v) := by
  refine h.set _ (by omega) _ (cell_sort (fun m hm => ?_) (fun m hm => ?_) (fun m q hm hq => ?_) (fun x hx => ?_))
  · rw [cellT_here c _ m hm, cellT_here c _ m hm, if_neg (by omega)]; rfl
  · rw [cellT_par c _ m hm, cellT_par c _ m hm, if_neg (by omega)]; rfl
  · rw [cellT_who c _ m q hm hq, cellT_who c _ m q hm hq]
    by_cases e : m = n ∧ q = p
    · obtain ⟨rfl, rfl⟩ := e
      rw [if_pos rfl]; simp [upW]
    · rw [if_neg (by omega)]; simp [upW, e]
  · rw [cellT_of, cellT_of, if_neg (by omega)]; rfl
theorem Tb.setOf (h : Tb c w b t) (x v : Nat) (hx : x < 20) : Tb c (w.setCell ⟨b, 138 + x, none⟩ (.int .i64 (co c v))) b { t with of := Sp.upN t.of x v } := by
  refine h.set _ (by omega) _ (cell_sort (fun m hm => ?_) (fun m hm => ?_) (fun m q hm hq => ?_) (fun y hy => ?_))
  · rw [cellT_here c _ m hm, cellT_here c _ m hm, if_neg (by omega)]
  · rw [cellT_par c _ m hm, cellT_par c _ m hm, if_neg (by omega)]
  · rw [cellT_who c _ m q hm hq, cellT_who c _ m q hm hq, if_neg (by omega)]
  · rw [cellT_of, cellT_of]
    by_cases e : y = x
    · subst e; rw [if_pos rfl]; simp [Sp.upN]
    · rw [if_neg (by omega)]; simp [Sp.upN, e]
end
def spA (hh : Bool) (p : Int) (f : Nat → Int) : Array Value := ((List.range 23).map fun i => if i = 0 then Value.bool hh else if i = 1 then .int .i64 p else .int .i64 (f (i - 2))).toArray
theorem spA_size (hh : Bool) (p : Int) (f : Nat → Int) : (spA hh p f).size = 23 := by simp [spA]
theorem spA_len (hh : Bool) (p : Int) (f : Nat → Int) : (spA hh p f).toList.length = 23 := by simp [spA]
theorem spA_at (hh : Bool) (p : Int) (f : Nat → Int) (i : Nat) (h : i < 23) : (spA hh p f)[i]? = some (if i = 0 then Value.bool hh else if i = 1 then .int .i64 p else .int .i64 (f (i - 2))) := by simp [spA, h]
theorem spA_one (hh : Bool) (p : Int) (f : Nat → Int) : (spA hh p f).all (·.oneCell') = true := by
  rw [Array.all_eq_true_iff_forall_mem]
  intro v hv
  simp only [spA, List.mem_toArray, List.mem_map] at hv
  obtain ⟨i, _, rfl⟩ := hv
  split
  · rfl
  · split <;> rfl
theorem spA_set (hh : Bool) (p : Int) (f : Nat → Int) (i : Nat) (v : Int) (hi : i < 21) : (spA hh p f).setIfInBounds (2 + i) (.int .i64 v) = spA hh p (Sp.upI f i v) := by
  apply Array.ext_getElem?
  intro j
  rcases Nat.lt_or_ge j 23 with hj | hj
  · rw [spA_at _ _ _ j hj]
    by_cases e : j = 2 + i
    · subst e
      rw [Array.getElem?_setIfInBounds_self_of_lt (by rw [spA_size]; omega), if_neg (by omega), if_neg (by omega)]
      simp [Sp.upI]
    · rw [Array.getElem?_setIfInBounds_ne (by omega), spA_at _ _ _ j hj]
      by_cases e0 : j = 0
      · rw [if_pos e0, if_pos e0]
      · by_cases e1 : j = 1
        · rw [if_neg e0, if_pos e1, if_neg e0, if_pos e1]
        · rw [if_neg e0, if_neg e1, if_neg e0, if_neg e1]
          unfold Sp.upI; rw [if_neg (by omega)]
  · rw [Array.getElem?_eq_none (by simp [spA]; omega), Array.getElem?_eq_none (by rw [spA_size]; omega)]
section
variable {c : Bool} {w : World} {b : Nat} {t t' : T}
theorem Tb.there (h : Tb c w b t) (n : Nat) (hn : n < 6) (k : Nat) (hk : k = 23) : w.there b (n * 23) k := by
  obtain ⟨C, h1, h2⟩ := h.blk
  intro j hj
  exact ⟨by rw [cell_blk h1, Array.getElem?_eq_getElem (by omega)]; rfl, frozen_blk h1 _⟩
theorem Tb.store (h : Tb c w b t) (n : Nat) (hn : n < 6) (hh : Bool) (p : Int) (f : Nat → Int) : (storeCells ⟨b, n * 23, none⟩ (spA hh p f).toList).run Tryz.prog w = .ok () (w.setCells b (n * 23) (spA hh p f).toList) := by
  have ht := h.there n hn 23 rfl
  have hs := spA_len hh p f
  have := run_storeCells_cells (P := Tryz.prog) b (n * 23) (spA hh p f).toList 0 w
    (fun j hj => by simpa using (ht j (by omega)).1) (fun j hj => by simpa using (ht j (by omega)).2)
    (fun v hv => (Array.all_eq_true_iff_forall_mem.1 (spA_one hh p f)) v (by simpa using hv))
  simp only [Nat.add_zero] at this
  exact this
theorem Tb.setSpace (h : Tb c w b t) (n : Nat) (hn : n < 6) (hh : Bool) (p : Int) (f : Nat → Int) (g : Nat → Nat) (hf : ∀ q, q < 21 → f q = cw c hh (g q)) :
    Tb c (w.setCells b (n * 23) (spA hh p f).toList) b { t with here := Sp.upB t.here n hh, par := Sp.upI t.par n p, who := fun a q => if a = n then g q else t.who a q } := by
  obtain ⟨C, h1, h2⟩ := h.blk
  have ht := h.there n hn 23 rfl
  have hs := spA_len hh p f
  obtain ⟨C', k1, k2⟩ := heap_setCells_blk b (spA hh p f).toList (n * 23) w C h1
  have hin : ∀ j, j < 23 → (w.setCells b (n * 23) (spA hh p f).toList).cell? ⟨b, n * 23 + j, none⟩ = (spA hh p f)[j]? := fun j hj => by
    rw [World.cell?_setCells_in b (spA hh p f).toList (n * 23) w (fun i hi => (ht i (by omega)).1) j (by omega), ← Array.getElem?_toList, List.getElem?_eq_getElem (by omega)]
  have hout : ∀ i, i < n * 23 ∨ n * 23 + 23 ≤ i → (w.setCells b (n * 23) (spA hh p f).toList).cell? ⟨b, i, none⟩ = w.cell? ⟨b, i, none⟩ := fun i hi => by
    refine World.cell?_setCells_out b _ (n * 23) w ⟨b, i, none⟩ (fun _ _ => ?_)
    rw [hs]; exact hi
  refine ⟨⟨C', k1, by omega⟩, cell_sort (fun m hm => ?_) (fun m hm => ?_) (fun m q hm hq => ?_) (fun y hy => ?_)⟩
  · rw [cellT_here c _ m hm]
    by_cases e : m = n
    · subst e
      have := hin 0 (by omega)
      rw [spA_at _ _ _ 0 (by omega)] at this
      rw [Nat.add_zero] at this
      rw [this]; simp [Sp.upB]
    · rw [hout _ (by omega), h.cHere m hm]; simp [Sp.upB, e]
  · rw [cellT_par c _ m hm]
    by_cases e : m = n
    · subst e
      rw [hin 1 (by omega), spA_at _ _ _ 1 (by omega)]; simp [Sp.upI]
    · rw [hout _ (by omega), h.cPar m hm]; simp [Sp.upI, e]
  · rw [cellT_who c _ m q hm hq]
    by_cases e : m = n
    · subst e
      rw [show m * 23 + 2 + q = m * 23 + (2 + q) by omega, hin (2 + q) (by omega), spA_at _ _ _ (2 + q) (by omega), if_neg (by omega), if_neg (by omega), show 2 + q - 2 = q by omega, hf q hq]
      simp [Sp.upB]
    · rw [hout _ (by omega), h.cWho m q hm hq]; simp [Sp.upB, e]
  · rw [cellT_of, hout _ (by omega), h.cOf y hy]
end
end Go.Proofs.YtghogbngmcolmaaGreat

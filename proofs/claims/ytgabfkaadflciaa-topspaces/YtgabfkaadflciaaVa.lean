/- Spaces, plain: what each act answers and leaves; what stays true. -/
import Derived.Below
namespace Go.Proofs.Ytgabfkaadflciaa
namespace Sp

/-- Who is there; below whom; who has each number (the process and 1; 0: nobody); where each process is (the space and 1; 0: in none). -/
structure T where
  here : Nat → Bool
  par : Nat → Int
  who : Nat → Nat → Nat
  of : Nat → Nat

/-- The way to the root. -/
def way (t : T) : Nat → Int → List Nat
  | 0, _ => []
  | k + 1, z => if z < 0 then [] else z.toNat :: way t k (t.par z.toNat)
def W (t : T) (z : Int) : List Nat := way t 6 z
/-- A tree, with its depths. -/
structure Tree (t : T) (d : Nat → Nat) : Prop where
  root : t.here 0 = true ∧ t.par 0 = -1 ∧ d 0 = 1
  up : ∀ n, 0 < n → n < 6 → t.here n = true → ∃ p : Nat, p < 6 ∧ t.par n = (p : Int) ∧ t.here p = true ∧ d n = d p + 1
  le : ∀ n, n < 6 → t.here n = true → 1 ≤ d n ∧ d n ≤ 4
section
variable {t : T} {d : Nat → Nat}
theorem way_neg (t : T) (k : Nat) (z : Int) (h : z < 0) : way t k z = [] := by cases k <;> simp [way, h]
theorem way_nat (t : T) (k n : Nat) : way t (k + 1) (n : Int) = n :: way t k (t.par n) := by
  simp only [way]; rw [if_neg (by omega), Int.toNat_natCast]
theorem Tree.par_cases (h : Tree t d) {n : Nat} (hn : n < 6) (hh : t.here n = true) : (n = 0 ∧ t.par n = -1 ∧ d n = 1) ∨ ∃ p : Nat, p < 6 ∧ t.par n = (p : Int) ∧ t.here p = true ∧ d n = d p + 1 := by
  by_cases e : n = 0
  · subst e; exact .inl ⟨rfl, h.root.2⟩
  · exact .inr (h.up n (by omega) hn hh)
theorem Tree.way_eq (h : Tree t d) : ∀ (k n : Nat), n < 6 → t.here n = true → d n ≤ k → way t (k + 1) (n : Int) = way t k (n : Int)
  | 0, n, hn, hh, hk => absurd (h.le n hn hh).1 (by omega)
  | k + 1, n, hn, hh, hk => by
    rw [way_nat, way_nat]
    rcases h.par_cases hn hh with ⟨_, e, _⟩ | ⟨p, h1, e, h2, h3⟩
    · rw [e, way_neg _ _ _ (by omega), way_neg _ _ _ (by omega)]
    · rw [e, h.way_eq k p h1 h2 (by omega)]
theorem Tree.step (h : Tree t d) {n : Nat} (hn : n < 6) (hh : t.here n = true) : W t (n : Int) = n :: W t (t.par n) := by
  unfold W
  rw [way_nat]
  rcases h.par_cases hn hh with ⟨_, e, _⟩ | ⟨p, h1, e, h2, h3⟩
  · rw [e, way_neg _ _ _ (by omega), way_neg _ _ _ (by omega)]
  · rw [e, h.way_eq 5 p h1 h2 (by have := (h.le n hn hh).2; omega)]
theorem W_neg (t : T) (z : Int) (h : z < 0) : W t z = [] := way_neg t 6 z h
theorem Tree.ind (h : Tree t d) {P : Nat → Prop} (hP : ∀ n, n < 6 → t.here n = true → (∀ p : Nat, p < 6 → t.here p = true → t.par n = (p : Int) → d n = d p + 1 → P p) → P n) : ∀ n, n < 6 → t.here n = true → P n := by
  have : ∀ k n, d n ≤ k → n < 6 → t.here n = true → P n := by
    intro k
    induction k with
    | zero => intro n h1 h2 h3; have := (h.le n h2 h3).1; omega
    | succ k ih => intro n h1 h2 h3; exact hP n h2 h3 (fun p p1 p2 _ p4 => ih p (by omega) p1 p2)
  exact fun n => this (d n) n (Nat.le_refl _)
theorem Tree.len (h : Tree t d) {n : Nat} (hn : n < 6) (hh : t.here n = true) : (W t (n : Int)).length = d n := by
  refine h.ind (P := fun n => (W t (n : Int)).length = d n) (fun n hn hh ih => ?_) n hn hh
  show (W t (n : Int)).length = d n
  rw [h.step hn hh]
  rcases h.par_cases hn hh with ⟨_, e, e2⟩ | ⟨p, h1, e, h2, h3⟩
  · rw [e, W_neg _ _ (by omega), e2]; rfl
  · rw [e, List.length_cons, ih p h1 h2 e h3, h3]
theorem Tree.mem (h : Tree t d) {n : Nat} (hn : n < 6) (hh : t.here n = true) : ∀ x, x ∈ W t (n : Int) → x < 6 ∧ t.here x = true ∧ d x ≤ d n := by
  refine h.ind (P := fun n => ∀ x, x ∈ W t (n : Int) → x < 6 ∧ t.here x = true ∧ d x ≤ d n) (fun n hn hh ih => ?_) n hn hh
  intro x hx
  rw [h.step hn hh] at hx
  rcases List.mem_cons.1 hx with e | hx
  · subst e; exact ⟨hn, hh, Nat.le_refl _⟩
  · rcases h.par_cases hn hh with ⟨_, e, e2⟩ | ⟨p, h1, e, h2, h3⟩
    · rw [e, W_neg _ _ (by omega)] at hx; cases hx
    · rw [e] at hx
      have := ih p h1 h2 e h3 x hx
      exact ⟨this.1, this.2.1, by omega⟩
theorem Tree.nodup (h : Tree t d) {n : Nat} (hn : n < 6) (hh : t.here n = true) : (W t (n : Int)).Nodup := by
  refine h.ind (P := fun n => (W t (n : Int)).Nodup) (fun n hn hh ih => ?_) n hn hh
  show (W t (n : Int)).Nodup
  rw [h.step hn hh]
  rcases h.par_cases hn hh with ⟨_, e, e2⟩ | ⟨p, h1, e, h2, h3⟩
  · rw [e, W_neg _ _ (by omega)]; simp
  · rw [e, List.nodup_cons]
    exact ⟨fun hm => by have := (h.mem h1 h2 n hm).2.2; omega, ih p h1 h2 e h3⟩
theorem W_same {t t' : T} (h : Tree t d) (hp : ∀ n, n < 6 → t.here n = true → t'.par n = t.par n) {n : Nat} (hn : n < 6) (hh : t.here n = true) : W t' (n : Int) = W t (n : Int) := by
  have : ∀ k n, n < 6 → t.here n = true → way t' k (n : Int) = way t k (n : Int) := by
    intro k
    induction k with
    | zero => intro n _ _; rfl
    | succ k ih =>
      intro n hn hh
      rw [way_nat, way_nat, hp n hn hh]
      rcases h.par_cases hn hh with ⟨_, e, _⟩ | ⟨p, h1, e, h2, h3⟩
      · rw [e, way_neg _ _ _ (by omega), way_neg _ _ _ (by omega)]
      · rw [e, ih p h1 h2]
  exact this 6 n hn hh
end

/-- What stays true. -/
structure Inv (t : T) (d : Nat → Nat) : Prop where
  tree : Tree t d
  no : ∀ n, n < 6 → t.here n = false → t.par n = 0
  who0 : ∀ n, n < 6 → t.who n 0 = 0
  wle : ∀ n p, n < 6 → p < 21 → t.who n p ≤ 20
  one : ∀ n p q, n < 6 → p < 21 → q < 21 → t.who n p = t.who n q → t.who n p ≠ 0 → p = q
  has : ∀ n x, n < 6 → x < 20 → ((∃ p, p < 21 ∧ t.who n p = x + 1) ↔ (t.of x ≠ 0 ∧ n ∈ W t ((t.of x - 1 : Nat) : Int)))
  ofs : ∀ x, x < 20 → t.of x ≠ 0 → t.of x ≤ 6 ∧ t.here (t.of x - 1) = true

/-! What is answered. -/
def isE (t : T) (z : Int) : Int := if z < 0 ∨ 6 ≤ z then 1 else if t.here z.toNat = true then 0 else 2
def procE (z : Int) : Int := if z < 0 ∨ 20 ≤ z then 1 else 0
def freeS (t : T) : Nat := ((List.range 6).find? (fun n => !t.here n)).getD 6
def addE (t : T) (z : Int) : Int := if isE t z = 0 then (if 4 ≤ (W t z).length then 7 else if freeS t = 6 then 4 else 0) else isE t z
def addN (t : T) (z : Int) : Nat := if addE t z = 0 then freeS t else 0
def upN (f : Nat → Nat) (i v : Nat) : Nat → Nat := fun j => if j = i then v else f j
def upI (f : Nat → Int) (i : Nat) (v : Int) : Nat → Int := fun j => if j = i then v else f j
def upB (f : Nat → Bool) (i : Nat) (v : Bool) : Nat → Bool := fun j => if j = i then v else f j
def addT (t : T) (z : Int) : T := if addE t z = 0 then { t with here := upB t.here (freeS t) true, par := upI t.par (freeS t) z } else t
def memP (t : T) (n p : Nat) : Bool := decide (t.who n p ≠ 0)
def memb (t : T) (n : Nat) : List Nat := ((List.range 21).filter (memP t n)).map (fun p => t.who n p - 1)
def kidP (t : T) (n k : Nat) : Bool := t.here k && decide (t.par k = (n : Int))
def kids (t : T) (n : Nat) : Bool := (List.range 6).any (kidP t n)
def dropE (t : T) (z : Int) : Int := if isE t z = 0 then (if z = 0 ∨ memb t z.toNat ≠ [] ∨ kids t z.toNat = true then 5 else 0) else isE t z
def dropT (t : T) (z : Int) : T := if dropE t z = 0 then { t with here := upB t.here z.toNat false, par := upI t.par z.toNat 0 } else t
def lowP (t : T) (n p : Nat) : Bool := decide (1 ≤ p) && decide (t.who n p = 0)
def low (t : T) (n : Nat) : Nat := ((List.range 21).find? (lowP t n)).getD 0
def pairE (t : T) (z x : Int) : Int := if isE t z = 0 then procE x else isE t z
def entE (t : T) (z x : Int) : Int := if pairE t z x = 0 then (if t.of x.toNat = 0 then 0 else 3) else pairE t z x
/-- The numbers on a part of the way are given. -/
def putT (t : T) (L : List Nat) (x : Nat) : T := { t with who := fun n p => if n ∈ L ∧ p = low t n then x + 1 else t.who n p }
def entT (t : T) (z x : Int) : T := if entE t z x = 0 then { putT t (W t z) x.toNat with of := upN t.of x.toNat (z.toNat + 1) } else t
def isP (t : T) (n x p : Nat) : Bool := decide (t.who n p = x + 1)
def pidOf (t : T) (n x : Nat) : Nat := ((List.range 21).find? (isP t n x)).getD 0
def entN (t : T) (z x : Int) : Nat := if entE t z x = 0 then pidOf (entT t z x) z.toNat x.toNat else 0
def inE (t : T) (x : Int) : Int := if procE x = 0 then (if t.of x.toNat = 0 then 2 else 0) else procE x
def inN (t : T) (x : Int) : Nat := if inE t x = 0 then t.of x.toNat - 1 else 0
/-- The numbers on a part of the way are given back. -/
def cutT (t : T) (L : List Nat) (x : Nat) : T := { t with who := fun n p => if n ∈ L ∧ t.who n p = x + 1 then 0 else t.who n p }
def leaT (t : T) (x : Int) : T := if inE t x = 0 then { cutT t (List.range 6) x.toNat with of := upN t.of x.toNat 0 } else t
def pidE (t : T) (x z : Int) : Int := if pairE t z x = 0 then (if pidOf t z.toNat x.toNat = 0 then 2 else 0) else pairE t z x
def pidN (t : T) (x z : Int) : Nat := if pidE t x z = 0 then pidOf t z.toNat x.toNat else 0
def findE (t : T) (z p : Int) : Int := if isE t z = 0 then (if p < 1 ∨ 20 < p ∨ t.who z.toNat p.toNat = 0 then 2 else 0) else isE t z
def findN (t : T) (z p : Int) : Nat := if findE t z p = 0 then t.who z.toNat p.toNat - 1 else 0
def all (t : T) : List Nat := (List.range 6).filter t.here
def t0 : T := ⟨fun n => decide (n = 0), fun n => if n = 0 then -1 else 0, fun _ _ => 0, fun _ => 0⟩

/-! Searches. -/
theorem find_lt {P : Nat → Bool} {n i : Nat} (h : (List.range n).find? P = some i) : i < n ∧ P i = true ∧ ∀ j, j < i → P j = false := by
  obtain ⟨h1, L, M, h2, h3⟩ := List.find?_eq_some_iff_append.1 h
  have hi : i < n := by have := List.mem_of_find?_eq_some h; simpa using this
  refine ⟨hi, h1, fun j hj => ?_⟩
  have hl : L.length = i := by
    have e1 : (List.range n)[L.length]? = some i := by rw [h2]; simp
    rw [List.getElem?_range (by have := congrArg List.length h2; simp at this; omega)] at e1
    exact Option.some.inj e1
  have hm : j ∈ L := by
    have e : (List.range n)[j]? = L[j]? := by rw [h2, List.getElem?_append_left (by omega)]
    rw [List.getElem?_range (by omega)] at e
    exact List.mem_of_getElem? e.symm
  have := h3 j hm
  simpa using this
theorem find_at {P : Nat → Bool} {n i : Nat} (hi : i < n) (h : P i = true) (hl : ∀ j, j < i → P j = false) : (List.range n).find? P = some i := by
  cases hf : (List.range n).find? P with
  | none =>
    have := List.find?_eq_none.1 hf i (by simpa using hi)
    exact absurd h this
  | some k =>
    have := find_lt hf
    congr 1
    by_cases e1 : k < i
    · have := hl k e1; rw [(find_lt hf).2.1] at this; cases this
    · by_cases e2 : i < k
      · have := (find_lt hf).2.2 i e2; rw [h] at this; cases this
      · omega
theorem find_no {P : Nat → Bool} {n : Nat} (h : ∀ j, j < n → P j = false) : (List.range n).find? P = none := by
  rw [List.find?_eq_none]
  intro j hj
  rw [h j (by simpa using hj)]; simp

theorem isE_zero {t : T} {z : Int} (h : isE t z = 0) : ∃ n : Nat, z = n ∧ n < 6 ∧ t.here n = true := by
  unfold isE at h
  by_cases k : z < 0 ∨ 6 ≤ z
  · rw [if_pos k] at h; omega
  · obtain ⟨n, rfl⟩ := Int.eq_ofNat_of_zero_le (show 0 ≤ z by omega)
    rw [if_neg k, Int.toNat_natCast] at h
    refine ⟨n, rfl, by omega, ?_⟩
    by_cases c : t.here n = true
    · exact c
    · rw [if_neg c] at h; omega
theorem isE_nat {t : T} {n : Nat} (hn : n < 6) (hh : t.here n = true) : isE t n = 0 := by
  unfold isE; rw [if_neg (by omega), Int.toNat_natCast, if_pos hh]
theorem isE_cases (t : T) (z : Int) : isE t z = 0 ∨ 0 < isE t z := by
  unfold isE
  split
  · exact .inr (by omega)
  · split
    · exact .inl rfl
    · exact .inr (by omega)
theorem procE_zero {z : Int} (h : procE z = 0) : ∃ n : Nat, z = n ∧ n < 20 := by
  unfold procE at h
  by_cases k : z < 0 ∨ 20 ≤ z
  · rw [if_pos k] at h; omega
  · exact ⟨z.toNat, by omega, by omega⟩
theorem procE_nat {n : Nat} (hn : n < 20) : procE n = 0 := by unfold procE; rw [if_neg (by omega)]
theorem procE_cases (z : Int) : procE z = 0 ∨ procE z = 1 := by unfold procE; split <;> simp
theorem pairE_zero {t : T} {z x : Int} (h : pairE t z x = 0) : ∃ n k : Nat, z = n ∧ x = k ∧ n < 6 ∧ k < 20 ∧ t.here n = true := by
  unfold pairE at h
  by_cases k : isE t z = 0
  · rw [if_pos k] at h
    obtain ⟨n, rfl, h1, h2⟩ := isE_zero k
    obtain ⟨m, rfl, h3⟩ := procE_zero h
    exact ⟨n, m, rfl, rfl, h1, h3, h2⟩
  · rw [if_neg k] at h; exact absurd h k

/-! A free space. -/
theorem freeS_lt {t : T} (h : freeS t ≠ 6) : freeS t < 6 ∧ t.here (freeS t) = false ∧ ∀ j, j < freeS t → t.here j = true := by
  unfold freeS at *
  cases hf : (List.range 6).find? (fun n => !t.here n) with
  | none => rw [hf] at h; exact absurd rfl h
  | some k =>
    have := find_lt hf
    refine ⟨this.1, ?_, fun j hj => ?_⟩
    · have := this.2.1; simpa using this
    · have := this.2.2 j hj; simpa using this
theorem freeS_at {t : T} {n : Nat} (hn : n < 6) (h : t.here n = false) (hl : ∀ j, j < n → t.here j = true) : freeS t = n := by
  unfold freeS
  rw [find_at (P := fun n => !t.here n) hn (by simp [h]) (fun j hj => by simp [hl j hj])]; rfl
theorem freeS_no {t : T} (hl : ∀ j, j < 6 → t.here j = true) : freeS t = 6 := by
  unfold freeS
  rw [find_no (P := fun n => !t.here n) (fun j hj => by simp [hl j hj])]; rfl
theorem addE_zero {t : T} {z : Int} (h : addE t z = 0) : ∃ n : Nat, z = n ∧ n < 6 ∧ t.here n = true ∧ (W t z).length < 4 ∧ freeS t < 6 ∧ t.here (freeS t) = false ∧ ∀ j, j < freeS t → t.here j = true := by
  unfold addE at h
  by_cases k : isE t z = 0
  · rw [if_pos k] at h
    obtain ⟨n, rfl, h1, h2⟩ := isE_zero k
    by_cases c : 4 ≤ (W t n).length
    · rw [if_pos c] at h; omega
    · rw [if_neg c] at h
      by_cases f : freeS t = 6
      · rw [if_pos f] at h; omega
      · exact ⟨n, rfl, h1, h2, by omega, freeS_lt f⟩
  · rw [if_neg k] at h; exact absurd h k

theorem tree0 : Tree t0 (fun _ => 1) := by
  refine ⟨⟨rfl, rfl, rfl⟩, fun n h0 _ hh => ?_, fun n _ _ => ⟨by omega, by omega⟩⟩
  simp [t0] at hh; omega
theorem inv0 : Inv t0 (fun _ => 1) := by
  refine ⟨tree0, fun n _ hh => ?_, fun _ _ => rfl, fun _ _ _ _ => Nat.zero_le _, fun _ _ _ _ _ _ _ h => absurd rfl h, fun n x _ _ => ⟨fun ⟨p, _, h⟩ => ?_, fun ⟨h, _⟩ => absurd rfl h⟩, fun x _ h => absurd rfl h⟩
  · simp [t0] at hh ⊢; exact fun e => absurd e hh
  · simp [t0] at h

theorem Inv.dead {t : T} {d : Nat → Nat} (h : Inv t d) {n p : Nat} (hn : n < 6) (hp : p < 21) (hh : t.here n = false) : t.who n p = 0 := by
  by_cases e : t.who n p = 0
  · exact e
  · have hl := h.wle n p hn hp
    have := (h.has n (t.who n p - 1) hn (by omega)).1 ⟨p, hp, by omega⟩
    have o := h.ofs (t.who n p - 1) (by omega) this.1
    have := (h.tree.mem (by omega) o.2 n this.2).2.1
    rw [hh] at this; cases this

end Sp
end Go.Proofs.Ytgabfkaadflciaa

/- Blocks of frames, plain: Take and Give; what stays true; given back all, it is one. -/
import Derived.Test.YtnppahmlifnnnabXa
namespace Go.Proofs.Ytnppahmlifnnnab
namespace Bd

/-- The free block that is to be taken: of the least order, of several the lowest one. -/
structure Best (b : P) (o i : Nat) : Prop where
  lt : i < 64
  ord : o < b.ord i
  tk : b.tk i = false
  least : ∀ j, j < 64 → o < b.ord j → b.tk j = false → b.ord i < b.ord j ∨ (b.ord i = b.ord j ∧ i ≤ j)
theorem Best.unique {b : P} {o i j : Nat} (h : Best b o i) (k : Best b o j) : i = j := by
  have a1 := h.least j k.lt k.ord k.tk
  have a2 := k.least i h.lt h.ord h.tk
  omega
/-- Parted so many times. -/
def parts (b : P) (i : Nat) : Nat → P
  | 0 => b
  | n + 1 => parts (half b i) i n
def takeB (b : P) (o i : Nat) : P := { parts b i (b.ord i - (o + 1)) with tk := upb (parts b i (b.ord i - (o + 1))).tk i true }
/-- What Take answers, and leaves. -/
def TakeTo (b : P) (z e : Int) (r : Nat) (b' : P) : Prop := ((z < 0 ∨ 6 < z) ∧ e = 1 ∧ r = 0 ∧ b' = b) ∨ (¬ (z < 0 ∨ 6 < z) ∧ (∀ j, j < 64 → z.toNat < b.ord j → b.tk j = true) ∧ e = 4 ∧ r = 0 ∧ b' = b) ∨ (¬ (z < 0 ∨ 6 < z) ∧ Best b z.toNat r ∧ e = 0 ∧ b' = takeB b z.toNat r)
theorem TakeTo.unique {b a c : P} {z e f : Int} {r s : Nat} (h : TakeTo b z e r a) (k : TakeTo b z f s c) : e = f ∧ r = s ∧ a = c := by
  rcases h with ⟨h1, rfl, rfl, rfl⟩ | ⟨h1, h2, rfl, rfl, rfl⟩ | ⟨h1, h2, rfl, rfl⟩ <;> rcases k with ⟨k1, rfl, rfl, rfl⟩ | ⟨k1, k2, rfl, rfl, rfl⟩ | ⟨k1, k2, rfl, rfl⟩
  · exact ⟨rfl, rfl, rfl⟩
  · exact absurd h1 k1
  · exact absurd h1 k1
  · exact absurd k1 h1
  · exact ⟨rfl, rfl, rfl⟩
  · have := h2 s k2.lt k2.ord; rw [k2.tk] at this; cases this
  · exact absurd k1 h1
  · have := k2 r h2.lt h2.ord; rw [h2.tk] at this; cases this
  · obtain rfl := h2.unique k2; exact ⟨rfl, rfl, rfl⟩
def giveE (b : P) (z : Int) : Int := if z < 0 ∨ 63 < z then 1 else if b.tk z.toNat = true then 0 else 2
/-- Is its other half free, too? -/
def free2 (b : P) (i : Nat) : Bool := decide (b.ord i < 7) && (decide (b.ord (bud i (sz (b.ord i))) = b.ord i) && !b.tk (bud i (sz (b.ord i))))
def joins (b : P) (i : Nat) : Nat → P
  | 0 => b
  | n + 1 => if free2 b i = true then joins (join b (min i (bud i (sz (b.ord i)))) (max i (bud i (sz (b.ord i))))) (min i (bud i (sz (b.ord i)))) n else b
def giveB (b : P) (i : Nat) : P := joins { b with tk := upb b.tk i false } i 7
def giveT (b : P) (z : Int) : P := if giveE b z = 0 then giveB b z.toNat else b
def orderE (b : P) (z : Int) : Int := giveE b z

theorem parts_inv {b : P} {i : Nat} (hi : i < 64) : ∀ n, n < b.ord i → Inv b → b.tk i = false → NB b i → Inv (parts b i n) ∧ NB (parts b i n) i ∧ (parts b i n).ord i = b.ord i - n ∧ (parts b i n).tk = b.tk := by
  intro n
  induction n generalizing b with
  | zero => intro _ h1 _ h3; exact ⟨h1, h3, rfl, rfl⟩
  | succ n ih =>
    intro hn h1 h2 h3
    have a := h1.half hi (by omega) h2
    have r := ih (b := half b i) (by rw [a.2.1]; omega) a.1 (by rw [a.2.2]; exact h2) (h3.half h1 hi (by omega))
    refine ⟨r.1, r.2.1, ?_, ?_⟩
    · show (parts (half b i) i n).ord i = _
      rw [r.2.2.1, a.2.1]; omega
    · show (parts (half b i) i n).tk = _
      rw [r.2.2.2, a.2.2]
theorem NB.but {b : P} (n : NB b 64) (h : Inv b) (e : Nat) : NB b e := fun i hi h0 h7 ht _ _ => n i hi h0 h7 ht (by omega) (by
  have al := h.al i hi h0
  have key : ∀ k, 1 ≤ k → k ≤ 7 → k ≤ 6 → ∀ x, x < 64 → x % sz k = 0 → bud x (sz k) ≠ 64 := by
    refine sz_cases (M := fun k s => k ≤ 6 → ∀ x, x < 64 → x % s = 0 → bud x s ≠ 64) ?_ ?_ ?_ ?_ ?_ ?_ ?_
    all_goals
      intro hk x hx hm
      unfold bud
      split <;> omega
  exact key _ h0 (by omega) (by omega) i hi al.1)
/-- A taken block is parted from no other one. -/
theorem Inv.taken {b : P} (h : Inv b) {i : Nat} (h0 : 0 < b.ord i) (n : NB b i) (hi : i < 64) : Inv { b with tk := upb b.tk i true } ∧ NB { b with tk := upb b.tk i true } 64 := by
  refine ⟨⟨h.le, h.al, h.own, h.cov, fun x hx hx0 => ?_⟩, ?_⟩
  · by_cases c : x = i
    · rw [c]; exact h0
    · have : (if x = i then true else b.tk x) = true := hx0
      rw [if_neg c] at this; exact h.tk x hx this
  · have n' : NB { b with tk := upb b.tk i true } i := fun x hx x0 x7 ht xi bi hc => by
      have e1 : b.tk x = false := by
        have : (if x = i then true else b.tk x) = false := ht
        rw [if_neg xi] at this; exact this
      have e2 : b.tk (bud x (sz (b.ord x))) = false := by
        have : (if bud x (sz (b.ord x)) = i then true else b.tk (bud x (sz (b.ord x)))) = false := hc.2
        rw [if_neg bi] at this; exact this
      exact n x hx x0 x7 e1 xi bi ⟨hc.1, e2⟩
    have i' : Inv { b with tk := upb b.tk i true } := ⟨h.le, h.al, h.own, h.cov, fun x hx hx0 => by
      by_cases c : x = i
      · rw [c]; exact h0
      · have : (if x = i then true else b.tk x) = true := hx0
        rw [if_neg c] at this; exact h.tk x hx this⟩
    exact n'.all hi i' (.inl (by show (if i = i then true else b.tk i) = true; rw [if_pos rfl]))
theorem Inv.takeB {b : P} (h : Inv b) (n : NB b 64) {o i : Nat} (k : Best b o i) : Inv (takeB b o i) ∧ NB (takeB b o i) 64 ∧ (takeB b o i).ord i = o + 1 ∧ (takeB b o i).tk i = true ∧ i % sz (o + 1) = 0 ∧ ∀ j, j ≠ i → (Bd.takeB b o i).tk j = b.tk j := by
  have hb := k.ord
  have r := parts_inv k.lt (b.ord i - (o + 1)) (by omega) h k.tk (n.but h i)
  have eo : (parts b i (b.ord i - (o + 1))).ord i = o + 1 := by rw [r.2.2.1]; omega
  have t := r.1.taken (by rw [eo]; omega) r.2.1 k.lt
  refine ⟨t.1, t.2, eo, ?_, ?_, fun j hj => ?_⟩
  · show (if i = i then true else _) = true
    rw [if_pos rfl]
  · have := (r.1.al i k.lt (by rw [eo]; omega)).1
    rw [eo] at this; exact this
  · show (if j = i then true else (parts b i (b.ord i - (o + 1))).tk j) = _
    rw [if_neg hj, r.2.2.2]
theorem Inv.take {b b' : P} (h : Inv b) (n : NB b 64) {z e : Int} {r : Nat} (k : TakeTo b z e r b') : Inv b' ∧ NB b' 64 := by
  rcases k with ⟨_, _, _, rfl⟩ | ⟨_, _, _, _, rfl⟩ | ⟨_, k, _, rfl⟩
  · exact ⟨h, n⟩
  · exact ⟨h, n⟩
  · have := h.takeB n k
    exact ⟨this.1, this.2.1⟩

theorem joins_inv : ∀ (n : Nat) {b : P} {i : Nat}, i < 64 → 0 < b.ord i → 7 ≤ b.ord i + n → Inv b → b.tk i = false → NB b i → Inv (joins b i n) ∧ NB (joins b i n) 64 ∧ (joins b i n).tk = b.tk := by
  intro n
  induction n with
  | zero => intro b i hi h0 hn h1 h2 h3; exact ⟨h1, h3.all hi h1 (.inr (.inr (.inl (by omega)))), rfl⟩
  | succ n ih =>
    intro b i hi h0 hn h1 h2 h3
    show Inv (if free2 b i = true then _ else b) ∧ NB (if free2 b i = true then _ else b) 64 ∧ (if free2 b i = true then _ else b).tk = b.tk
    by_cases c : free2 b i = true
    · rw [if_pos c]
      unfold free2 at c
      simp only [Bool.and_eq_true, decide_eq_true_eq, Bool.not_eq_true'] at c
      have a := h1.join hi h0 c.1 h2 c.2.1 c.2.2
      have r := ih (b := join b (min i (bud i (sz (b.ord i)))) (max i (bud i (sz (b.ord i))))) (i := min i (bud i (sz (b.ord i)))) a.2.1 (by rw [a.2.2.1]; omega) (by rw [a.2.2.1]; omega) a.1 a.2.2.2 (h3.join h1 hi h0 c.1)
      exact ⟨r.1, r.2.1, r.2.2⟩
    · rw [if_neg c]
      refine ⟨h1, h3.all hi h1 ?_, rfl⟩
      by_cases c1 : b.ord i < 7
      · by_cases c2 : b.ord (bud i (sz (b.ord i))) = b.ord i
        · refine .inr (.inr (.inr (.inl ?_)))
          cases c3 : b.tk (bud i (sz (b.ord i)))
          · exact absurd (by unfold free2; simp [c1, c2, c3]) c
          · rfl
        · exact .inr (.inr (.inr (.inr c2)))
      · exact .inr (.inr (.inl (by omega)))
theorem Inv.giveB {b : P} (h : Inv b) (n : NB b 64) {i : Nat} (hi : i < 64) (ht : b.tk i = true) : Inv (giveB b i) ∧ NB (giveB b i) 64 ∧ (giveB b i).tk = upb b.tk i false := by
  have h0 := h.tk i hi ht
  have i' : Inv { b with tk := upb b.tk i false } := ⟨h.le, h.al, h.own, h.cov, fun x hx hx0 => by
    have : (if x = i then false else b.tk x) = true := hx0
    by_cases c : x = i
    · rw [if_pos c] at this; cases this
    · rw [if_neg c] at this; exact h.tk x hx this⟩
  have n' : NB { b with tk := upb b.tk i false } i := fun x hx x0 x7 htx xi bi hc => by
    have e1 : b.tk x = false := by
      have : (if x = i then false else b.tk x) = false := htx
      rw [if_neg xi] at this; exact this
    have e2 : b.tk (bud x (sz (b.ord x))) = false := by
      have : (if bud x (sz (b.ord x)) = i then false else b.tk (bud x (sz (b.ord x)))) = false := hc.2
      rw [if_neg bi] at this; exact this
    exact (n.but h i) x hx x0 x7 e1 xi bi ⟨hc.1, e2⟩
  exact joins_inv 7 (b := { b with tk := upb b.tk i false }) hi h0 (by omega) i' (by show (if i = i then false else b.tk i) = false; rw [if_pos rfl]) n'
theorem Inv.give {b : P} (h : Inv b) (n : NB b 64) (z : Int) : Inv (giveT b z) ∧ NB (giveT b z) 64 := by
  unfold giveT
  by_cases c : giveE b z = 0
  · rw [if_pos c]
    unfold giveE at c
    by_cases c1 : z < 0 ∨ 63 < z
    · rw [if_pos c1] at c; omega
    · rw [if_neg c1] at c
      by_cases c2 : b.tk z.toNat = true
      · have := h.giveB n (by omega) c2
        exact ⟨this.1, this.2.1⟩
      · rw [if_neg c2] at c; omega
  · rw [if_neg c]; exact ⟨h, n⟩
def b0 : P := ⟨fun i => if i = 0 then 7 else 0, fun _ => false⟩
theorem inv0 : Inv b0 ∧ NB b0 64 := by
  have e : ∀ i, 0 < b0.ord i → i = 0 := fun i h => by
    by_cases c : i = 0
    · exact c
    · have : (if i = 0 then 7 else 0) > 0 := h
      rw [if_neg c] at this; omega
  refine ⟨⟨fun i _ => ?_, fun i _ h0 => ?_, fun i j _ h0 h1 _ => ?_, fun j hj => ⟨0, by omega, by decide, by show j < 0 + sz 7; have : sz 7 = 64 := rfl; omega⟩, fun i _ h => by cases h⟩, fun i _ h0 h7 => ?_⟩
  · show (if i = 0 then 7 else 0) ≤ 7
    split <;> omega
  · rw [e i h0]; exact ⟨by decide, by decide⟩
  · show (if j = 0 then 7 else 0) = 0
    rw [if_neg (by omega)]
  · rw [e i h0] at h7; exact absurd h7 (by decide)

/-- Each frame is in one block alone. -/
theorem Inv.cov_unique {b : P} (h : Inv b) {i j x : Nat} (hx : x < 64) (h1 : i ≤ x) (h2 : 0 < b.ord i) (h3 : x < i + sz (b.ord i)) (k1 : j ≤ x) (k2 : 0 < b.ord j) (k3 : x < j + sz (b.ord j)) : i = j := by
  by_cases c : i < j
  · have := h.own i j (by omega) h2 c (by omega); omega
  · by_cases c2 : j < i
    · have := h.own j i (by omega) k2 c2 (by omega); omega
    · omega
/-- Where nothing is taken there is one block alone. -/
theorem no_small {b : P} (h : Inv b) (n : NB b 64) (hf : ∀ i, i < 64 → b.tk i = false) : ∀ k, k ≤ 6 → 1 ≤ k → ∀ i, i < 64 → b.ord i ≠ k := by
  intro k
  induction k using Nat.strongRecOn with
  | ind k ih =>
    intro hk6 hk1 i hi e
    have al := h.al i hi (by omega)
    rw [e] at al
    have bb := bud_bud hk1 hk6 al.1
    obtain ⟨j, ej⟩ : ∃ j, bud i (sz k) = j := ⟨_, rfl⟩
    rw [ej] at bb
    have j64 : j < 64 := by
      have key : ∀ k, 1 ≤ k → k ≤ 7 → k ≤ 6 → ∀ x, x < 64 → x % sz k = 0 → bud x (sz k) < 64 := by
        refine sz_cases (M := fun k s => k ≤ 6 → ∀ x, x < 64 → x % s = 0 → bud x s < 64) ?_ ?_ ?_ ?_ ?_ ?_ ?_
        all_goals
          intro hk x hx hm
          unfold bud
          split <;> omega
      rw [← ej]; exact key k hk1 (by omega) hk6 i hi al.1
    obtain ⟨a, a1, a2, a3⟩ := h.cov j j64
    have a64 : a < 64 := by omega
    have aal := (h.al a a64 a2).1
    have ale := h.le a a64
    have age : k ≤ b.ord a := Nat.le_of_not_lt fun c => ih (b.ord a) c (by omega) (by omega) a a64 rfl
    by_cases c : b.ord a = k
    · -- the other half is a free block of that order
      have key : ∀ k, 1 ≤ k → k ≤ 7 → ∀ x y, x % sz k = 0 → y % sz k = 0 → x ≤ y → y < x + sz k → x = y := by
        refine sz_cases (M := fun k s => ∀ x y, x % s = 0 → y % s = 0 → x ≤ y → y < x + s → x = y) ?_ ?_ ?_ ?_ ?_ ?_ ?_
        all_goals
          intro x y h1 h2 h3 h4
          omega
      rw [c] at aal a3
      have := key k hk1 (by omega) a j aal bb.2.1 a1 a3
      rw [this] at c
      exact n i hi (by omega) (by omega) (hf i hi) (by omega) (by rw [e, ej]; omega) ⟨by rw [e, ej]; exact c, by rw [e, ej]; exact hf j j64⟩
    · -- it lies in a greater one: then so does this one
      have key : ∀ m, 1 ≤ m → m ≤ 7 → ∀ k, 1 ≤ k → k ≤ 7 → k < m → ∀ x y, x % sz m = 0 → y % sz k = 0 → x ≤ bud y (sz k) → bud y (sz k) < x + sz m → x ≤ y ∧ y < x + sz m := by
        refine sz_cases (M := fun m S => ∀ k, 1 ≤ k → k ≤ 7 → k < m → ∀ x y, x % S = 0 → y % sz k = 0 → x ≤ bud y (sz k) → bud y (sz k) < x + S → x ≤ y ∧ y < x + S) ?_ ?_ ?_ ?_ ?_ ?_ ?_
        all_goals
          refine sz_cases (M := fun k s => k < _ → ∀ x y, x % _ = 0 → y % s = 0 → x ≤ bud y s → bud y s < x + _ → x ≤ y ∧ y < x + _) ?_ ?_ ?_ ?_ ?_ ?_ ?_
          all_goals
            intro hkm x y h1 h2 h3 h4
            generalize hb : bud y _ = j at h3 h4
            unfold bud at hb
            clear n h hf ih al bb aal a3 a1 ej
            split at hb <;> omega
      have r := key (b.ord a) (by omega) ale k hk1 (by omega) (by omega) a i aal al.1 (by rw [ej]; exact a1) (by rw [ej]; exact a3)
      have := h.cov_unique (x := i) hi r.1 a2 r.2 (Nat.le_refl i) (by omega) (by have := sz_pos (b.ord i); omega)
      rw [this, e] at c
      exact c rfl
theorem one_block {b : P} (h : Inv b) (n : NB b 64) (hf : ∀ i, i < 64 → b.tk i = false) : b.ord 0 = 7 ∧ ∀ i, 0 < i → i < 64 → b.ord i = 0 := by
  obtain ⟨a, a1, a2, _⟩ := h.cov 0 (by omega)
  obtain rfl : a = 0 := by omega
  have h7 : b.ord 0 = 7 := by
    have := h.le 0 (by omega)
    by_cases c : b.ord 0 ≤ 6
    · exact absurd rfl (no_small h n hf (b.ord 0) c a2 0 (by omega))
    · omega
  refine ⟨h7, fun i i0 hi => h.own 0 i (by omega) a2 i0 (by rw [h7]; have : sz 7 = 64 := rfl; omega)⟩
end Bd
end Go.Proofs.Ytnppahmlifnnnab

/- The law TopBuddy, plain: what is taken keeps its order; each frame is counted once. -/
import Derived.Test.YtnppahmlifnnnabXz
import Derived.Test.YtnppahmlifnnnabBb
namespace Go.Proofs.Ytnppahmlifnnnab
open Bd (P)
namespace Bd

theorem half_keep {b : P} (h : Inv b) {i j : Nat} (hi : i < 64) (ho : 2 ≤ b.ord i) (hti : b.tk i = false) (hj : j < 64) (ht : b.tk j = true) : (half b i).ord j = b.ord j := by
  obtain ⟨k, hk⟩ : ∃ k, b.ord i = k + 1 := ⟨b.ord i - 1, by omega⟩
  have hs := sz_succ (k := k) (by omega)
  have sp := sz_pos k
  have j0 := h.tk j hj ht
  have ou := h.own i (i + sz k) hi (by omega) (by omega) (by rw [hk, hs]; omega)
  unfold half up
  show (if j = i + sz (b.ord i - 1) then b.ord i - 1 else if j = i then b.ord i - 1 else b.ord j) = b.ord j
  rw [hk, Nat.add_sub_cancel, if_neg (fun c => by rw [← c] at ou; omega), if_neg (fun c => by rw [c, hti] at ht; cases ht)]
theorem parts_keep {i j : Nat} (hi : i < 64) (hj : j < 64) : ∀ n {b : P}, n < b.ord i → Inv b → b.tk i = false → NB b i → b.tk j = true → (parts b i n).ord j = b.ord j := by
  intro n
  induction n with
  | zero => intro b _ _ _ _ _; rfl
  | succ n ih =>
    intro b hn h1 h2 h3 h4
    have a := h1.half hi (by omega) h2
    have := ih (b := half b i) (by rw [a.2.1]; omega) a.1 (by rw [a.2.2]; exact h2) (h3.half h1 hi (by omega)) (by rw [a.2.2]; exact h4)
    show (parts (half b i) i n).ord j = _
    rw [this, half_keep h1 hi (by omega) h2 hj h4]
theorem takeB_keep {b : P} (h : Inv b) (n : NB b 64) {o i j : Nat} (k : Best b o i) (hj : j < 64) (ht : b.tk j = true) : (takeB b o i).ord j = b.ord j :=
  parts_keep k.lt hj _ (by have := k.ord; omega) h k.tk (n.but h i) ht
theorem joins_keep {j : Nat} : ∀ (n : Nat) {b : P} {i : Nat}, i < 64 → 0 < b.ord i → b.tk i = false → Inv b → b.tk j = true → (joins b i n).ord j = b.ord j := by
  intro n
  induction n with
  | zero => intro b i _ _ _ _ _; rfl
  | succ n ih =>
    intro b i hi h0 h2 h1 ht
    show (if free2 b i = true then _ else b).ord j = b.ord j
    by_cases c : free2 b i = true
    · rw [if_pos c]
      unfold free2 at c
      simp only [Bool.and_eq_true, decide_eq_true_eq, Bool.not_eq_true'] at c
      have a := h1.join hi h0 c.1 h2 c.2.1 c.2.2
      rw [ih (b := join b (min i (bud i (sz (b.ord i)))) (max i (bud i (sz (b.ord i))))) a.2.1 (by rw [a.2.2.1]; omega) a.2.2.2 a.1 ht]
      have nf : j ≠ bud i (sz (b.ord i)) := fun e => by rw [e, c.2.2] at ht; cases ht
      have ni : j ≠ i := fun e => by rw [e, h2] at ht; cases ht
      show (if j = min i (bud i (sz (b.ord i))) then _ else if j = max i (bud i (sz (b.ord i))) then 0 else b.ord j) = b.ord j
      rw [if_neg (by omega), if_neg (by omega)]
    · rw [if_neg c]
theorem giveB_keep {b : P} (h : Inv b) {i j : Nat} (hi : i < 64) (hti : b.tk i = true) (hji : j ≠ i) (ht : b.tk j = true) : (giveB b i).ord j = b.ord j := by
  have g := h.tk i hi hti
  have := joins_keep (j := j) 7 (b := { b with tk := upb b.tk i false }) (i := i) hi g (by show (if i = i then false else b.tk i) = false; rw [if_pos rfl]) ⟨h.le, h.al, h.own, h.cov, fun x hx hx0 => by
    have : (if x = i then false else b.tk x) = true := hx0
    by_cases c : x = i
    · rw [if_pos c] at this; cases this
    · rw [if_neg c] at this; exact h.tk x hx this⟩ (by show (if j = i then false else b.tk j) = true; rw [if_neg hji]; exact ht)
  exact this

/-- The law's own row: the order and 1 of each block that is taken. -/
def TkF (p : P) (f : Nat → Int) : Prop := ∀ i, i < 64 → f i = if p.tk i = true then (p.ord i : Int) else 0
theorem TkF.zero : TkF b0 (fun _ => 0) := fun i _ => by show (0 : Int) = if false = true then _ else 0; rw [if_neg (by decide)]
theorem TkF.take {p : P} {f : Nat → Int} (h : TkF p f) (hI : Inv p) (hN : NB p 64) {o i : Nat} (k : Best p o i) : TkF (takeB p o i) (updZ f i ((o : Int) + 1)) := fun j hj => by
  have t := hI.takeB hN k
  unfold updZ
  by_cases c : j = i
  · subst c
    rw [if_pos rfl, if_pos t.2.2.2.1, t.2.2.1]; omega
  · rw [if_neg c, t.2.2.2.2.2 j c, h j hj]
    by_cases d : p.tk j = true
    · rw [if_pos d, if_pos d, takeB_keep hI hN k hj d]
    · rw [if_neg d, if_neg d]
theorem TkF.give {p : P} {f : Nat → Int} (h : TkF p f) (hI : Inv p) (hN : NB p 64) {i : Nat} (hi : i < 64) (ht : p.tk i = true) : TkF (giveB p i) (updZ f i 0) := fun j hj => by
  have t := hI.giveB hN hi ht
  unfold updZ
  rw [t.2.2]
  show _ = if (if j = i then false else p.tk j) = true then _ else _
  by_cases c : j = i
  · rw [if_pos c, if_pos c, if_neg (by decide)]
  · rw [if_neg c, if_neg c, h j hj]
    by_cases d : p.tk j = true
    · rw [if_pos d, if_pos d, giveB_keep hI hi ht c d]
    · rw [if_neg d, if_neg d]

/-- A frame is counted once its pair (block, place) has been seen. -/
def Cnd (p : P) (f : Nat → Int) (D : Nat → Nat → Prop) : Prop := ∀ i k, i < 64 → 0 < p.ord i → k < sz (p.ord i) → (D i k → f (i + k) = 1) ∧ (¬ D i k → f (i + k) = 0)
theorem Cnd.congr {p : P} {f : Nat → Int} {D D' : Nat → Nat → Prop} (h : Cnd p f D) (e : ∀ i k, i < 64 → 0 < p.ord i → k < sz (p.ord i) → (D i k ↔ D' i k)) : Cnd p f D' := fun i k a b c =>
  ⟨fun d => (h i k a b c).1 ((e i k a b c).2 d), fun d => (h i k a b c).2 (fun x => d ((e i k a b c).1 x))⟩
theorem Cnd.step {p : P} (hI : Inv p) {f : Nat → Int} {D D' : Nat → Nat → Prop} (h : Cnd p f D) {i k : Nat} (hi : i < 64) (h0 : 0 < p.ord i) (hk : k < sz (p.ord i)) (hn : ¬ D i k)
    (e : ∀ j l, j < 64 → 0 < p.ord j → l < sz (p.ord j) → (D' j l ↔ D j l ∨ (j = i ∧ l = k))) : Cnd p (updZ f (i + k) 1) D' ∧ f (i + k) = 0 := by
  refine ⟨fun j l hj hj0 hl => ?_, (h i k hi h0 hk).2 hn⟩
  have al := hI.al i hi h0
  unfold updZ
  by_cases c : j + l = i + k
  · have : j = i := hI.cov_unique (x := j + l) (by omega) (by omega) hj0 (by omega) (by omega) h0 (by omega)
    have el : l = k := by omega
    rw [if_pos c]
    exact ⟨fun _ => rfl, fun d => absurd ((e j l hj hj0 hl).2 (.inr ⟨this, el⟩)) d⟩
  · rw [if_neg c]
    have e2 : D' j l ↔ D j l := by
      rw [e j l hj hj0 hl]
      exact ⟨fun x => x.elim id (fun y => absurd (by rw [y.1, y.2]) c), .inl⟩
    rw [e2]
    exact h j l hj hj0 hl
/-- What is taken, up to a block, and a place in it. -/
def D1 (p : P) (a k : Nat) (i l : Nat) : Prop := p.tk i = true ∧ (i < a ∨ (i = a ∧ l < k))
/-- .. and what is free, up to an order, a place in its list, and a place in the block. -/
def D2 (p : P) (o x k : Nat) (i l : Nat) : Prop := p.tk i = true ∨ (p.tk i = false ∧ (p.ord i ≤ o ∨ (p.ord i = o + 1 ∧ (i ∈ (freK p o 64).take x ∨ ((freK p o 64)[x]? = some i ∧ l < k)))))
theorem freK_mem {p : P} {o i : Nat} : i ∈ freK p o 64 ↔ i < 64 ∧ p.ord i = o + 1 ∧ p.tk i = false := by
  unfold freK freP
  simp [List.mem_filter]
theorem freK_nodup (p : P) (o : Nat) : (freK p o 64).Nodup := List.Pairwise.filter _ List.nodup_range
theorem freK_at {p : P} {o x i : Nat} (h : (freK p o 64)[x]? = some i) : i < 64 ∧ p.ord i = o + 1 ∧ p.tk i = false ∧ i ∉ (freK p o 64).take x := by
  have m := freK_mem.1 (List.mem_of_getElem? h)
  refine ⟨m.1, m.2.1, m.2.2, fun c => ?_⟩
  obtain ⟨y, hy⟩ := List.mem_iff_getElem?.1 c
  have yl : y < x := by
    have := (List.getElem?_eq_some_iff.1 hy).1
    rw [List.length_take] at this; omega
  rw [List.getElem?_take_of_lt yl] at hy
  obtain ⟨y1, y2⟩ := List.getElem?_eq_some_iff.1 hy
  obtain ⟨x1, x2⟩ := List.getElem?_eq_some_iff.1 h
  have := (List.nodup_iff_pairwise_ne.1 (freK_nodup p o))
  have := (List.pairwise_iff_getElem.1 this) y x y1 x1 yl
  exact this (by rw [y2, x2])
theorem take_step {L : List Nat} {x i j : Nat} (h : L[x]? = some i) : j ∈ L.take (x + 1) ↔ j ∈ L.take x ∨ j = i := by
  obtain ⟨x1, x2⟩ := List.getElem?_eq_some_iff.1 h
  rw [List.take_succ_eq_append_getElem x1, x2]
  simp
theorem D1_start {p : P} : Cnd p (fun _ => 0) (D1 p 0 0) := fun i k _ _ _ => ⟨fun d => by rcases d.2 with c | c <;> omega, fun _ => rfl⟩
theorem D1_step {p : P} (hI : Inv p) {f : Nat → Int} {a k : Nat} (h : Cnd p f (D1 p a k)) (ha : a < 64) (ht : p.tk a = true) (hk : k < sz (p.ord a)) : Cnd p (updZ f (a + k) 1) (D1 p a (k + 1)) ∧ f (a + k) = 0 :=
  h.step hI ha (hI.tk a ha ht) hk (fun d => by rcases d.2 with c | c <;> omega) (fun j l _ _ _ => by
    unfold D1
    constructor
    · rintro ⟨x, c | c⟩
      · exact .inl ⟨x, .inl c⟩
      · by_cases e : l < k
        · exact .inl ⟨x, .inr ⟨c.1, e⟩⟩
        · exact .inr ⟨c.1, by omega⟩
    · rintro (⟨x, c | c⟩ | ⟨c, d⟩)
      · exact ⟨x, .inl c⟩
      · exact ⟨x, .inr ⟨c.1, by omega⟩⟩
      · subst c; exact ⟨ht, .inr ⟨rfl, by omega⟩⟩)
theorem D1_next {p : P} {f : Nat → Int} {a k : Nat} (h : Cnd p f (D1 p a k)) (hk : p.tk a = false ∨ sz (p.ord a) ≤ k) : Cnd p f (D1 p (a + 1) 0) := h.congr (fun i l _ _ hl => by
  unfold D1
  constructor
  · rintro ⟨x, c | c⟩
    · exact ⟨x, .inl (by omega)⟩
    · exact ⟨x, .inl (by omega)⟩
  · rintro ⟨x, c | c⟩
    · by_cases e : i = a
      · subst e
        rcases hk with d | d
        · rw [d] at x; cases x
        · exact ⟨x, .inr ⟨rfl, by omega⟩⟩
      · exact ⟨x, .inl (by omega)⟩
    · omega)
theorem D2_start {p : P} {f : Nat → Int} (h : Cnd p f (D1 p 64 0)) : Cnd p f (D2 p 0 0 0) := h.congr (fun i l hi h0 _ => by
  unfold D1 D2
  constructor
  · rintro ⟨x, _⟩; exact .inl x
  · rintro (x | ⟨_, c | ⟨_, c | c⟩⟩)
    · exact ⟨x, .inl hi⟩
    · omega
    · simp at c
    · omega)
theorem D2_step {p : P} (hI : Inv p) {f : Nat → Int} {o x k i : Nat} (h : Cnd p f (D2 p o x k)) (hx : (freK p o 64)[x]? = some i) (hk : k < sz (o + 1)) : Cnd p (updZ f (i + k) 1) (D2 p o x (k + 1)) ∧ f (i + k) = 0 := by
  have m := freK_at hx
  refine h.step hI m.1 (by omega) (by rw [m.2.1]; exact hk) (fun d => ?_) (fun j l _ _ _ => ?_)
  · rcases d with d | ⟨_, d | ⟨_, d | d⟩⟩
    · rw [m.2.2.1] at d; cases d
    · omega
    · exact m.2.2.2 d
    · omega
  · unfold D2
    constructor
    · rintro (c | ⟨t, c | ⟨c1, c | ⟨c, d⟩⟩⟩)
      · exact .inl (.inl c)
      · exact .inl (.inr ⟨t, .inl c⟩)
      · exact .inl (.inr ⟨t, .inr ⟨c1, .inl c⟩⟩)
      · by_cases e : l < k
        · exact .inl (.inr ⟨t, .inr ⟨c1, .inr ⟨c, e⟩⟩⟩)
        · rw [hx] at c
          exact .inr ⟨(Option.some.inj c).symm, by omega⟩
    · rintro ((c | ⟨t, c | ⟨c1, c | ⟨c, d⟩⟩⟩) | ⟨c, d⟩)
      · exact .inl c
      · exact .inr ⟨t, .inl c⟩
      · exact .inr ⟨t, .inr ⟨c1, .inl c⟩⟩
      · exact .inr ⟨t, .inr ⟨c1, .inr ⟨c, by omega⟩⟩⟩
      · subst c; exact .inr ⟨m.2.2.1, .inr ⟨m.2.1, .inr ⟨hx, by omega⟩⟩⟩
theorem D2_next {p : P} {f : Nat → Int} {o x k i : Nat} (h : Cnd p f (D2 p o x k)) (hx : (freK p o 64)[x]? = some i) (hk : sz (o + 1) ≤ k) : Cnd p f (D2 p o (x + 1) 0) := h.congr (fun j l _ _ hl => by
  unfold D2
  constructor
  · rintro (c | ⟨t, c | ⟨c1, c | ⟨c, d⟩⟩⟩)
    · exact .inl c
    · exact .inr ⟨t, .inl c⟩
    · exact .inr ⟨t, .inr ⟨c1, .inl ((take_step hx).2 (.inl c))⟩⟩
    · rw [hx] at c; exact .inr ⟨t, .inr ⟨c1, .inl ((take_step hx).2 (.inr (Option.some.inj c).symm))⟩⟩
  · rintro (c | ⟨t, c | ⟨c1, c | ⟨c, d⟩⟩⟩)
    · exact .inl c
    · exact .inr ⟨t, .inl c⟩
    · rcases (take_step hx).1 c with c | c
      · exact .inr ⟨t, .inr ⟨c1, .inl c⟩⟩
      · subst c; exact .inr ⟨t, .inr ⟨c1, .inr ⟨hx, by rw [c1] at hl; omega⟩⟩⟩
    · omega)
theorem D2_order {p : P} {f : Nat → Int} {o : Nat} (h : Cnd p f (D2 p o (freK p o 64).length 0)) : Cnd p f (D2 p (o + 1) 0 0) := h.congr (fun j l hj _ hl => by
  unfold D2
  rw [List.take_length]
  constructor
  · rintro (c | ⟨t, c | ⟨c1, c | ⟨c, d⟩⟩⟩)
    · exact .inl c
    · exact .inr ⟨t, .inl (by omega)⟩
    · exact .inr ⟨t, .inl (by omega)⟩
    · omega
  · rintro (c | ⟨t, c | ⟨c1, c | ⟨c, d⟩⟩⟩)
    · exact .inl c
    · by_cases e : p.ord j ≤ o
      · exact .inr ⟨t, .inl e⟩
      · exact .inr ⟨t, .inr ⟨by omega, .inl (freK_mem.2 ⟨hj, by omega, t⟩)⟩⟩
    · simp at c
    · omega)
theorem D2_all {p : P} (hI : Inv p) {f : Nat → Int} (h : Cnd p f (D2 p 7 0 0)) (x : Nat) (hx : x < 64) : f x = 1 := by
  obtain ⟨i, i1, i2, i3⟩ := hI.cov x hx
  have := (h i (x - i) (by omega) i2 (by omega)).1 (by
    cases t : p.tk i
    · exact .inr ⟨t, .inl (hI.le i (by omega))⟩
    · exact .inl t)
  rw [show i + (x - i) = x by omega] at this
  exact this
theorem whole {p : P} (h : Inv p) (n : NB p 64) (hf : ∀ i, i < 64 → p.tk i = false) : freL p 6 = [0] ∧ left p = 64 := by
  have ob := one_block h n hf
  have e : ∀ i, i < 64 → p.ord i = b0.ord i ∧ p.tk i = b0.tk i := fun i hi => ⟨by
    show p.ord i = if i = 0 then 7 else 0
    by_cases c : i = 0
    · rw [if_pos c, c, ob.1]
    · rw [if_neg c, ob.2 i (by omega) hi], hf i hi⟩
  constructor
  · have : freL b0 6 = [0] := by decide +kernel
    rw [← this]
    unfold freL freK
    rw [if_neg (by decide), if_neg (by decide)]
    refine List.filter_congr (fun i hi => ?_)
    have := e i (List.mem_range.1 hi)
    unfold freP
    rw [this.1, this.2]
  · have : left b0 = 64 := by decide +kernel
    rw [← this]
    have : ∀ k, k ≤ 64 → leftK p k = leftK b0 k := by
      intro k
      induction k with
      | zero => intro _; rfl
      | succ k ih =>
        intro hk
        show leftK p k + _ = leftK b0 k + _
        rw [ih (by omega), (e k (by omega)).1, (e k (by omega)).2]
    exact this 64 (Nat.le_refl _)
end Bd
end Go.Proofs.Ytnppahmlifnnnab

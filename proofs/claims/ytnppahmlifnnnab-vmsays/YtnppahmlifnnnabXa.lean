/- Blocks of frames, plain: parting and joining; what stays true. -/
import Derived.Below
namespace Go.Proofs.Ytnppahmlifnnnab
namespace Bd

/-- Of each frame: the order and 1 of the block that begins there (0: none does); is it taken? -/
structure P where
  ord : Nat → Nat
  tk : Nat → Bool
def sz (k : Nat) : Nat := 2 ^ (k - 1)
theorem sz_cases {M : Nat → Nat → Prop} (h1 : M 1 1) (h2 : M 2 2) (h3 : M 3 4) (h4 : M 4 8) (h5 : M 5 16) (h6 : M 6 32) (h7 : M 7 64) (k : Nat) (a : 1 ≤ k) (b : k ≤ 7) : M k (sz k) := by
  match k, a, b with
  | 1, _, _ => exact h1
  | 2, _, _ => exact h2
  | 3, _, _ => exact h3
  | 4, _, _ => exact h4
  | 5, _, _ => exact h5
  | 6, _, _ => exact h6
  | 7, _, _ => exact h7
theorem sz_succ {k : Nat} (h : 1 ≤ k) : sz (k + 1) = 2 * sz k := by
  unfold sz
  obtain ⟨j, rfl⟩ : ∃ j, k = j + 1 := ⟨k - 1, by omega⟩
  rw [Nat.add_sub_cancel, Nat.add_sub_cancel, Nat.pow_succ]; omega
theorem sz_pos (k : Nat) : 0 < sz k := Nat.two_pow_pos _
/-- The other half of a block of the next order. -/
def bud (i s : Nat) : Nat := if i / s % 2 = 1 then i - s else i + s

structure Inv (b : P) : Prop where
  le : ∀ i, i < 64 → b.ord i ≤ 7
  al : ∀ i, i < 64 → 0 < b.ord i → i % sz (b.ord i) = 0 ∧ i + sz (b.ord i) ≤ 64
  own : ∀ i j, i < 64 → 0 < b.ord i → i < j → j < i + sz (b.ord i) → b.ord j = 0
  cov : ∀ j, j < 64 → ∃ i, i ≤ j ∧ 0 < b.ord i ∧ j < i + sz (b.ord i)
  tk : ∀ i, i < 64 → b.tk i = true → 0 < b.ord i
/-- No two free halves of one block, but for the block at e. -/
def NB (b : P) (e : Nat) : Prop := ∀ i, i < 64 → 0 < b.ord i → b.ord i < 7 → b.tk i = false → i ≠ e → bud i (sz (b.ord i)) ≠ e → ¬ (b.ord (bud i (sz (b.ord i))) = b.ord i ∧ b.tk (bud i (sz (b.ord i))) = false)

def up (f : Nat → Nat) (i v : Nat) : Nat → Nat := fun j => if j = i then v else f j
def upb (f : Nat → Bool) (i : Nat) (v : Bool) : Nat → Bool := fun j => if j = i then v else f j
/-- A block is parted. -/
def half (b : P) (i : Nat) : P := { b with ord := up (up b.ord i (b.ord i - 1)) (i + sz (b.ord i - 1)) (b.ord i - 1) }
/-- Two halves are one. -/
def join (b : P) (lo hi : Nat) : P := { b with ord := up (up b.ord hi 0) lo (b.ord lo + 1) }

section
variable {b : P}
theorem al_half {i s : Nat} {k : Nat} (hk : 1 ≤ k) (hk6 : k ≤ 6) (hs : s = sz k) (h : i % sz (k + 1) = 0) : i % s = 0 ∧ (i + s) % s = 0 ∧ bud (i + s) s = i ∧ bud i s = i + s := by
  rw [sz_succ hk, ← hs] at h
  have : ∀ k, 1 ≤ k → k ≤ 7 → ∀ i, i % (2 * sz k) = 0 → i % sz k = 0 ∧ (i + sz k) % sz k = 0 ∧ bud (i + sz k) (sz k) = i ∧ bud i (sz k) = i + sz k := by
    refine sz_cases (M := fun _ s => ∀ i, i % (2 * s) = 0 → i % s = 0 ∧ (i + s) % s = 0 ∧ bud (i + s) s = i ∧ bud i s = i + s) ?_ ?_ ?_ ?_ ?_ ?_ ?_
    all_goals
      intro i hi
      unfold bud
      refine ⟨by omega, by omega, ?_, ?_⟩
      · rw [if_pos (by omega)]; omega
      · rw [if_neg (by omega)]
  rw [hs] at h ⊢
  exact this k hk (by omega) i h
theorem bud_bud {i k : Nat} (hk : 1 ≤ k) (hk6 : k ≤ 6) (h : i % sz k = 0) : bud (bud i (sz k)) (sz k) = i ∧ (bud i (sz k)) % sz k = 0 ∧ bud i (sz k) ≠ i := by
  have : ∀ k, 1 ≤ k → k ≤ 7 → ∀ i, i % sz k = 0 → bud (bud i (sz k)) (sz k) = i ∧ (bud i (sz k)) % sz k = 0 ∧ bud i (sz k) ≠ i := by
    refine sz_cases (M := fun _ s => ∀ i, i % s = 0 → bud (bud i s) s = i ∧ (bud i s) % s = 0 ∧ bud i s ≠ i) ?_ ?_ ?_ ?_ ?_ ?_ ?_
    all_goals
      intro i hi
      refine ⟨?_, ?_, ?_⟩ <;> (unfold bud; repeat' split) <;> omega
  exact this k hk (by omega) i h
/-- Where the two halves lie. -/
theorem bud_lo {i k : Nat} (hk : 1 ≤ k) (hk6 : k ≤ 6) (h : i % sz k = 0) : (min i (bud i (sz k))) % sz (k + 1) = 0 ∧ max i (bud i (sz k)) = min i (bud i (sz k)) + sz k := by
  rw [sz_succ hk]
  have : ∀ k, 1 ≤ k → k ≤ 7 → ∀ i, i % sz k = 0 → (min i (bud i (sz k))) % (2 * sz k) = 0 ∧ max i (bud i (sz k)) = min i (bud i (sz k)) + sz k := by
    refine sz_cases (M := fun _ s => ∀ i, i % s = 0 → (min i (bud i s)) % (2 * s) = 0 ∧ max i (bud i s) = min i (bud i s) + s) ?_ ?_ ?_ ?_ ?_ ?_ ?_
    all_goals
      intro i hi
      refine ⟨?_, ?_⟩ <;> (unfold bud; split) <;> omega
  exact this k hk (by omega) i h

theorem Inv.half (h : Inv b) {i : Nat} (hi : i < 64) (ho : 2 ≤ b.ord i) (ht : b.tk i = false) : Inv (half b i) ∧ (half b i).ord i = b.ord i - 1 ∧ (half b i).tk = b.tk := by
  obtain ⟨k, hk⟩ : ∃ k, b.ord i = k + 1 := ⟨b.ord i - 1, by omega⟩
  have hk1 : 1 ≤ k := by omega
  have hle := h.le i hi
  have al := h.al i hi (by omega)
  rw [hk] at al
  have ah := al_half hk1 (by omega) rfl al.1
  have hs := sz_succ hk1
  have sp := sz_pos k
  obtain ⟨s, es⟩ : ∃ s, sz k = s := ⟨_, rfl⟩
  have own := h.own i
  rw [hk] at own
  have eo : ∀ x, (Bd.half b i).ord x = if x = i + s then k else if x = i then k else b.ord x := fun x => by
    unfold Bd.half up
    rw [hk, Nat.add_sub_cancel, es]
  rw [es] at ah hs sp
  have ei : (Bd.half b i).ord i = k := by rw [eo, if_neg (by omega), if_pos rfl]
  have eu : (Bd.half b i).ord (i + s) = k := by rw [eo, if_pos rfl]
  have en : ∀ x, x ≠ i → x ≠ i + s → (Bd.half b i).ord x = b.ord x := fun x h1 h2 => by rw [eo, if_neg h2, if_neg h1]
  have ou : b.ord (i + s) = 0 := own (i + s) hi (by omega) (by omega) (by omega)
  refine ⟨⟨fun x hx => ?_, fun x hx h0 => ?_, fun x y hx h0 h1 h2 => ?_, fun y hy => ?_, fun x hx h0 => ?_⟩, by rw [ei, hk]; rfl, rfl⟩
  · by_cases c1 : x = i
    · rw [c1, ei]; omega
    · by_cases c2 : x = i + s
      · rw [c2, eu]; omega
      · rw [en x c1 c2]; exact h.le x hx
  · by_cases c1 : x = i
    · rw [c1, ei, es]; exact ⟨ah.1, by omega⟩
    · by_cases c2 : x = i + s
      · rw [c2, eu, es]; exact ⟨ah.2.1, by omega⟩
      · rw [en x c1 c2] at h0 ⊢; exact h.al x hx h0
  · by_cases c1 : x = i
    · rw [c1, ei, es] at h2
      rw [en y (by omega) (by omega)]
      exact own y hi (by omega) (by omega) (by omega)
    · by_cases c2 : x = i + s
      · rw [c2, eu, es] at h2
        rw [en y (by omega) (by omega)]
        exact own y hi (by omega) (by omega) (by omega)
      · rw [en x c1 c2] at h0 h2
        have hy := h.own x y hx h0 h1 h2
        by_cases c3 : y = i
        · rw [c3, hk] at hy; omega
        · by_cases c4 : y = i + s
          · exfalso
            by_cases c5 : x < i
            · have := h.own x i hx h0 c5 (by omega)
              omega
            · have := own x hi (by omega) (by omega) (by omega)
              omega
          · rw [en y c3 c4]; exact hy
  · obtain ⟨a, a1, a2, a3⟩ := h.cov y hy
    by_cases c1 : a = i
    · rw [c1, hk] at a3
      by_cases c : y < i + s
      · exact ⟨i, by omega, by rw [ei]; omega, by rw [ei, es]; exact c⟩
      · exact ⟨i + s, by omega, by rw [eu]; omega, by rw [eu, es]; omega⟩
    · have c2 : a ≠ i + s := fun c => by rw [c, ou] at a2; omega
      exact ⟨a, a1, by rw [en a c1 c2]; exact a2, by rw [en a c1 c2]; exact a3⟩
  · have h0' : b.tk x = true := h0
    have := h.tk x hx h0'
    by_cases c1 : x = i
    · rw [c1, ht] at h0'; cases h0'
    · by_cases c2 : x = i + s
      · rw [c2, eu]; omega
      · rw [en x c1 c2]; exact this
theorem NB.half (h : Inv b) {i : Nat} (hi : i < 64) (ho : 2 ≤ b.ord i) (n : NB b i) : NB (half b i) i := by
  obtain ⟨k, hk⟩ : ∃ k, b.ord i = k + 1 := ⟨b.ord i - 1, by omega⟩
  have hk1 : 1 ≤ k := by omega
  have hle := h.le i hi
  have al := h.al i hi (by omega)
  rw [hk] at al
  have ah := al_half hk1 (by omega) rfl al.1
  have sp := sz_pos k
  obtain ⟨s, es⟩ : ∃ s, sz k = s := ⟨_, rfl⟩
  rw [es] at ah sp
  have eo : ∀ x, (Bd.half b i).ord x = if x = i + s then k else if x = i then k else b.ord x := fun x => by
    unfold Bd.half up
    rw [hk, Nat.add_sub_cancel, es]
  have eu : (Bd.half b i).ord (i + s) = k := by rw [eo, if_pos rfl]
  have en : ∀ x, x ≠ i → x ≠ i + s → (Bd.half b i).ord x = b.ord x := fun x h1 h2 => by rw [eo, if_neg h2, if_neg h1]
  intro x hx h0 h7 ht hxi hbi
  by_cases c2 : x = i + s
  · rw [c2, eu, es, ah.2.2.1] at hbi
    exact absurd rfl hbi
  · rw [en x hxi c2] at h0 h7 hbi ⊢
    by_cases c3 : bud x (sz (b.ord x)) = i + s
    · rw [c3, eu]
      rintro ⟨e1, _⟩
      have bb := bud_bud (i := x) (k := b.ord x) (by omega) (by omega) (h.al x hx h0).1
      rw [c3, ← e1, es, ah.2.2.1] at bb
      exact hxi bb.1.symm
    · rw [en _ hbi c3]
      exact n x hx h0 h7 ht hxi hbi

theorem Inv.join (h : Inv b) {at_ : Nat} (hi : at_ < 64) (h0 : 0 < b.ord at_) (h7 : b.ord at_ < 7) (ht : b.tk at_ = false) (ho : b.ord (bud at_ (sz (b.ord at_))) = b.ord at_) (ht2 : b.tk (bud at_ (sz (b.ord at_))) = false) :
    Inv (join b (min at_ (bud at_ (sz (b.ord at_)))) (max at_ (bud at_ (sz (b.ord at_))))) ∧ min at_ (bud at_ (sz (b.ord at_))) < 64 ∧ (join b (min at_ (bud at_ (sz (b.ord at_)))) (max at_ (bud at_ (sz (b.ord at_))))).ord (min at_ (bud at_ (sz (b.ord at_)))) = b.ord at_ + 1 ∧ b.tk (min at_ (bud at_ (sz (b.ord at_)))) = false := by
  obtain ⟨k, hk⟩ : ∃ k, b.ord at_ = k := ⟨_, rfl⟩
  rw [hk] at h0 h7 ho ht2 ⊢
  have al := h.al at_ hi (by omega)
  rw [hk] at al
  have bl := bud_lo h0 (by omega) al.1
  have hs := sz_succ h0
  have sp := sz_pos k
  obtain ⟨hf, ehf⟩ : ∃ hf, bud at_ (sz k) = hf := ⟨_, rfl⟩
  obtain ⟨s, es⟩ : ∃ s, sz k = s := ⟨_, rfl⟩
  rw [ehf] at ho ht2 bl ⊢
  obtain ⟨lo, elo⟩ : ∃ lo, min at_ hf = lo := ⟨_, rfl⟩
  obtain ⟨hh, ehh⟩ : ∃ hh, max at_ hf = hh := ⟨_, rfl⟩
  rw [elo, ehh] at bl ⊢
  rw [es] at bl hs sp
  have lo64 : lo < 64 := by omega
  have ol : b.ord lo = k ∧ b.tk lo = false := by
    by_cases c : lo = at_
    · rw [c]; exact ⟨hk, ht⟩
    · rw [show lo = hf by omega]; exact ⟨ho, ht2⟩
  have oh : b.ord hh = k ∧ b.tk hh = false := by
    by_cases c : hh = at_
    · rw [c]; exact ⟨hk, ht⟩
    · rw [show hh = hf by omega]; exact ⟨ho, ht2⟩
  -- the upper half is within the frames: if it were not, its order would be of a frame that is none
  have hh64 : hh + s ≤ 64 := by
    have a2 := al.2
    rw [es] at a2
    by_cases c : hh = at_
    · rw [c]; exact a2
    · have : lo = at_ := by omega
      rw [hs] at bl
      have l64 : lo % (2 * s) = 0 := bl.1
      have key : ∀ k, 1 ≤ k → k ≤ 7 → k ≤ 6 → ∀ x, x < 64 → x % (2 * sz k) = 0 → x + 2 * sz k ≤ 64 := by
        refine sz_cases (M := fun k s => k ≤ 6 → ∀ x, x < 64 → x % (2 * s) = 0 → x + 2 * s ≤ 64) ?_ ?_ ?_ ?_ ?_ ?_ ?_
        all_goals
          intro hk x hx hm
          omega
      have := key k h0 (by omega) (by omega) lo lo64 (by rw [es]; exact l64)
      rw [es] at this
      omega
  have eo : ∀ x, (Bd.join b lo hh).ord x = if x = lo then k + 1 else if x = hh then 0 else b.ord x := fun x => by
    unfold Bd.join up
    rw [ol.1]
  have el : (Bd.join b lo hh).ord lo = k + 1 := by rw [eo, if_pos rfl]
  have eh : (Bd.join b lo hh).ord hh = 0 := by rw [eo, if_neg (by omega), if_pos rfl]
  have en : ∀ x, x ≠ lo → x ≠ hh → (Bd.join b lo hh).ord x = b.ord x := fun x h1 h2 => by rw [eo, if_neg h1, if_neg h2]
  refine ⟨⟨fun x hx => ?_, fun x hx x0 => ?_, fun x y hx x0 h1 h2 => ?_, fun y hy => ?_, fun x hx x0 => ?_⟩, lo64, el, ol.2⟩
  · by_cases c1 : x = lo
    · rw [c1, el]; omega
    · by_cases c2 : x = hh
      · rw [c2, eh]; omega
      · rw [en x c1 c2]; exact h.le x hx
  · by_cases c1 : x = lo
    · rw [c1, el]; exact ⟨bl.1, by rw [hs]; omega⟩
    · by_cases c2 : x = hh
      · rw [c2, eh] at x0; omega
      · rw [en x c1 c2] at x0 ⊢; exact h.al x hx x0
  · by_cases c1 : x = lo
    · rw [c1, el, hs] at h2
      by_cases c2 : y = hh
      · rw [c2, eh]
      · rw [en y (by omega) c2]
        by_cases c3 : y < hh
        · exact h.own lo y lo64 (by omega) (by omega) (by rw [ol.1, es]; omega)
        · exact h.own hh y (by omega) (by omega) (by omega) (by rw [oh.1, es]; omega)
    · by_cases c2 : x = hh
      · rw [c2, eh] at x0; omega
      · rw [en x c1 c2] at x0 h2
        have hy := h.own x y hx x0 h1 h2
        by_cases c3 : y = lo
        · rw [c3, ol.1] at hy; omega
        · by_cases c4 : y = hh
          · rw [c4, eh]
          · rw [en y c3 c4]; exact hy
  · obtain ⟨a, a1, a2, a3⟩ := h.cov y hy
    by_cases c1 : a = lo
    · rw [c1, ol.1, es] at a3
      exact ⟨lo, by omega, by rw [el]; omega, by rw [el, hs]; omega⟩
    · by_cases c2 : a = hh
      · rw [c2, oh.1, es] at a3
        exact ⟨lo, by omega, by rw [el]; omega, by rw [el, hs]; omega⟩
      · exact ⟨a, a1, by rw [en a c1 c2]; exact a2, by rw [en a c1 c2]; exact a3⟩
  · have x0' : b.tk x = true := x0
    by_cases c1 : x = lo
    · rw [c1, el]; omega
    · by_cases c2 : x = hh
      · rw [c2, oh.2] at x0'; cases x0'
      · rw [en x c1 c2]; exact h.tk x hx x0'
theorem NB.join (h : Inv b) {at_ : Nat} (hi : at_ < 64) (h0 : 0 < b.ord at_) (h7 : b.ord at_ < 7) (n : NB b at_) :
    NB (join b (min at_ (bud at_ (sz (b.ord at_)))) (max at_ (bud at_ (sz (b.ord at_))))) (min at_ (bud at_ (sz (b.ord at_)))) := by
  have bb := bud_bud (i := at_) (k := b.ord at_) h0 (by omega) (h.al at_ hi h0).1
  obtain ⟨hf, ehf⟩ : ∃ hf, bud at_ (sz (b.ord at_)) = hf := ⟨_, rfl⟩
  rw [ehf] at bb ⊢
  obtain ⟨lo, elo⟩ : ∃ lo, min at_ hf = lo := ⟨_, rfl⟩
  obtain ⟨hh, ehh⟩ : ∃ hh, max at_ hf = hh := ⟨_, rfl⟩
  rw [elo, ehh]
  have ne := bb.2.2
  have eo : ∀ x, (Bd.join b lo hh).ord x = if x = lo then b.ord lo + 1 else if x = hh then 0 else b.ord x := fun x => rfl
  have eh : (Bd.join b lo hh).ord hh = 0 := by rw [eo, if_neg (by omega), if_pos rfl]
  have en : ∀ x, x ≠ lo → x ≠ hh → (Bd.join b lo hh).ord x = b.ord x := fun x h1 h2 => by rw [eo, if_neg h1, if_neg h2]
  intro x hx x0 x7 ht hxl hbl
  have c2 : x ≠ hh := fun c => by rw [c, eh] at x0; omega
  rw [en x hxl c2] at x0 x7 hbl ⊢
  by_cases c3 : bud x (sz (b.ord x)) = hh
  · rw [c3, eh]
    rintro ⟨e, _⟩; omega
  · rw [en _ hbl c3]
    exact n x hx x0 x7 ht (by omega) (by omega)

/-- With nothing left out. -/
theorem NB.all {e : Nat} (n : NB b e) (he : e < 64) (h : Inv b) (c : b.tk e = true ∨ b.ord e = 0 ∨ 7 ≤ b.ord e ∨ b.tk (bud e (sz (b.ord e))) = true ∨ b.ord (bud e (sz (b.ord e))) ≠ b.ord e) : NB b 64 := by
  intro x hx x0 x7 ht _ _ hc
  by_cases c1 : x = e
  · subst c1
    rcases c with c | c | c | c | c
    · rw [c] at ht; cases ht
    · omega
    · omega
    · rw [hc.2] at c; cases c
    · exact c hc.1
  · by_cases c2 : bud x (sz (b.ord x)) = e
    · rw [c2] at hc
      have bb := bud_bud (i := x) (k := b.ord x) (by omega) (by omega) (h.al x hx x0).1
      rw [c2, ← hc.1] at bb
      rcases c with c | c | c | c | c
      · rw [hc.2] at c; cases c
      · rw [c] at hc; omega
      · omega
      · rw [bb.1, ht] at c; cases c
      · rw [bb.1] at c; exact c hc.1.symm
    · exact n x hx x0 x7 ht c1 c2 hc
end
end Bd
end Go.Proofs.Ytnppahmlifnnnab

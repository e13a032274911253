import Derived.Below
import Derived.Laws.Rows
import Derived.Deep.RegionWith
import Derived.Deep.MidRow
import Derived.Test.YtghogbngmcolmaaGreatSaa
namespace Go.Proofs.YtghogbngmcolmaaGreat
namespace Bd
structure P where
  ord : Nat → Nat
  tk : Nat → Bool
def sz (k : Nat) : Nat := 2 ^ (k - 1)
theorem sz_cases {M : Nat → Nat → Prop} (h1 : M 1 1) (h2 : M 2 2) (h3 : M 3 4) (h4 : M 4 8) (h5 : M 5 16) (h6 : M 6 32) (h7 : M 7 64) (k : Nat) (a : 1 ≤ k) (b : k ≤ 7) : M k (sz k) := by
  match k, a, b with
  | 1, _, _ => exact h1
  | 2, _, _ => exact h2
  | 3, _, _ => exact h3
  | 4, _, _ => exact h4
  | 5, _, _ => exact h5
  | 6, _, _ => exact h6
  | 7, _, _ => exact h7
theorem sz_succ {k : Nat} (h : 1 ≤ k) : sz (k + 1) = 2 * sz k := by
  unfold sz
  obtain ⟨j, rfl⟩ : ∃ j, k = j + 1 := ⟨k - 1, by omega⟩
  rw [Nat.add_sub_cancel, Nat.add_sub_cancel, Nat.pow_succ]; omega
theorem sz_pos (k : Nat) : 0 < sz k := Nat.two_pow_pos _
def bud (i s : Nat) : Nat := if i / s % 2 = 1 then i - s else i + s
structure Inv (b : P) : Prop where
  le : ∀ i, i < 64 → b.ord i ≤ 7
  al : ∀ i, i < 64 → 0 < b.ord i → i % sz (b.ord i) = 0 ∧ i + sz (b.ord i) ≤ 64
  own : ∀ i j, i < 64 → 0 < b.ord i → i < j → j < i + sz (b.ord i) → b.ord j = 0
  cov : ∀ j, j < 64 → ∃ i, i ≤ j ∧ 0 < b.ord i ∧ j < i + sz (b.ord i)
  tk : ∀ i, i < 64 → b.tk i = true → 0 < b.ord i
def NB (b : P) (e : Nat) : Prop := ∀ i, i < 64 → 0 < b.ord i → b.ord i < 7 → b.tk i = false → i ≠ e → bud i (sz (b.ord i)) ≠ e → ¬ (b.ord (bud i (sz (b.ord i))) = b.ord i ∧ b.tk (bud i (sz (b.ord i))) = false)
def up (f : Nat → Nat) (i v : Nat) : Nat → Nat := fun j => if j = i then v else f j
def upb (f : Nat → Bool) (i : Nat) (v : Bool) : Nat → Bool := fun j => if j = i then v else f j
def half (b : P) (i : Nat) : P := { b with ord := up (up b.ord i (b.ord i - 1)) (i + sz (b.ord i - 1)) (b.ord i - 1) }
def join (b : P) (lo hi : Nat) : P := { b with ord := up (up b.ord hi 0) lo (b.ord lo + 1) }
section
variable {b : P}
theorem al_half {i s : Nat} {k : Nat} (hk : 1 ≤ k) (hk6 : k ≤ 6) (hs : s = sz k) (h : i % sz (k + 1) = 0) : i % s = 0 ∧ (i + s) % s = 0 ∧ bud (i + s) s = i ∧ bud i s = i + s := by
  rw [sz_succ hk, ← hs] at h
  have : ∀ k, 1 ≤ k → k ≤ 7 → ∀ i, i % (2 * sz k) = 0 → i % sz k = 0 ∧ (i + sz k) % sz k = 0 ∧ bud (i + sz k) (sz k) = i ∧ bud i (sz k) = i + sz k := by
    refine sz_cases (M := fun _ s => ∀ i, i % (2 * s) = 0 → i % s = 0 ∧ (i + s) % s = 0 ∧ bud (i + s) s = i ∧ bud i s = i + s) ?_ ?_ ?_ ?_ ?_ ?_ ?_
    all_goals
      intro i hi
      unfold bud
      refine ⟨by omega, by omega, ?_, ?_⟩
      · rw [if_pos (by omega)]; omega
      · rw [if_neg (by omega)]
  rw [hs] at h ⊢
  exact this k hk (by omega) i h
theorem bud_bud {i k : Nat} (hk : 1 ≤ k) (hk6 : k ≤ 6) (h : i % sz k = 0) : bud (bud i (sz k)) (sz k) = i ∧ (bud i (sz k)) % sz k = 0 ∧ bud i (sz k) ≠ i := by
  have : ∀ k, 1 ≤ k → k ≤ 7 → ∀ i, i % sz k = 0 → bud (bud i (sz k)) (sz k) = i ∧ (bud i (sz k)) % sz k = 0 ∧ bud i (sz k) ≠ i := by
    refine sz_cases (M := fun _ s => ∀ i, i % s = 0 → bud (bud i s) s = i ∧ (bud i s) % s = 0 ∧ bud i s ≠ i) ?_ ?_ ?_ ?_ ?_ ?_ ?_
    all_goals
      intro i hi
      refine ⟨?_, ?_, ?_⟩ <;> (unfold bud; repeat' split) <;> omega
  exact this k hk (by omega) i h
theorem bud_lo {i k : Nat} (hk : 1 ≤ k) (hk6 : k ≤ 6) (h : i % sz k = 0) : (min i (bud i (sz k))) % sz (k + 1) = 0 ∧ max i (bud i (sz k)) = min i (bud i (sz k)) + sz k := by
  rw [sz_succ hk]
  have : ∀ k, 1 ≤ k → k ≤ 7 → ∀ i, i % sz k = 0 → (min i (bud i (sz k))) % (2 * sz k) = 0 ∧ max i (bud i (sz k)) = min i (bud i (sz k)) + sz k := by
    refine sz_cases (M := fun _ s => ∀ i, i % s = 0 → (min i (bud i s)) % (2 * s) = 0 ∧ max i (bud i s) = min i (bud i s) + s) ?_ ?_ ?_ ?_ ?_ ?_ ?_
    all_goals
      intro i hi
      refine ⟨?_, ?_⟩ <;> (unfold bud; split) <;> omega
  exact this k hk (by omega) i h
theorem Inv.half (h : Inv b) {i : Nat} (hi : i < 64) (ho : 2 ≤ b.ord i) (ht : b.tk i = false) : Inv (half b i) ∧ (half b i).ord i = b.ord i - 1 ∧ (half b i).tk = b.tk := by
  obtain ⟨k, hk⟩ : ∃ k, b.ord i = k + 1 := ⟨b.ord i - 1, by omega⟩
  have hk1 : 1 ≤ k := by omega
  have hle := h.le i hi
  have al := h.al i hi (by omega)
  rw [hk] at al
  have ah := al_half hk1 (by omega) rfl al.1
  have hs := sz_succ hk1
  have sp := sz_pos k
  obtain ⟨s, es⟩ : ∃ s, sz k = s := ⟨_, rfl⟩
  have own := h.own i
  rw [hk] at own
  have eo : ∀ x, (Bd.half b i).ord x = if x = i + s then k else if x = i then k else b.ord x := fun x => by
    unfold Bd.half up
    rw [hk, Nat.add_sub_cancel, es]
  rw [es] at ah hs sp
  have ei : (Bd.half b i).ord i = k := by rw [eo, if_neg (by omega), if_pos rfl]
  have eu : (Bd.half b i).ord (i + s) = k := by rw [eo, if_pos rfl]
  have en : ∀ x, x ≠ i → x ≠ i + s → (Bd.half b i).ord x = b.ord x := fun x h1 h2 => by rw [eo, if_neg h2, if_neg h1]
  have ou : b.ord (i + s) = 0 := own (i + s) hi (by omega) (by omega) (by omega)
  refine ⟨⟨fun x hx => ?_, fun x hx h0 => ?_, fun x y hx h0 h1 h2 => ?_, fun y hy => ?_, fun x hx h0 => ?_⟩, by rw [ei, hk]; rfl, rfl⟩
  · by_cases c1 : x = i
    · rw [c1, ei]; omega
    · by_cases c2 : x = i + s
      · rw [c2, eu]; omega
      · rw [en x c1 c2]; exact h.le x hx
  · by_cases c1 : x = i
    · rw [c1, ei, es]; exact ⟨ah.1, by omega⟩
    · by_cases c2 : x = i + s
      · rw [c2, eu, es]; exact ⟨ah.2.1, by omega⟩
      · rw [en x c1 c2] at h0 ⊢; exact h.al x hx h0
  · by_cases c1 : x = i
    · rw [c1, ei, es] at h2
      rw [en y (by omega) (by omega)]
      exact own y hi (by omega) (by omega) (by omega)
    · by_cases c2 : x = i + s
      · rw [c2, eu, es] at h2
        rw [en y (by omega) (by omega)]
        exact own y hi (by omega) (by omega) (by omega)
      · rw [en x c1 c2] at h0 h2
        have hy := h.own x y hx h0 h1 h2
        by_cases c3 : y = i
        · rw [c3, hk] at hy; omega
        · by_cases c4 : y = i + s
          · exfalso
            by_cases c5 : x < i
            · have := h.own x i hx h0 c5 (by omega)
              omega
            · have := own x hi (by omega) (by omega) (by omega)
              omega
          · rw [en y c3 c4]; exact hy
  · obtain ⟨a, a1, a2, a3⟩ := h.cov y hy
    by_cases c1 : a = i
    · rw [c1, hk] at a3
      by_cases c : y < i + s
      · exact ⟨i, by omega, by rw [ei]; omega, by rw [ei, es]; exact c⟩
      · exact ⟨i + s, by omega, by rw [eu]; omega, by rw [eu, es]; omega⟩
    · have c2 : a ≠ i + s := fun c => by rw [c, ou] at a2; omega
      exact ⟨a, a1, by rw [en a c1 c2]; exact a2, by rw [en a c1 c2]; exact a3⟩
  · have h0' : b.tk x = true := h0
    have := h.tk x hx h0'
    by_cases c1 : x = i
    · rw [c1, ht] at h0'; cases h0'
    · by_cases c2 : x = i + s
      · rw [c2, eu]; omega
      · rw [en x c1 c2]; exact this
theorem Inv.join (h : Inv b) {at_ : Nat} (hi : at_ < 64) (h0 : 0 < b.ord at_) (h7 : b.ord at_ < 7) (ht : b.tk at_ = false) (ho : b.ord (bud at_ (sz (b.ord at_))) = b.ord at_) (ht2 : b.tk (bud at_ (sz (b.ord at_))) = false) :
    Inv (join b (min at_ (bud at_ (sz (b.ord at_)))) (max at_ (bud at_ (sz (b.ord at_))))) ∧ min at_ (bud at_ (sz (b.ord at_))) < 64 ∧ (join b (min at_ (bud at_ (sz (b.ord at_)))) (max at_ (bud at_ (sz (b.ord at_))))).ord (min at_ (bud at_ (sz (b.ord at_)))) = b.ord at_ + 1 ∧ b.tk (min at_ (bud at_ (sz (b.ord at_)))) = false := by
  obtain ⟨k, hk⟩ : ∃ k, b.ord at_ = k := ⟨_, rfl⟩
  rw [hk] at h0 h7 ho ht2 ⊢
  have al := h.al at_ hi (by omega)
  rw [hk] at al
  have bl := bud_lo h0 (by omega) al.1
  have hs := sz_succ h0
  have sp := sz_pos k
  obtain ⟨hf, ehf⟩ : ∃ hf, bud at_ (sz k) = hf := ⟨_, rfl⟩
  obtain ⟨s, es⟩ : ∃ s, sz k = s := ⟨_, rfl⟩
  rw [ehf] at ho ht2 bl ⊢
  obtain ⟨lo, elo⟩ : ∃ lo, min at_ hf = lo := ⟨_, rfl⟩
  obtain ⟨hh, ehh⟩ : ∃ hh, max at_ hf = hh := ⟨_, rfl⟩
  rw [elo, ehh] at bl ⊢
  rw [es] at bl hs sp
  have lo64 : lo < 64 := by omega
  have ol : b.ord lo = k ∧ b.tk lo = false := by
    by_cases c : lo = at_
    · rw [c]; exact ⟨hk, ht⟩
    · rw [show lo = hf by omega]; exact ⟨ho, ht2⟩
  have oh : b.ord hh = k ∧ b.tk hh = false := by
    by_cases c : hh = at_
    · rw [c]; exact ⟨hk, ht⟩
    · rw [show hh = hf by omega]; exact ⟨ho, ht2⟩
  have hh64 : hh + s ≤ 64 := by
    have a2 := al.2
    rw [es] at a2
    by_cases c : hh = at_
    · rw [c]; exact a2
    · have : lo = at_ := by omega
      rw [hs] at bl
      have l64 : lo % (2 * s) = 0 := bl.1
      have key : ∀ k, 1 ≤ k → k ≤ 7 → k ≤ 6 → ∀ x, x < 64 → x % (2 * sz k) = 0 → x + 2 * sz k ≤ 64 := by
        refine sz_cases (M := fun k s => k ≤ 6 → ∀ x, x < 64 → x % (2 * s) = 0 → x + 2 * s ≤ 64) ?_ ?_ ?_ ?_ ?_ ?_ ?_
        all_goals
          intro hk x hx hm
          omega
      have := key k h0 (by omega) (by omega) lo lo64 (by rw [es]; exact l64)
      rw [es] at this
      omega
  have eo : ∀ x, (Bd.join b lo hh).ord x = if x = lo then k + 1 else if x = hh then 0 else b.ord x := fun x => by
    unfold Bd.join up
    rw [ol.1]
  have el : (Bd.join b lo hh).ord lo = k + 1 := by rw [eo, if_pos rfl]
  have eh : (Bd.join b lo hh).ord hh = 0 := by rw [eo, if_neg (by omega), if_pos rfl]
  have en : ∀ x, x ≠ lo → x ≠ hh → (Bd.join b lo hh).ord x = b.ord x := fun x h1 h2 => by rw [eo, if_neg h1, if_neg h2]
  refine ⟨⟨fun x hx => ?_, fun x hx x0 => ?_, fun x y hx x0 h1 h2 => ?_, fun y hy => ?_, fun x hx x0 => ?_⟩, lo64, el, ol.2⟩
  · by_cases c1 : x = lo
    · rw [c1, el]; omega
    · by_cases c2 : x = hh
      · rw [c2, eh]; omega
      · rw [en x c1 c2]; exact h.le x hx
  · by_cases c1 : x = lo
    · rw [c1, el]; exact ⟨bl.1, by rw [hs]; omega⟩
    · by_cases c2 : x = hh
      · rw [c2, eh] at x0; omega
      · rw [en x c1 c2] at x0 ⊢; exact h.al x hx x0
  · by_cases c1 : x = lo
    · rw [c1, el, hs] at h2
      by_cases c2 : y = hh
      · rw [c2, eh]
      · rw [en y (by omega) c2]
        by_cases c3 : y < hh
        · exact h.own lo y lo64 (by omega) (by omega) (by rw [ol.1, es]; omega)
        · exact h.own hh y (by omega) (by omega) (by omega) (by rw [oh.1, es]; omega)
    · by_cases c2 : x = hh
      · rw [c2, eh] at x0; omega
      · rw [en x c1 c2] at x0 h2
        have hy := h.own x y hx x0 h1 h2
        by_cases c3 : y = lo
        · rw [c3, ol.1] at hy; omega
        · by_cases c4 : y = hh
          · rw [c4, eh]
          · rw [en y c3 c4]; exact hy
  · obtain ⟨a, a1, a2, a3⟩ := h.cov y hy
    by_cases c1 : a = lo
    · rw [c1, ol.1, es] at a3
      exact ⟨lo, by omega, by rw [el]; omega, by rw [el, hs]; omega⟩
    · by_cases c2 : a = hh
      · rw [c2, oh.1, es] at a3
        exact ⟨lo, by omega, by rw [el]; omega, by rw [el, hs]; omega⟩
      · exact ⟨a, a1, by rw [en a c1 c2]; exact a2, by rw [en a c1 c2]; exact a3⟩
  · have x0' : b.tk x = true := x0
    by_cases c1 : x = lo
    · rw [c1, el]; omega
    · by_cases c2 : x = hh
      · rw [c2, oh.2] at x0'; cases x0'
      · rw [en x c1 c2]; exact h.tk x hx x0'
theorem NB.join (h : Inv b) {at_ : Nat} (hi : at_ < 64) (h0 : 0 < b.ord at_) (h7 : b.ord at_ < 7) (n : NB b at_) :
    NB (join b (min at_ (bud at_ (sz (b.ord at_)))) (max at_ (bud at_ (sz (b.ord at_))))) (min at_ (bud at_ (sz (b.ord at_)))) := by
  have bb := bud_bud (i := at_) (k := b.ord at_) h0 (by omega) (h.al at_ hi h0).1
  obtain ⟨hf, ehf⟩ : ∃ hf, bud at_ (sz (b.ord at_)) = hf := ⟨_, rfl⟩
  rw [ehf] at bb ⊢
  obtain ⟨lo, elo⟩ : ∃ lo, min at_ hf = lo := ⟨_, rfl⟩
  obtain ⟨hh, ehh⟩ : ∃ hh, max at_ hf = hh := ⟨_, rfl⟩
  rw [elo, ehh]
  have ne := bb.2.2
  have eo : ∀ x, (Bd.join b lo hh).ord x = if x = lo then b.ord lo + 1 else if x = hh then 0 else b.ord x := fun x => rfl
  have eh : (Bd.join b lo hh).ord hh = 0 := by rw [eo, if_neg (by omega), if_pos rfl]
  have en : ∀ x, x ≠ lo → x ≠ hh → (Bd.join b lo hh).ord x = b.ord x := fun x h1 h2 => by rw [eo, if_neg h1, if_neg h2]
  intro x hx x0 x7 ht hxl hbl
  have c2 : x ≠ hh := fun c => by rw [c, eh] at x0; omega
  rw [en x hxl c2] at x0 x7 hbl ⊢
  by_cases c3 : bud x (sz (b.ord x)) = hh
  · rw [c3, eh]
    rintro ⟨e, _⟩; omega
  · rw [en _ hbl c3]
    exact n x hx x0 x7 ht (by omega) (by omega)
theorem NB.all {e : Nat} (n : NB b e) (he : e < 64) (h : Inv b) (c : b.tk e = true ∨ b.ord e = 0 ∨ 7 ≤ b.ord e ∨ b.tk (bud e (sz (b.ord e))) = true ∨ b.ord (bud e (sz (b.ord e))) ≠ b.ord e) : NB b 64 := by
  intro x hx x0 x7 ht _ _ hc
  by_cases c1 : x = e
  · subst c1
    rcases c with c | c | c | c | c
    · rw [c] at ht; cases ht
    · omega
    · omega
    · rw [hc.2] at c; cases c
    · exact c hc.1
  · by_cases c2 : bud x (sz (b.ord x)) = e
    · rw [c2] at hc
      have bb := bud_bud (i := x) (k := b.ord x) (by omega) (by omega) (h.al x hx x0).1
      rw [c2, ← hc.1] at bb
      rcases c with c | c | c | c | c
      · rw [hc.2] at c; cases c
      · rw [c] at hc; omega
      · omega
      · rw [bb.1, ht] at c; cases c
      · rw [bb.1] at c; exact c hc.1.symm
    · exact n x hx x0 x7 ht c1 c2 hc
end
end Bd
end Go.Proofs.YtghogbngmcolmaaGreat
namespace Go.Proofs.YtghogbngmcolmaaGreat
namespace Bd
structure Best (b : P) (o i : Nat) : Prop where
  lt : i < 64
  ord : o < b.ord i
  tk : b.tk i = false
  least : ∀ j, j < 64 → o < b.ord j → b.tk j = false → b.ord i < b.ord j ∨ (b.ord i = b.ord j ∧ i ≤ j)
def parts (b : P) (i : Nat) : Nat → P
  | 0 => b
  | n + 1 => parts (half b i) i n
def giveE (b : P) (z : Int) : Int := if z < 0 ∨ 63 < z then 1 else if b.tk z.toNat = true then 0 else 2
def free2 (b : P) (i : Nat) : Bool := decide (b.ord i < 7) && (decide (b.ord (bud i (sz (b.ord i))) = b.ord i) && !b.tk (bud i (sz (b.ord i))))
def joins (b : P) (i : Nat) : Nat → P
  | 0 => b
  | n + 1 => if free2 b i = true then joins (join b (min i (bud i (sz (b.ord i)))) (max i (bud i (sz (b.ord i))))) (min i (bud i (sz (b.ord i)))) n else b
def giveB (b : P) (i : Nat) : P := joins { b with tk := upb b.tk i false } i 7
def giveT (b : P) (z : Int) : P := if giveE b z = 0 then giveB b z.toNat else b
theorem NB.but {b : P} (n : NB b 64) (h : Inv b) (e : Nat) : NB b e := fun i hi h0 h7 ht _ _ => n i hi h0 h7 ht (by omega) (by
  have al := h.al i hi h0
  have key : ∀ k, 1 ≤ k → k ≤ 7 → k ≤ 6 → ∀ x, x < 64 → x % sz k = 0 → bud x (sz k) ≠ 64 := by
    refine sz_cases (M := fun k s => k ≤ 6 → ∀ x, x < 64 → x % s = 0 → bud x s ≠ 64) ?_ ?_ ?_ ?_ ?_ ?_ ?_
    all_goals
      intro hk x hx hm
      unfold bud
      split <;> omega
  exact key _ h0 (by omega) (by omega) i hi al.1)
theorem joins_inv : ∀ (n : Nat) {b : P} {i : Nat}, i < 64 → 0 < b.ord i → 7 ≤ b.ord i + n → Inv b → b.tk i = false → NB b i → Inv (joins b i n) ∧ NB (joins b i n) 64 ∧ (joins b i n).tk = b.tk := by
  intro n
  induction n with
  | zero => intro b i hi h0 hn h1 h2 h3; exact ⟨h1, h3.all hi h1 (.inr (.inr (.inl (by omega)))), rfl⟩
  | succ n ih =>
    intro b i hi h0 hn h1 h2 h3
    show Inv (if free2 b i = true then _ else b) ∧ NB (if free2 b i = true then _ else b) 64 ∧ (if free2 b i = true then _ else b).tk = b.tk
    by_cases c : free2 b i = true
    · rw [if_pos c]
      unfold free2 at c
      simp only [Bool.and_eq_true, decide_eq_true_eq, Bool.not_eq_true'] at c
      have a := h1.join hi h0 c.1 h2 c.2.1 c.2.2
      have r := ih (b := join b (min i (bud i (sz (b.ord i)))) (max i (bud i (sz (b.ord i))))) (i := min i (bud i (sz (b.ord i)))) a.2.1 (by rw [a.2.2.1]; omega) (by rw [a.2.2.1]; omega) a.1 a.2.2.2 (h3.join h1 hi h0 c.1)
      exact ⟨r.1, r.2.1, r.2.2⟩
    · rw [if_neg c]
      refine ⟨h1, h3.all hi h1 ?_, rfl⟩
      by_cases c1 : b.ord i < 7
      · by_cases c2 : b.ord (bud i (sz (b.ord i))) = b.ord i
        · refine .inr (.inr (.inr (.inl ?_)))
          cases c3 : b.tk (bud i (sz (b.ord i)))
          · exact absurd (by unfold free2; simp [c1, c2, c3]) c
          · rfl
        · exact .inr (.inr (.inr (.inr c2)))
      · exact .inr (.inr (.inl (by omega)))
theorem Inv.giveB {b : P} (h : Inv b) (n : NB b 64) {i : Nat} (hi : i < 64) (ht : b.tk i = true) : Inv (giveB b i) ∧ NB (giveB b i) 64 ∧ (giveB b i).tk = upb b.tk i false := by
  have h0 := h.tk i hi ht
  have i' : Inv { b with tk := upb b.tk i false } := ⟨h.le, h.al, h.own, h.cov, fun x hx hx0 => by
    have : (if x = i then false else b.tk x) = true := hx0
    by_cases c : x = i
    · rw [if_pos c] at this; cases this
    · rw [if_neg c] at this; exact h.tk x hx this⟩
  have n' : NB { b with tk := upb b.tk i false } i := fun x hx x0 x7 htx xi bi hc => by
    have e1 : b.tk x = false := by
      have : (if x = i then false else b.tk x) = false := htx
      rw [if_neg xi] at this; exact this
    have e2 : b.tk (bud x (sz (b.ord x))) = false := by
      have : (if bud x (sz (b.ord x)) = i then false else b.tk (bud x (sz (b.ord x)))) = false := hc.2
      rw [if_neg bi] at this; exact this
    exact (n.but h i) x hx x0 x7 e1 xi bi ⟨hc.1, e2⟩
  exact joins_inv 7 (b := { b with tk := upb b.tk i false }) hi h0 (by omega) i' (by show (if i = i then false else b.tk i) = false; rw [if_pos rfl]) n'
theorem Inv.give {b : P} (h : Inv b) (n : NB b 64) (z : Int) : Inv (giveT b z) ∧ NB (giveT b z) 64 := by
  unfold giveT
  by_cases c : giveE b z = 0
  · rw [if_pos c]
    unfold giveE at c
    by_cases c1 : z < 0 ∨ 63 < z
    · rw [if_pos c1] at c; omega
    · rw [if_neg c1] at c
      by_cases c2 : b.tk z.toNat = true
      · have := h.giveB n (by omega) c2
        exact ⟨this.1, this.2.1⟩
      · rw [if_neg c2] at c; omega
  · rw [if_neg c]; exact ⟨h, n⟩
def b0 : P := ⟨fun i => if i = 0 then 7 else 0, fun _ => false⟩
theorem inv0 : Inv b0 ∧ NB b0 64 := by
  have e : ∀ i, 0 < b0.ord i → i = 0 := fun i h => by
    by_cases c : i = 0
    · exact c
    · have : (if i = 0 then 7 else 0) > 0 := h
      rw [if_neg c] at this; omega
  refine ⟨⟨fun i _ => ?_, fun i _ h0 => ?_, fun i j _ h0 h1 _ => ?_, fun j hj => ⟨0, by omega, by decide, by show j < 0 + sz 7; have : sz 7 = 64 := rfl; omega⟩, fun i _ h => by cases h⟩, fun i _ h0 h7 => ?_⟩
  · show (if i = 0 then 7 else 0) ≤ 7
    split <;> omega
  · rw [e i h0]; exact ⟨by decide, by decide⟩
  · show (if j = 0 then 7 else 0) = 0
    rw [if_neg (by omega)]
  · rw [e i h0] at h7; exact absurd h7 (by decide)
end Bd
end Go.Proofs.YtghogbngmcolmaaGreat
namespace Go.Proofs.YtghogbngmcolmaaGreat
open Go.RowKit
open Bd (P)
def candB (p : P) (o j : Nat) : Prop := o < p.ord j ∧ p.tk j = false
def BestFrom (p : P) (o k : Nat) (z : Int) : Prop := (z = -1 ∧ ∀ j, k ≤ j → j < 64 → ¬ candB p o j) ∨ ∃ x : Nat, z = x ∧ k ≤ x ∧ x < 64 ∧ candB p o x ∧ ∀ j, k ≤ j → j < 64 → candB p o j → p.ord x < p.ord j ∨ (p.ord x = p.ord j ∧ x ≤ j)
theorem BestFrom.done {p : P} {o : Nat} {z : Int} (h : BestFrom p o 0 z) : (z = -1 ∧ ∀ j, j < 64 → o < p.ord j → p.tk j = true) ∨ ∃ x : Nat, z = x ∧ Bd.Best p o x := by
  rcases h with ⟨h1, h2⟩ | ⟨x, h1, _, h3, h4, h5⟩
  · refine .inl ⟨h1, fun j hj ho => ?_⟩
    cases c : p.tk j
    · exact absurd ⟨ho, c⟩ (h2 j (by omega) hj)
    · rfl
  · exact .inr ⟨x, h1, h3, h4.1, h4.2, fun j hj ho ht => h5 j (by omega) hj ⟨ho, ht⟩⟩
def bucellN (w : World) (b o : Nat) : Nat := match w.cell? ⟨b, o, none⟩ with | some v => (intOf v).toNat | none => 0
theorem cellN_of {w : World} {b o n : Nat} (h : w.cell? ⟨b, o, none⟩ = some (.int .i64 (n : Int))) : bucellN w b o = n := by unfold bucellN; rw [h]; rfl
end Go.Proofs.YtghogbngmcolmaaGreat
namespace Go.Proofs.YtghogbngmcolmaaGreat
open Go.RowKit
open Bd (P)
namespace Bd
theorem bud_lt {i k : Nat} (hk : 1 ≤ k) (hk6 : k ≤ 6) (hi : i < 64) (h : i % sz k = 0) : bud i (sz k) < 64 ∧ (i / sz k % 2 = 1 → sz k ≤ i) := by
  have key : ∀ k, 1 ≤ k → k ≤ 7 → k ≤ 6 → ∀ x, x < 64 → x % sz k = 0 → bud x (sz k) < 64 ∧ (x / sz k % 2 = 1 → sz k ≤ x) := by
    refine sz_cases (M := fun k s => k ≤ 6 → ∀ x, x < 64 → x % s = 0 → bud x s < 64 ∧ (x / s % 2 = 1 → s ≤ x)) ?_ ?_ ?_ ?_ ?_ ?_ ?_
    all_goals
      intro hk x hx hm
      refine ⟨?_, fun c => by omega⟩
      unfold bud
      split <;> omega
  exact key k hk (by omega) hk6 i hi h
theorem joins_no {p : P} {i : Nat} (h : free2 p i = false) (n : Nat) : joins p i n = p := by
  cases n with
  | zero => rfl
  | succ n => show (if free2 p i = true then _ else p) = p; rw [h, if_neg (by decide)]
theorem joins_yes {p : P} {i : Nat} (h : free2 p i = true) (n : Nat) : joins p i (n + 1) = joins (join p (min i (bud i (sz (p.ord i)))) (max i (bud i (sz (p.ord i))))) (min i (bud i (sz (p.ord i)))) n := by
  show (if free2 p i = true then _ else p) = _
  rw [if_pos h]
structure Giv (q : P) (i n : Nat) (G : P) : Prop where
  inv : Inv q
  lt : i < 64
  pos : 0 < q.ord i
  tk : q.tk i = false
  fu : 7 ≤ q.ord i + n
  eq : joins q i n = G
theorem Giv.start {p : P} (h : Inv p) {i : Nat} (hi : i < 64) (ht : p.tk i = true) : Giv { p with tk := upb p.tk i false } i 7 (giveB p i) := by
  refine ⟨⟨h.le, h.al, h.own, h.cov, fun x hx hx0 => ?_⟩, hi, h.tk i hi ht, ?_, by omega, rfl⟩
  · have : (if x = i then false else p.tk x) = true := hx0
    by_cases c : x = i
    · rw [if_pos c] at this; cases this
    · rw [if_neg c] at this; exact h.tk x hx this
  · show (if i = i then false else p.tk i) = false; rw [if_pos rfl]
theorem Giv.next {q G : P} {i n : Nat} (h : Giv q i (n + 1) G) (f : free2 q i = true) : Giv (join q (min i (bud i (sz (q.ord i)))) (max i (bud i (sz (q.ord i))))) (min i (bud i (sz (q.ord i)))) n G := by
  have f' := f
  unfold free2 at f
  simp only [Bool.and_eq_true, decide_eq_true_eq, Bool.not_eq_true'] at f
  have a := h.inv.join h.lt h.pos f.1 h.tk f.2.1 f.2.2
  exact ⟨a.1, a.2.1, by rw [a.2.2.1]; omega, a.2.2.2, by rw [a.2.2.1]; have := h.fu; omega, by rw [← h.eq, joins_yes f']⟩
end Bd
end Go.Proofs.YtghogbngmcolmaaGreat
namespace Go.Proofs.YtghogbngmcolmaaGreat
open Bd (P)
namespace Bd
def leftK (p : P) : Nat → Nat
  | 0 => 0
  | k + 1 => leftK p k + if 0 < p.ord k ∧ p.tk k = false then sz (p.ord k) else 0
def left (p : P) : Nat := leftK p 64
end Bd
end Go.Proofs.YtghogbngmcolmaaGreat
namespace Go.Proofs.YtghogbngmcolmaaGreat
open Go.RowKit
open Bd (P)
namespace Bd
def st (p : P) (i : Nat) : Nat := if p.ord i = 0 then 0 else if p.tk i = true then 2 else 1
def od (p : P) (i : Nat) : Nat := p.ord i - 1
theorem st_free {p : P} {i : Nat} (h : 0 < p.ord i) (t : p.tk i = false) : st p i = 1 := by unfold st; rw [if_neg (by omega), if_neg (by rw [t]; decide)]
theorem st_taken {p : P} {i : Nat} (h : 0 < p.ord i) (t : p.tk i = true) : st p i = 2 := by unfold st; rw [if_neg (by omega), if_pos t]
theorem st_one {p : P} {i : Nat} : st p i = 1 ↔ 0 < p.ord i ∧ p.tk i = false := by
  constructor
  · intro h
    unfold st at h
    by_cases c : p.ord i = 0
    · rw [if_pos c] at h; omega
    · rw [if_neg c] at h
      cases t : p.tk i
      · exact ⟨by omega, rfl⟩
      · rw [if_pos t] at h; omega
  · rintro ⟨h1, h2⟩; exact st_free h1 h2
theorem st_two {p : P} (hI : Inv p) {i : Nat} (hi : i < 64) : st p i = 2 ↔ p.tk i = true := by
  constructor
  · intro h
    unfold st at h
    by_cases c : p.ord i = 0
    · rw [if_pos c] at h; omega
    · rw [if_neg c] at h
      cases t : p.tk i
      · rw [if_neg (by rw [t]; decide)] at h; omega
      · rfl
  · intro h; exact st_taken (hI.tk i hi h) h
end Bd
structure CA (w : World) (b : Nat) (s d : Nat → Nat) : Prop where
  blk : ∃ C, w.heap[b]? = some (.cells C 228 (0, 0)) ∧ C.size = 128
  c0 : ∀ i, i < 64 → w.cell? ⟨b, i * 2, none⟩ = some (.int .i64 (s i : Int))
  c1 : ∀ i, i < 64 → w.cell? ⟨b, i * 2 + 1, none⟩ = some (.int .i64 (d i : Int))
def CAt (w : World) (b : Nat) (p : P) : Prop := CA w b (Bd.st p) (Bd.od p)
section
variable {w w' : World} {b : Nat} {s d s' d' : Nat → Nat}
theorem CA.drewN (h : CA w b s d) (n : Nat) : CA (w.drewN n) b s d := ⟨h.blk, h.c0, h.c1⟩
theorem CA.drew (h : CA w b s d) : CA w.drew b s d := ⟨h.blk, h.c0, h.c1⟩
theorem CA.frozen (h : CA w b s d) (o : Nat) : w.frozen? ⟨b, o, none⟩ = false := by obtain ⟨C, h1, _⟩ := h.blk; exact frozen_blk h1 o
theorem CA.lt (h : CA w b s d) : b < w.heap.size := by obtain ⟨C, h1, _⟩ := h.blk; exact (Array.getElem?_eq_some_iff.1 h1).1
theorem CA.same (h : CA w b s d) (e : w'.heap[b]? = w.heap[b]?) : CA w' b s d := ⟨by rw [e]; exact h.blk, fun o ho => (World.cell?_of_block e).trans (h.c0 o ho), fun o ho => (World.cell?_of_block e).trans (h.c1 o ho)⟩
theorem CA.congr (h : CA w b s d) (e : ∀ i, i < 64 → s' i = s i ∧ d' i = d i) : CA w b s' d' := ⟨h.blk, fun i hi => by rw [(e i hi).1]; exact h.c0 i hi, fun i hi => by rw [(e i hi).2]; exact h.c1 i hi⟩
theorem CA.setS (h : CA w b s d) (i v : Nat) (hi : i < 64) : CA (w.setCell ⟨b, i * 2, none⟩ (.int .i64 (v : Int))) b (Bd.up s i v) d := by
  obtain ⟨C, h1, h2⟩ := h.blk
  refine ⟨⟨_, blk_set h1 _ _, by simpa using h2⟩, fun j hj => ?_, fun j hj => ?_⟩
  · unfold Bd.up
    by_cases e : j = i
    · subst e; rw [cell_set_same h1 _ _ (by omega), if_pos rfl]
    · rw [cell_set_ne h1 _ _ _ (by omega), if_neg e]; exact h.c0 j hj
  · rw [cell_set_ne h1 _ _ _ (by omega)]; exact h.c1 j hj
theorem CA.setD (h : CA w b s d) (i v : Nat) (hi : i < 64) : CA (w.setCell ⟨b, i * 2 + 1, none⟩ (.int .i64 (v : Int))) b s (Bd.up d i v) := by
  obtain ⟨C, h1, h2⟩ := h.blk
  refine ⟨⟨_, blk_set h1 _ _, by simpa using h2⟩, fun j hj => ?_, fun j hj => ?_⟩
  · rw [cell_set_ne h1 _ _ _ (by omega)]; exact h.c0 j hj
  · unfold Bd.up
    by_cases e : j = i
    · subst e; rw [cell_set_same h1 _ _ (by omega), if_pos rfl]
    · rw [cell_set_ne h1 _ _ _ (by omega), if_neg e]; exact h.c1 j hj
end
section
variable {w w' : World} {b : Nat} {p p' : P}
theorem CAt.drewN (h : CAt w b p) (n : Nat) : CAt (w.drewN n) b p := CA.drewN h n
theorem CAt.drew (h : CAt w b p) : CAt w.drew b p := CA.drew h
theorem CAt.frozen (h : CAt w b p) (o : Nat) : w.frozen? ⟨b, o, none⟩ = false := CA.frozen h o
theorem CAt.lt (h : CAt w b p) : b < w.heap.size := CA.lt h
theorem CAt.same (h : CAt w b p) (e : w'.heap[b]? = w.heap[b]?) : CAt w' b p := CA.same h e
theorem CAt.cSt (h : CAt w b p) (i : Nat) (hi : i < 64) : w.cell? ⟨b, i * 2, none⟩ = some (.int .i64 (Bd.st p i : Int)) := h.c0 i hi
theorem CAt.cOd (h : CAt w b p) (i : Nat) (hi : i < 64) : w.cell? ⟨b, i * 2 + 1, none⟩ = some (.int .i64 (Bd.od p i : Int)) := h.c1 i hi
end
def czA : Array Value := ((List.range 128).map fun _ => Value.int .i64 0).toArray
theorem cz_eq : Tryz.zeroCells228 = czA := by kernel_rfl
theorem cz_at (i : Nat) (h : i < 128) : czA[i]? = some (Value.int .i64 0) := by simp [czA, h]
theorem c_zero {w : World} {b : Nat} (h : w.heap[b]? = some (.cells czA 228 (0, 0))) : CA w b (fun _ => 0) (fun _ => 0) := by
  refine ⟨⟨_, h, by simp [czA]⟩, fun o ho => ?_, fun o ho => ?_⟩
  · rw [cell_blk h, cz_at _ (by omega)]; rfl
  · rw [cell_blk h, cz_at _ (by omega)]; rfl
theorem bud_xor : ∀ (i : Fin 64) (k : Fin 7), IntKind.i64.wrap ((BitVec.ofInt 64 ((i.1 : Nat) : Int) ^^^ BitVec.ofInt 64 (((2 ^ k.1 : Nat)) : Int)).toNat : Int) = ((Bd.bud i.1 (2 ^ k.1) : Nat) : Int) := by decide +kernel
theorem c_b0 {w : World} {b : Nat} (h : CA w b (Bd.up (fun _ => 0) 0 1) (Bd.up (fun _ => 0) 0 6)) : CAt w b Bd.b0 := by
  refine CA.congr h (fun i _ => ?_)
  unfold Bd.st Bd.od Bd.up Bd.b0
  by_cases c : i = 0 <;> simp [c]
set_option maxRecDepth 100000 in
set_option maxHeartbeats 1000000 in
theorem cnew_any (w : World) : Calls Tryz.prog 99 #[] w fun e w' => e = .returned (.pointer (some ⟨w.heap.size, 0, none⟩)) ∧ CAt w' w.heap.size Bd.b0 ∧ Below w.heap.size w w' ∧ w.heap.size < w'.heap.size := by
  have Z : (w.alloc (.cells Tryz.zeroCells228 228)).heap[w.heap.size]? = some (.cells czA 228 (0, 0)) := by
    rw [cz_eq]; exact heap_alloc_new w _
  have Z2 : (w.alloc (.cells ((Tryz.zeroCells228.setIfInBounds 0 (Value.int IntKind.i64 1)).setIfInBounds 1 (Value.int IntKind.i64 6)) 228)).heap[w.heap.size]? = some (.cells ((czA.setIfInBounds 0 (Value.int IntKind.i64 1)).setIfInBounds 1 (Value.int IntKind.i64 6)) 228 (0, 0)) := by
    rw [cz_eq]; exact heap_alloc_new w _
  have FIN : Hid (CAt (w.alloc (.cells ((Tryz.zeroCells228.setIfInBounds 0 (Value.int IntKind.i64 1)).setIfInBounds 1 (Value.int IntKind.i64 6)) 228)) w.heap.size Bd.b0) := Hid.intro (by
    have h := ((c_zero Z).setS 0 1 (by omega)).setD 0 6 (by omega)
    refine (c_b0 h).same ?_
    rw [Z2]; exact (blk_set (blk_set Z 0 _) 1 _).symm)
  clear Z Z2
  go_enter Tryz.func99, Tryz.ntmps99
  go_wp2_with fail
  go_ret
  exact ⟨rfl, FIN.out, (Below.refl _ _).alloc (Nat.le_refl _) _, by simp⟩
theorem sz_shl (k : Nat) (hk : k ≤ 6) : wrap64 ((2 : Int) ^ k) = ((Bd.sz (k + 1) : Nat) : Int) := by
  have : ∀ k : Fin 7, wrap64 ((2 : Int) ^ k.1) = ((Bd.sz (k.1 + 1) : Nat) : Int) := by decide +kernel
  exact this ⟨k, by omega⟩
theorem bud_bits (i k : Nat) (hi : i < 64) (hk : k ≤ 6) : bits BinOp.xor IntKind.i64 (i : Int) ((Bd.sz (k + 1) : Nat) : Int) = ((Bd.bud i (Bd.sz (k + 1)) : Nat) : Int) := by
  have := bud_xor ⟨i, hi⟩ ⟨k, by omega⟩
  unfold Bd.sz
  rw [Nat.add_sub_cancel]
  exact this
theorem csize_any (k : Nat) (hk : k ≤ 6) (w : World) : Calls Tryz.prog 172 #[.int .i64 k] w fun e w' => e = .returned (.int .i64 (Bd.sz (k + 1) : Int)) ∧ w' = w := by
  have E := Hid.intro (sz_shl k hk)
  go_enter Tryz.func172, Tryz.ntmps172
  go_wp2
  go_ret
  rw [E.out]; exact ⟨rfl, rfl⟩
theorem chalf_any (i k : Nat) (hi : i < 64) (hk : k ≤ 6) (w : World) : Calls Tryz.prog 171 #[.int .i64 i, .int .i64 k] w fun e w' => e = .returned (.int .i64 (Bd.bud i (Bd.sz (k + 1)) : Int)) ∧ w' = w := by
  have E := Hid.intro (bud_bits i k hi hk)
  go_enter Tryz.func171, Tryz.ntmps171
  go_wp2_with fail
  refine (csize_any k hk _).mono ?_
  rintro e w1 ⟨rfl, hw⟩
  subst w1
  go_wp2
  go_ret
  rw [E.out]; exact ⟨rfl, rfl⟩
def Bd.ordN (p : P) (z : Int) : Nat := if Bd.giveE p z = 0 then Bd.od p z.toNat else 0
set_option maxRecDepth 100000 in
set_option maxHeartbeats 400000 in
theorem corder_any (b : Nat) (z : Int) (p : P) (w : World) (h : CAt w b p) (hI : Bd.Inv p) : Calls Tryz.prog 168 #[.pointer (some ⟨b, 0, none⟩), .int .i64 z] w fun e w' => e = .returned (.tuple #[.int .i64 (Bd.ordN p z : Int), errV (Bd.giveE p z)]) ∧ w' = w := by
  by_cases k : z < 0 ∨ 63 < z
  · have e : Hid (Bd.giveE p z = 1 ∧ Bd.ordN p z = 0) := Hid.intro (by
      have : Bd.giveE p z = 1 := if_pos k
      exact ⟨this, by unfold Bd.ordN; rw [this]; rfl⟩)
    by_cases h0 : z < 0
    · clear k
      go_enter Tryz.func168, Tryz.ntmps168
      go_wp2
      go_ret2
      rw [e.out.1, e.out.2]; exact ⟨rfl, rfl⟩
    · have h1 : decide (z < 0) = false := by simp; omega
      have h2 : 64 ≤ z := by omega
      clear k h0
      go_enter Tryz.func168, Tryz.ntmps168
      go_wp2
      go_ret2
      rw [e.out.1, e.out.2]; exact ⟨rfl, rfl⟩
  · obtain ⟨n, rfl⟩ := Int.eq_ofNat_of_zero_le (show 0 ≤ z by omega)
    have hn : n < 64 := by omega
    have h1 : (n : Int) < 64 := by omega
    have h2 : decide (64 ≤ (n : Int)) = false := by simp; omega
    have c0 := h.cSt n hn
    have c1 := h.cOd n hn
    cases hh : p.tk n
    · have e : Hid (Bd.giveE p n = 2 ∧ Bd.ordN p n = 0) := Hid.intro (by
        have : Bd.giveE p n = 2 := by unfold Bd.giveE; rw [if_neg k, Int.toNat_natCast, hh]; rfl
        exact ⟨this, by unfold Bd.ordN; rw [this]; rfl⟩)
      have s2 : ((Bd.st p n : Int) == 2) = false := by
        have : Bd.st p n ≠ 2 := fun c => by rw [(Bd.st_two hI hn).1 c] at hh; cases hh
        simp; omega
      generalize Bd.st p n = s at *
      clear k hh h
      go_enter Tryz.func168, Tryz.ntmps168
      go_wp2
      go_ret2
      rw [e.out.1, e.out.2]; exact ⟨rfl, rfl⟩
    · have e : Hid (Bd.giveE p n = 0 ∧ Bd.ordN p n = Bd.od p n) := Hid.intro (by
        have : Bd.giveE p n = 0 := by unfold Bd.giveE; rw [if_neg k, Int.toNat_natCast, hh]; rfl
        exact ⟨this, by unfold Bd.ordN; rw [this, if_pos rfl, Int.toNat_natCast]⟩)
      rw [(Bd.st_two hI hn).2 hh] at c0
      have c0' : w.cell? ⟨b, n * 2, none⟩ = some (.int .i64 2) := c0
      clear k hh h c0
      go_enter Tryz.func168, Tryz.ntmps168
      go_wp2
      go_ret2
      rw [e.out.1, e.out.2]; exact ⟨rfl, rfl⟩
end Go.Proofs.YtghogbngmcolmaaGreat
namespace Go.Proofs.YtghogbngmcolmaaGreat
open Go.RowKit
open Bd (P)
theorem free2_iff {q : P} {i : Nat} (h0 : 0 < q.ord i) : Bd.free2 q i = (decide (Bd.od q i < 6) && (decide (Bd.st q (Bd.bud i (Bd.sz (Bd.od q i + 1))) = 1) && decide (Bd.od q (Bd.bud i (Bd.sz (Bd.od q i + 1))) = Bd.od q i))) := by
  have e : Bd.od q i + 1 = q.ord i := by unfold Bd.od; omega
  rw [e]
  unfold Bd.free2
  obtain ⟨f, hf⟩ : ∃ f, Bd.bud i (Bd.sz (q.ord i)) = f := ⟨_, rfl⟩
  rw [hf]
  apply Bool.eq_iff_iff.2
  simp only [Bool.and_eq_true, decide_eq_true_eq, Bool.not_eq_true', Bd.st_one]
  have e2 : Bd.od q f = q.ord f - 1 := rfl
  constructor
  · rintro ⟨a, b, c⟩; exact ⟨by omega, ⟨by omega, c⟩, by omega⟩
  · rintro ⟨a, ⟨b, c⟩, d⟩; exact ⟨by omega, by omega, c⟩
set_option maxRecDepth 100000 in
set_option maxHeartbeats 1000000 in
theorem cjoins_any (b i : Nat) (q : P) (w : World) (h : CAt w b q) (hI : Bd.Inv q) (hi : i < 64) (h0 : 0 < q.ord i) :
    Calls Tryz.prog 169 #[.pointer (some ⟨b, 0, none⟩), .int .i64 i] w fun e w' => e = .returned (.bool (Bd.free2 q i)) ∧ ∃ n, w' = w.drewN n := by
  have c1 := h.cOd i hi
  have iI : (i : Int) < 64 := by omega
  have FI := Hid.intro (free2_iff h0)
  have al := (hI.al i hi h0).1
  have e : Bd.od q i + 1 = q.ord i := by unfold Bd.od; omega
  rw [← e] at al
  obtain ⟨k, hk⟩ : ∃ k, Bd.od q i = k := ⟨_, rfl⟩
  rw [hk] at c1 FI al e
  have k6 : k ≤ 6 := by have := hI.le i hi; omega
  by_cases hlt : k < 6
  · have hltI : (k : Int) < 6 := by omega
    have BL := (Bd.bud_lt (i := i) (k := k + 1) (by omega) (by omega) hi al).1
    have HH := Hid.intro (chalf_any i k hi k6)
    obtain ⟨f, hf⟩ : ∃ f, Bd.bud i (Bd.sz (k + 1)) = f := ⟨_, rfl⟩
    rw [hf] at HH FI BL
    rw [decide_eq_true hlt, Bool.true_and] at FI
    have fI : (f : Int) < 64 := by omega
    have d0 := h.cSt f BL
    have d1 := h.cOd f BL
    obtain ⟨s, hs⟩ : ∃ s, Bd.st q f = s := ⟨_, rfl⟩
    obtain ⟨o, ho⟩ : ∃ o, Bd.od q f = o := ⟨_, rfl⟩
    rw [hs] at d0 FI
    rw [ho] at d1 FI
    clear hs ho hf al e h hI hk h0
    by_cases e1 : s = 1
    · by_cases e2 : o = k
      · have FR : Hid (Bd.free2 q i = true) := Hid.intro (by rw [FI.out, decide_eq_true e1, decide_eq_true e2]; rfl)
        subst e1 e2
        clear FI
        go_enter Tryz.func169, Tryz.ntmps169
        go_wp2_with fail
        go_quiet ((go_at_call 171; refine Calls.quiet_of_same (HH.out _)))
        go_wp2_with fail
        go_ret
        rw [FR.out]; exact ⟨rfl, _, rfl⟩
      · have FR : Hid (Bd.free2 q i = false) := Hid.intro (by rw [FI.out, decide_eq_false e2]; simp)
        have e2' : ((o : Int) == (k : Int)) = false := by simp; omega
        subst e1
        clear FI e2
        go_enter Tryz.func169, Tryz.ntmps169
        go_wp2_with fail
        go_quiet ((go_at_call 171; refine Calls.quiet_of_same (HH.out _)))
        go_wp2_with fail
        go_ret
        rw [FR.out]; exact ⟨rfl, _, rfl⟩
    · have FR : Hid (Bd.free2 q i = false) := Hid.intro (by rw [FI.out, decide_eq_false e1]; rfl)
      have e1' : ((s : Int) == 1) = false := by simp; omega
      clear FI e1
      go_enter Tryz.func169, Tryz.ntmps169
      go_wp2_with fail
      go_quiet ((go_at_call 171; refine Calls.quiet_of_same (HH.out _)))
      go_wp2_with fail
      go_ret
      rw [FR.out]; exact ⟨rfl, _, rfl⟩
  · have hltI : decide ((k : Int) < 6) = false := by simp; omega
    have FR : Hid (Bd.free2 q i = false) := Hid.intro (by rw [FI.out, decide_eq_false hlt]; rfl)
    clear FI hlt al e h hI hk h0
    go_enter Tryz.func169, Tryz.ntmps169
    go_wp2_with fail
    go_quiet (fail)
    go_wp2_with fail
    go_ret
    rw [FR.out]; exact ⟨rfl, _, rfl⟩
theorem join_ca {q : P} {lo hh : Nat} (hl0 : 0 < q.ord lo) (hlt : q.tk lo = false) (hne : lo ≠ hh) {w : World} {b : Nat} (h : CA w b (Bd.up (Bd.st q) hh 0) (Bd.up (Bd.up (Bd.od q) lo (Bd.od q lo + 1)) hh 0)) : CAt w b (Bd.join q lo hh) := by
  have eo : ∀ x, (Bd.join q lo hh).ord x = if x = lo then q.ord lo + 1 else if x = hh then 0 else q.ord x := fun x => rfl
  have et : ∀ x, (Bd.join q lo hh).tk x = q.tk x := fun x => rfl
  refine CA.congr h (fun i _ => ?_)
  unfold Bd.st Bd.od Bd.up
  rw [eo, et]
  by_cases c1 : i = lo
  · subst c1
    rw [if_pos rfl, if_neg hne, if_neg hne, if_pos rfl, if_neg (by omega)]
    refine ⟨?_, by show q.ord i + 1 - 1 = q.ord i - 1 + 1; omega⟩
    show _ = if q.ord i = 0 then 0 else if q.tk i = true then 2 else 1
    rw [hlt, if_neg (show ¬ q.ord i = 0 by omega)]
  · rw [if_neg c1]
    by_cases c2 : i = hh
    · subst c2
      rw [if_pos rfl, if_pos rfl, if_pos rfl, if_pos rfl]
      exact ⟨rfl, rfl⟩
    · rw [if_neg c2, if_neg c2, if_neg c2, if_neg c1]
      exact ⟨rfl, rfl⟩
set_option maxRecDepth 100000 in
set_option maxHeartbeats 1000000 in
theorem cjoin_any (b i : Nat) (q : P) (w : World) (h : CAt w b q) (hI : Bd.Inv q) (hi : i < 64) (h0 : 0 < q.ord i) (ht : q.tk i = false) (hf2 : Bd.free2 q i = true) :
    Calls Tryz.prog 170 #[.pointer (some ⟨b, 0, none⟩), .int .i64 i] w fun e w' => e = .returned (.int .i64 ((min i (Bd.bud i (Bd.sz (q.ord i))) : Nat) : Int)) ∧ CAt w' b (Bd.join q (min i (Bd.bud i (Bd.sz (q.ord i)))) (max i (Bd.bud i (Bd.sz (q.ord i))))) ∧ Frm b w w' := by
  have c1 := h.cOd i hi
  have iI : (i : Int) < 64 := by omega
  have al := (hI.al i hi h0).1
  have e : Bd.od q i + 1 = q.ord i := by unfold Bd.od; omega
  unfold Bd.free2 at hf2
  simp only [Bool.and_eq_true, decide_eq_true_eq, Bool.not_eq_true'] at hf2
  obtain ⟨f1, f2, f3⟩ := hf2
  obtain ⟨k, hk⟩ : ∃ k, Bd.od q i = k := ⟨_, rfl⟩
  rw [hk] at c1 e
  have HH := Hid.intro (chalf_any i k hi (by omega))
  have BL := (Bd.bud_lt (i := i) (k := k + 1) (by omega) (by omega) hi (by rw [e]; exact al)).1
  have BB := (Bd.bud_bud (i := i) (k := k + 1) (by omega) (by omega) (by rw [e]; exact al)).2.2
  rw [← e] at f2 f3 ⊢
  obtain ⟨f, hf⟩ : ∃ f, Bd.bud i (Bd.sz (k + 1)) = f := ⟨_, rfl⟩
  rw [hf] at HH BL BB f2 f3 ⊢
  have fI : (f : Int) < 64 := by omega
  have HF := Hid.intro h
  have cf := h.frozen
  have hw1 : IntKind.i64.wrap ((k : Int) + 1) = (k : Int) + 1 := IntWalk.i64_in _ ⟨by omega, by omega⟩
  have of : Bd.od q f = k := by unfold Bd.od; omega
  have d0 := h.cSt i hi
  have d1 := h.cSt f BL
  have d2 := h.cOd f BL
  have Of := of
  have Oi := hk
  generalize Bd.st q i = s0 at d0
  generalize Bd.st q f = s1 at d1
  rw [of] at d2
  by_cases c : f < i
  · have mm : min i f = f ∧ max i f = i := ⟨by omega, by omega⟩
    rw [mm.1, mm.2]
    have FIN : Hid (∀ W, CA W b (Bd.up (Bd.st q) i 0) (Bd.up (Bd.up (Bd.od q) f (k + 1)) i 0) → CAt W b (Bd.join q f i)) := Hid.intro (fun W hW => join_ca (by omega) (by assumption) (by omega) (by rw [Of]; exact hW))
    have cI : (f : Int) < (i : Int) := by omega
    have cI' : ¬ (i : Int) < (f : Int) := by omega
    clear al e f1 f2 f3 hk hf mm h hI h0 ht of Of Oi
    go_enter Tryz.func170, Tryz.ntmps170
    go_wp2_with fail
    refine (HH.out _).mono ?_
    rintro e w2 ⟨rfl, hw2⟩
    subst w2
    go_wp2_with fail
    go_ret
    exact ⟨rfl, FIN.out _ (((CA.setD HF.out f (k + 1) (by omega)).setS i 0 (by omega)).setD i 0 (by omega)), (((Frm.refl b w).setCell _ _).setCell _ _).setCell _ _⟩
  · have mm : min i f = i ∧ max i f = f := ⟨by omega, by omega⟩
    rw [mm.1, mm.2]
    have FIN : Hid (∀ W, CA W b (Bd.up (Bd.st q) f 0) (Bd.up (Bd.up (Bd.od q) i (k + 1)) f 0) → CAt W b (Bd.join q i f)) := Hid.intro (fun W hW => join_ca (by omega) (by assumption) (by omega) (by rw [Oi]; exact hW))
    have cI : (i : Int) < (f : Int) := by omega
    have cI' : ¬ (f : Int) < (i : Int) := by omega
    clear al e f1 f2 f3 hk hf mm h hI h0 ht of Of Oi
    go_enter Tryz.func170, Tryz.ntmps170
    go_wp2_with fail
    refine (HH.out _).mono ?_
    rintro e w2 ⟨rfl, hw2⟩
    subst w2
    go_wp2_with fail
    go_ret
    exact ⟨rfl, FIN.out _ (((CA.setD HF.out i (k + 1) (by omega)).setS f 0 (by omega)).setD f 0 (by omega)), (((Frm.refl b w).setCell _ _).setCell _ _).setCell _ _⟩
end Go.Proofs.YtghogbngmcolmaaGreat
namespace Go.Proofs.YtghogbngmcolmaaGreat
open Go.RowKit
open Bd (P)
theorem giv_ca {p : P} {j : Nat} {w : World} {b : Nat} (h0 : 0 < p.ord j) (h : CAt w b p) (hj : j < 64) : CAt (w.setCell ⟨b, j * 2, none⟩ (.int .i64 1)) b { p with tk := Bd.upb p.tk j false } := by
  refine CA.congr (CA.setS h j 1 hj) (fun i _ => ?_)
  unfold Bd.st Bd.od Bd.up Bd.upb
  by_cases c : i = j
  · subst c
    show (if p.ord i = 0 then 0 else if (if i = i then false else _) = true then 2 else 1) = (if i = i then 1 else _) ∧ _
    rw [if_neg (by omega), if_pos rfl, if_pos rfl]
    exact ⟨rfl, rfl⟩
  · show (if p.ord i = 0 then 0 else if (if i = j then false else p.tk i) = true then 2 else 1) = (if i = j then 1 else _) ∧ _
    rw [if_neg c, if_neg c]
    exact ⟨rfl, rfl⟩
set_option maxRecDepth 100000 in
set_option maxHeartbeats 400000 in
theorem cgive_wrong (b : Nat) (z : Int) (p : P) (w : World) (h : CAt w b p) (hI : Bd.Inv p) (k : Bd.giveE p z ≠ 0) :
    Calls Tryz.prog 162 #[.pointer (some ⟨b, 0, none⟩), .int .i64 z] w fun e w' => e = .returned (errV (Bd.giveE p z)) ∧ w' = w := by
  have HF := Hid.intro (And.intro h hI)
  obtain ⟨E, hE⟩ : ∃ E, Bd.giveE p z = E := ⟨_, rfl⟩
  have HX := Hid.intro hE
  rw [hE] at k
  have HK := Hid.intro k
  clear h hI k hE
  go_enter Tryz.func162, Tryz.ntmps162
  go_wp2_with fail
  refine (corder_any b z p _ HF.out.1 HF.out.2).mono ?_
  rintro e w1 ⟨rfl, hw⟩
  subst w1
  rw [HX.out, errV_ne HK.out]
  go_wp2_with fail
  go_ret
  rw [HX.out, errV_ne HK.out]
  exact ⟨rfl, rfl⟩
set_option maxRecDepth 100000 in
set_option maxHeartbeats 2000000 in
theorem cgive_ok (b j : Nat) (p : P) (w : World) (h : CAt w b p) (hI : Bd.Inv p) (hj : j < 64) (ht : p.tk j = true) :
    Calls Tryz.prog 162 #[.pointer (some ⟨b, 0, none⟩), .int .i64 j] w fun e w' => e = .returned (errV 0) ∧ CAt w' b (Bd.giveB p j) ∧ Frm b w w' := by
  have HF := Hid.intro (And.intro h hI)
  have HK : Hid (Bd.giveE p j = 0) := Hid.intro (by unfold Bd.giveE; rw [if_neg (by omega), Int.toNat_natCast, if_pos ht])
  have c0 := h.cSt j hj
  have cf0 := h.frozen
  have hjI : (j : Int) < 64 := by omega
  have S0 : Hid (CAt (w.setCell ⟨b, j * 2, none⟩ (.int .i64 1)) b { p with tk := Bd.upb p.tk j false } ∧ Frm b w (w.setCell ⟨b, j * 2, none⟩ (.int .i64 1)) ∧ Bd.Giv { p with tk := Bd.upb p.tk j false } j 7 (Bd.giveB p j)) := Hid.intro ⟨giv_ca (hI.tk j hj ht) h hj, (Frm.refl b w).setCell _ _, Bd.Giv.start hI hj ht⟩
  clear h hI ht
  go_enter Tryz.func162, Tryz.ntmps162
  go_wp2_with fail
  refine (corder_any b j p _ HF.out.1 HF.out.2).mono ?_
  rintro e w1 ⟨rfl, hw⟩
  subst w1
  rw [HK.out, errV_zero]
  go_wp2_with fail
  refine wp_gen (fun W => CAt W b { p with tk := Bd.upb p.tk j false } ∧ Frm b w W ∧ Bd.Giv { p with tk := Bd.upb p.tk j false } j 7 (Bd.giveB p j)) S0.out ?_
  intro W1 h1
  have S1 := Hid.intro h1
  clear h1 S0 c0 cf0
  go_loopw [1] (fun s wr => ∃ (i n : Nat) (q : P), s = .int .i64 i ∧ n ≤ 7 ∧ Hid (CAt wr b q ∧ Frm b w wr ∧ Bd.Giv q i n (Bd.giveB p j))) (fun s wr => 6 - bucellN wr b ((intOf s).toNat * 2 + 1))
  case atStart => exact ⟨j, 7, _, rfl, by omega, S1⟩
  case round =>
    clear S1
    obtain ⟨i, n, q, rfl, hn7, S⟩ := hrel
    have hi := S.out.2.2.lt
    have CC := Hid.intro (S.out.1.cOd i hi)
    cases fr : Bd.free2 q i
    · have FR := Hid.intro fr
      have EQ : Hid (q = Bd.giveB p j) := Hid.intro (by rw [← S.out.2.2.eq, Bd.joins_no fr])
      clear fr
      go_wp2_with fail
      refine (cjoins_any b i q _ S.out.1 S.out.2.2.inv hi S.out.2.2.pos).mono ?_
      rintro e w2 ⟨rfl, nq, hw2⟩
      have T : Hid (CAt w2 b q ∧ Frm b w w2) := Hid.intro (by rw [hw2]; exact ⟨S.out.1.drewN nq, S.out.2.1.drewN nq⟩)
      clear hw2
      rw [FR.out]
      go_wp2_with fail
      go_ret
      exact ⟨rfl, by rw [← EQ.out]; exact T.out.1, T.out.2⟩
    · have FR := Hid.intro fr
      have lt7 : q.ord i < 7 := by
        unfold Bd.free2 at fr
        simp only [Bool.and_eq_true, decide_eq_true_eq] at fr
        exact fr.1
      obtain ⟨m, rfl⟩ : ∃ m, n = m + 1 := ⟨n - 1, by have := S.out.2.2.fu; omega⟩
      have GN := Hid.intro (S.out.2.2.next fr)
      have L7 := Hid.intro lt7
      have JO := Hid.intro (by
        have f := fr
        unfold Bd.free2 at f
        simp only [Bool.and_eq_true, decide_eq_true_eq, Bool.not_eq_true'] at f
        exact (S.out.2.2.inv.join hi S.out.2.2.pos f.1 S.out.2.2.tk f.2.1 f.2.2).2.2.1)
      clear fr lt7
      go_wp2_with fail
      refine (cjoins_any b i q _ S.out.1 S.out.2.2.inv hi S.out.2.2.pos).mono ?_
      rintro e w2 ⟨rfl, nq, hw2⟩
      have T : Hid (CAt w2 b q ∧ Frm b w w2) := Hid.intro (by rw [hw2]; exact ⟨S.out.1.drewN nq, S.out.2.1.drewN nq⟩)
      clear hw2
      rw [FR.out]
      go_wp2_with fail
      refine (cjoin_any b i q _ T.out.1 S.out.2.2.inv hi S.out.2.2.pos S.out.2.2.tk FR.out).mono ?_
      rintro e w3 ⟨rfl, t3, f3⟩
      have T3 := Hid.intro (And.intro t3 (T.out.2.trans f3))
      clear t3 f3
      obtain ⟨lo, hlo⟩ : ∃ lo, min i (Bd.bud i (Bd.sz (q.ord i))) = lo := ⟨_, rfl⟩
      rw [hlo]
      rw [hlo] at T3 GN JO
      have CN : Hid (bucellN w3 b (lo * 2 + 1) = q.ord i) := Hid.intro (cellN_of (by
        rw [T3.out.1.cOd lo GN.out.lt]
        unfold Bd.od
        rw [JO.out]; rfl))
      clear hlo
      go_wp2_with fail
      go_roundw
      case rel => exact ⟨lo, m, _, by first | rfl | trivial, by omega, T3.out.1, T3.out.2, GN.out⟩
      case measure =>
        simp only [intOf, Int.toNat_natCast]
        rw [CN.out, cellN_of CC.out]
        have := L7.out
        have := S.out.2.2.pos
        show _ < 6 - (q.ord i - 1)
        omega
theorem cgive_any (b : Nat) (z : Int) (p : P) (w : World) (h : CAt w b p) (hI : Bd.Inv p) :
    Calls Tryz.prog 162 #[.pointer (some ⟨b, 0, none⟩), .int .i64 z] w fun e w' => e = .returned (errV (Bd.giveE p z)) ∧ CAt w' b (Bd.giveT p z) ∧ Frm b w w' := by
  by_cases k : Bd.giveE p z = 0
  · have k' := k
    unfold Bd.giveE at k'
    by_cases c1 : z < 0 ∨ 63 < z
    · rw [if_pos c1] at k'; omega
    · rw [if_neg c1] at k'
      obtain ⟨j, rfl⟩ := Int.eq_ofNat_of_zero_le (show 0 ≤ z by omega)
      rw [Int.toNat_natCast] at k'
      have ht : p.tk j = true := by
        cases t : p.tk j
        · rw [t, if_neg (by decide)] at k'; omega
        · rfl
      refine (cgive_ok b j p w h hI (by omega) ht).mono ?_
      rintro e w' ⟨rfl, h1, h2⟩
      unfold Bd.giveT
      rw [k, if_pos rfl, Int.toNat_natCast]
      exact ⟨rfl, h1, h2⟩
  · refine (cgive_wrong b z p w h hI k).mono ?_
    rintro e w' ⟨rfl, rfl⟩
    unfold Bd.giveT
    rw [if_neg k]
    exact ⟨rfl, h, Frm.refl _ _⟩
theorem LO.alloc {w wr : World} {L : List Nat} {l : Value} (h : LO w L l wr) (ob : Obj) : LO w L l (wr.alloc ob) := ⟨h.bel.alloc h.bel.size ob, h.own.alloc _⟩
end Go.Proofs.YtghogbngmcolmaaGreat

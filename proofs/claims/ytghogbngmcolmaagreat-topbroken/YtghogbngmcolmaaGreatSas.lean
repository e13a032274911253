import Derived.Below
import Derived.Test.YtghogbngmcolmaaGreatProg
import Derived.WalkKit
import Derived.WalkSpells
import Derived.WalkLawsBesides
import Derived.WalkSmall
import Derived.Deep.QuietTactic
import Derived.BigQuiet
namespace Go.Proofs.YtghogbngmcolmaaGreat.Fa
namespace Hp
def upd (f : Nat → Nat) (i v : Nat) : Nat → Nat := fun j => if j = i then v else f j
theorem upd_same (f : Nat → Nat) (i v : Nat) : upd f i v i = v := by simp [upd]
theorem upd_ne (f : Nat → Nat) (i v j : Nat) (h : j ≠ i) : upd f i v j = f j := by simp [upd, h]
structure Q where
  many : Nat
  heap : Nat → Nat
  place : Nat → Nat
  keys : Nat → Nat
def ah (K : Nat → Nat) (a b : Nat) : Prop := K a < K b ∨ (K a = K b ∧ a < b)
theorem ah_asymm {K : Nat → Nat} {a b : Nat} (h : ah K a b) : ¬ ah K b a := by
  unfold ah at *; omega
theorem nah_trans {K : Nat → Nat} {a b c : Nat} (h : ¬ ah K a b) (h' : ¬ ah K b c) : ¬ ah K a c := by
  unfold ah at *; omega
theorem nah_of {K : Nat → Nat} {a b c : Nat} (h : ¬ ah K a b) (h' : ah K c b) : ¬ ah K a c := by
  unfold ah at *; omega
structure Okp (q : Q) : Prop where
  le : q.many ≤ 64
  at_ : ∀ i, i < q.many → q.heap i < 64 ∧ q.place (q.heap i) = i + 1
  of_ : ∀ j, j < 64 → q.place j ≤ q.many ∧ (0 < q.place j → q.heap (q.place j - 1) = j)
theorem Okp.inj {q : Q} (h : Okp q) {i j : Nat} (hi : i < q.many) (hj : j < q.many) (e : q.heap i = q.heap j) : i = j := by
  have a := (h.at_ i hi).2; have b := (h.at_ j hj).2; rw [e] at a; omega
structure Same (q q' : Q) : Prop where
  many : q'.many = q.many
  keys : q'.keys = q.keys
  has : ∀ j, 0 < q'.place j ↔ 0 < q.place j
theorem Same.refl (q : Q) : Same q q := ⟨rfl, rfl, fun _ => Iff.rfl⟩
theorem Same.trans {a b c : Q} (h : Same a b) (k : Same b c) : Same a c := ⟨k.many.trans h.many, k.keys.trans h.keys, fun j => (k.has j).trans (h.has j)⟩
def ord (q : Q) (i : Nat) : Prop := ¬ ah q.keys (q.heap i) (q.heap ((i - 1) / 2))
def set (q : Q) (x j : Nat) : Q := { q with heap := upd q.heap x j, place := upd q.place j (x + 1) }
def swap (q : Q) (x y : Nat) : Q := set (set q x (q.heap y)) y (q.heap x)
theorem swap_many (q : Q) (x y : Nat) : (swap q x y).many = q.many := rfl
theorem swap_keys (q : Q) (x y : Nat) : (swap q x y).keys = q.keys := rfl
theorem swap_heap (q : Q) (x y : Nat) (j : Nat) : (swap q x y).heap j = if j = y then q.heap x else if j = x then q.heap y else q.heap j := rfl
theorem swap_place (q : Q) (x y : Nat) (j : Nat) : (swap q x y).place j = if j = q.heap x then y + 1 else if j = q.heap y then x + 1 else q.place j := rfl
theorem swap_ok {q : Q} (h : Okp q) {x y : Nat} (hx : x < q.many) (hy : y < q.many) : Okp (swap q x y) ∧ Same q (swap q x y) := by
  have ax := h.at_ x hx
  have ay := h.at_ y hy
  refine ⟨⟨h.le, ?_, ?_⟩, ⟨rfl, rfl, ?_⟩⟩
  · intro i hi
    have hi' : i < q.many := hi
    have ai := h.at_ i hi'
    rw [swap_place, swap_heap]
    by_cases e1 : i = y
    · subst e1
      simp
      exact ax.1
    · by_cases e2 : i = x
      · subst e2
        rw [if_neg e1, if_pos rfl]
        refine ⟨ay.1, ?_⟩
        by_cases e3 : q.heap y = q.heap i
        · have := h.inj hy hi' e3; omega
        · rw [if_neg e3, if_pos rfl]
      · rw [if_neg e1, if_neg e2]
        refine ⟨ai.1, ?_⟩
        rw [if_neg (fun e => e2 (h.inj hi' hx e)), if_neg (fun e => e1 (h.inj hi' hy e))]
        exact ai.2
  · intro j hj
    have oj := h.of_ j hj
    rw [swap_place]
    show _ ≤ q.many ∧ _
    by_cases e1 : j = q.heap x
    · rw [if_pos e1]
      refine ⟨by omega, fun _ => ?_⟩
      rw [swap_heap]; simp [e1]
    · rw [if_neg e1]
      by_cases e2 : j = q.heap y
      · rw [if_pos e2]
        refine ⟨by omega, fun _ => ?_⟩
        rw [swap_heap]
        by_cases e3 : x = y
        · subst e3; exact absurd e2 e1
        · simp [e2]
          intro e; exact absurd e e3
      · rw [if_neg e2]
        refine ⟨oj.1, fun hp => ?_⟩
        have := oj.2 hp
        rw [swap_heap]
        rw [if_neg (fun e => e2 (by rw [← e, this])), if_neg (fun e => e1 (by rw [← e, this]))]
        exact this
  · intro j
    rw [swap_place]
    by_cases e1 : j = q.heap x
    · rw [if_pos e1, e1, ax.2]; omega
    · rw [if_neg e1]
      by_cases e2 : j = q.heap y
      · rw [if_pos e2, e2, ay.2]; omega
      · rw [if_neg e2]
structure RI (a p : Nat) (q : Q) : Prop where
  lt : p < q.many
  le : p ≤ a
  ok : ∀ i, 0 < i → i < q.many → i ≠ p → (p = a → (i - 1) / 2 ≠ a) → ord q i
  up : ∀ c, 0 < c → c < q.many → (c - 1) / 2 = p → 0 < p → ¬ ah q.keys (q.heap c) (q.heap ((p - 1) / 2))
structure DI (p : Nat) (q : Q) : Prop where
  ok : ∀ i, 0 < i → i < q.many → (i - 1) / 2 ≠ p → ord q i
  up : ∀ c, 0 < c → c < q.many → (c - 1) / 2 = p → 0 < p → ¬ ah q.keys (q.heap c) (q.heap ((p - 1) / 2))
def Full (q : Q) : Prop := ∀ i, 0 < i → i < q.many → ord q i
theorem rise_step {a p : Nat} {q : Q} (h : RI a p q) (h0 : 0 < p) (ha : ah q.keys (q.heap p) (q.heap ((p - 1) / 2))) : RI a ((p - 1) / 2) (swap q p ((p - 1) / 2)) := by
  obtain ⟨u, hu⟩ : ∃ u, u = (p - 1) / 2 := ⟨_, rfl⟩
  rw [← hu] at ha ⊢
  have hlt := h.lt
  have hle := h.le
  have hup : u < p := by omega
  refine ⟨by rw [swap_many]; omega, by omega, ?_, ?_⟩
  · intro i h1 h2 h3 _
    rw [swap_many] at h2
    unfold ord
    rw [swap_keys, swap_heap, swap_heap]
    rw [if_neg h3]
    by_cases e1 : i = p
    · subst e1
      rw [if_pos rfl, ← hu, if_pos rfl]
      exact ah_asymm ha
    · rw [if_neg e1]
      by_cases e2 : (i - 1) / 2 = p
      · rw [e2, if_neg (by omega), if_pos rfl]
        have := h.up i h1 h2 e2 h0
        rw [← hu] at this; exact this
      · by_cases e3 : (i - 1) / 2 = u
        · rw [e3, if_pos rfl]
          have := h.ok i h1 h2 e1 (by omega)
          unfold ord at this
          rw [e3] at this
          exact nah_of this ha
        · rw [if_neg e3, if_neg e2]
          exact h.ok i h1 h2 e1 (by omega)
  · intro c h1 h2 h3 h4
    rw [swap_many] at h2
    rw [swap_keys, swap_heap, swap_heap]
    have o1 := h.ok u h4 (by omega) (by omega) (by omega)
    unfold ord at o1
    rw [if_neg (by omega : ¬ c = u), if_neg (by omega : ¬ (u - 1) / 2 = u), if_neg (by omega : ¬ (u - 1) / 2 = p)]
    by_cases e1 : c = p
    · rw [if_pos e1]; exact o1
    · rw [if_neg e1]
      have o2 := h.ok c h1 h2 e1 (by omega)
      unfold ord at o2
      rw [h3] at o2
      exact nah_trans o2 o1
theorem rise_end {a p : Nat} {q : Q} (h : RI a p q) (he : p = 0 ∨ ¬ ah q.keys (q.heap p) (q.heap ((p - 1) / 2))) : DI a q := by
  have hlt := h.lt
  have hle := h.le
  refine ⟨?_, ?_⟩
  · intro i h1 h2 h3
    by_cases e : i = p
    · subst e
      rcases he with he | he
      · omega
      · exact he
    · exact h.ok i h1 h2 e (fun _ => h3)
  · intro c h1 h2 h3 h4
    by_cases e : p = a
    · subst e; exact h.up c h1 h2 h3 h4
    · have o1 := h.ok c h1 h2 (by omega) (fun k => absurd k e)
      have o2 := h.ok a h4 (by omega) (by omega) (fun k => absurd k e)
      unfold ord at o1 o2
      rw [h3] at o1
      exact nah_trans o1 o2
theorem sink_step {p l : Nat} {q : Q} (h : DI p q) (hl0 : 0 < l) (hl : l < q.many) (hp : (l - 1) / 2 = p) (ha : ah q.keys (q.heap l) (q.heap p))
    (hm : ∀ c, 0 < c → c < q.many → (c - 1) / 2 = p → ¬ ah q.keys (q.heap c) (q.heap l)) : DI l (swap q p l) := by
  refine ⟨?_, ?_⟩
  · intro i h1 h2 h3
    rw [swap_many] at h2
    unfold ord
    rw [swap_keys, swap_heap, swap_heap]
    rw [if_neg h3]
    by_cases e1 : i = l
    · subst e1
      rw [if_pos rfl, hp, if_pos rfl]
      exact ah_asymm ha
    · rw [if_neg e1]
      by_cases e2 : (i - 1) / 2 = p
      · rw [if_pos e2, if_neg (by omega)]
        exact hm i h1 h2 e2
      · rw [if_neg e2]
        by_cases e3 : i = p
        · subst e3
          rw [if_pos rfl]
          exact h.up l hl0 hl hp h1
        · rw [if_neg e3]
          exact h.ok i h1 h2 e2
  · intro c h1 h2 h3 h4
    rw [swap_many] at h2
    rw [swap_keys, swap_heap, swap_heap]
    rw [if_neg (by omega), if_neg (by omega), hp, if_neg (by omega), if_pos rfl]
    have := h.ok c h1 h2 (by omega)
    unfold ord at this
    rw [h3] at this
    exact this
theorem sink_end {p : Nat} {q : Q} (h : DI p q) (hm : ∀ c, 0 < c → c < q.many → (c - 1) / 2 = p → ¬ ah q.keys (q.heap c) (q.heap p)) : Full q := by
  intro i h1 h2
  by_cases e : (i - 1) / 2 = p
  · have := hm i h1 h2 e
    unfold ord; rw [e]; exact this
  · exact h.ok i h1 h2 e
theorem first_least {q : Q} (h : Full q) : ∀ i, i < q.many → ¬ ah q.keys (q.heap i) (q.heap 0) := by
  intro i
  induction i using Nat.strongRecOn with
  | _ i ih =>
    intro hi
    by_cases e : i = 0
    · subst e; unfold ah; omega
    · have h1 := h i (by omega) hi
      exact nah_trans h1 (ih ((i - 1) / 2) (by omega) (by omega))
def putQ (q : Q) (j k : Nat) : Q := { many := q.many + 1, heap := upd q.heap q.many j, place := upd q.place j (q.many + 1), keys := upd q.keys j k }
theorem len_le : ∀ (l m : List Nat), l.Nodup → (∀ x ∈ l, x ∈ m) → l.length ≤ m.length
  | [], _, _, _ => Nat.zero_le _
  | a :: t, m, hn, hs => by
    have hn' := List.nodup_cons.1 hn
    have ha : a ∈ m := hs a (by simp)
    have := len_le t (m.erase a) hn'.2 (fun x hx => (List.mem_erase_of_ne (show x ≠ a from fun e => hn'.1 (by rw [← e]; exact hx))).2 (hs x (by simp [hx])))
    rw [List.length_erase_of_mem ha] at this
    have hp : 0 < m.length := List.length_pos_of_mem ha
    simp only [List.length_cons]
    omega
theorem many_lt {q : Q} (h : Okp q) {j : Nat} (hj : j < 64) (hn : q.place j = 0) : q.many < 64 := by
  refine Nat.lt_of_not_le fun hc => ?_
  have he : q.many = 64 := by have := h.le; omega
  have hinj : ∀ a b, a < 64 → b < 64 → q.heap a = q.heap b → a = b := fun a b ha hb e => h.inj (by omega) (by omega) e
  have hne : ∀ a, a < 64 → q.heap a ≠ j := fun a ha e => by have := (h.at_ a (by omega)).2; rw [e] at this; omega
  have hl : ((List.range 64).map q.heap).Nodup := by
    rw [List.nodup_iff_pairwise_ne, List.pairwise_map]
    refine List.Pairwise.imp_of_mem ?_ (List.nodup_iff_pairwise_ne.1 List.nodup_range)
    intro a b ha hb hab e
    exact hab (hinj a b (by simpa using ha) (by simpa using hb) e)
  have hs : ∀ x ∈ (List.range 64).map q.heap, x ∈ (List.range 64).erase j := by
    intro x hx
    obtain ⟨a, ha, rfl⟩ := List.mem_map.1 hx
    have ha' : a < 64 := by simpa using ha
    rw [List.Nodup.mem_erase_iff List.nodup_range]
    exact ⟨hne a ha', by simpa using (h.at_ a (by omega)).1⟩
  have hlen := len_le _ _ hl hs
  rw [List.length_erase_of_mem (by simpa using hj)] at hlen
  simp at hlen
theorem put_ok {q : Q} (h : Okp q) (hF : Full q) {j k : Nat} (hj : j < 64) (hn : q.place j = 0) :
    Okp (putQ q j k) ∧ RI q.many q.many (putQ q j k) := by
  have hm := many_lt h hj hn
  have hnot : ∀ i, i < q.many → q.heap i ≠ j := fun i hi e => by have := (h.at_ i hi).2; rw [e] at this; omega
  refine ⟨⟨by show q.many + 1 ≤ 64; omega, ?_, ?_⟩, ⟨by show q.many < q.many + 1; omega, Nat.le_refl _, ?_, ?_⟩⟩
  · intro i hi
    have hi' : i < q.many + 1 := hi
    show upd q.heap q.many j i < 64 ∧ upd q.place j (q.many + 1) (upd q.heap q.many j i) = i + 1
    by_cases e : i = q.many
    · subst e; rw [upd_same, upd_same]; exact ⟨hj, rfl⟩
    · rw [upd_ne _ _ _ _ e, upd_ne _ _ _ _ (hnot i (by omega))]
      exact h.at_ i (by omega)
  · intro l hl
    have ol := h.of_ l hl
    show upd q.place j (q.many + 1) l ≤ q.many + 1 ∧ (0 < upd q.place j (q.many + 1) l → upd q.heap q.many j (upd q.place j (q.many + 1) l - 1) = l)
    by_cases e : l = j
    · subst e; rw [upd_same]; exact ⟨Nat.le_refl _, fun _ => by rw [show q.many + 1 - 1 = q.many by omega, upd_same]⟩
    · rw [upd_ne _ _ _ _ e]
      refine ⟨by omega, fun hp => ?_⟩
      rw [upd_ne _ _ _ _ (by omega)]
      exact ol.2 hp
  · intro i h1 h2 h3 _
    have h2' : i < q.many + 1 := h2
    have o := hF i h1 (by omega)
    have n1 := hnot i (by omega)
    have n2 := hnot ((i - 1) / 2) (by omega)
    unfold ord ah at *
    show ¬ (upd q.keys j k (upd q.heap q.many j i) < upd q.keys j k (upd q.heap q.many j ((i - 1) / 2)) ∨ upd q.keys j k (upd q.heap q.many j i) = upd q.keys j k (upd q.heap q.many j ((i - 1) / 2)) ∧ upd q.heap q.many j i < upd q.heap q.many j ((i - 1) / 2))
    rw [upd_ne q.heap _ _ i h3, upd_ne q.heap _ _ ((i - 1) / 2) (by omega), upd_ne _ _ _ _ n1, upd_ne _ _ _ _ n2]
    exact o
  · intro c h1 h2 h3 _
    have h2' : c < q.many + 1 := h2
    omega
theorem put_end {m : Nat} {q : Q} (h : DI m q) (hm : q.many = m + 1) : Full q := fun i h1 h2 => h.ok i h1 h2 (by omega)
def cutQ (q : Q) (j : Nat) : Q := { many := q.many - 1, heap := upd q.heap (q.many - 1) 0, place := upd q.place j 0, keys := upd q.keys j 0 }
theorem cut_last {q : Q} (h : Okp q) (hF : Full q) {j : Nat} (hj : j < 64) (hp : 0 < q.place j) (e : q.heap (q.many - 1) = j) :
    Okp (cutQ q j) ∧ Full (cutQ q j) := by
  have oj := h.of_ j hj
  have hpl : q.place j = q.many := by
    have := (h.at_ (q.many - 1) (by omega)).2; rw [e] at this; omega
  have hnot : ∀ i, i < q.many - 1 → q.heap i ≠ j := fun i hi e => by have := (h.at_ i (by omega)).2; rw [e] at this; omega
  refine ⟨⟨by show q.many - 1 ≤ 64; have := h.le; omega, ?_, ?_⟩, ?_⟩
  · intro i hi
    have hi' : i < q.many - 1 := hi
    show upd q.heap (q.many - 1) 0 i < 64 ∧ upd q.place j 0 (upd q.heap (q.many - 1) 0 i) = i + 1
    rw [upd_ne _ _ _ _ (by omega), upd_ne _ _ _ _ (hnot i hi')]
    exact h.at_ i (by omega)
  · intro l hl
    have ol := h.of_ l hl
    show upd q.place j 0 l ≤ q.many - 1 ∧ (0 < upd q.place j 0 l → upd q.heap (q.many - 1) 0 (upd q.place j 0 l - 1) = l)
    by_cases e1 : l = j
    · subst e1; rw [upd_same]; exact ⟨Nat.zero_le _, fun k => absurd k (by omega)⟩
    · rw [upd_ne _ _ _ _ e1]
      have hne : 0 < q.place l → q.place l - 1 ≠ q.many - 1 := fun k k' => by have := ol.2 k; rw [k', e] at this; exact e1 this.symm
      refine ⟨by omega, fun k => ?_⟩
      rw [upd_ne _ _ _ _ (hne k)]
      exact ol.2 k
  · intro i h1 h2
    have h2' : i < q.many - 1 := h2
    have o := hF i h1 (by omega)
    have n1 := hnot i (by omega)
    have n2 := hnot ((i - 1) / 2) (by omega)
    unfold ord ah at *
    show ¬ (upd q.keys j 0 (upd q.heap (q.many - 1) 0 i) < upd q.keys j 0 (upd q.heap (q.many - 1) 0 ((i - 1) / 2)) ∨ upd q.keys j 0 (upd q.heap (q.many - 1) 0 i) = upd q.keys j 0 (upd q.heap (q.many - 1) 0 ((i - 1) / 2)) ∧ upd q.heap (q.many - 1) 0 i < upd q.heap (q.many - 1) 0 ((i - 1) / 2))
    rw [upd_ne q.heap _ _ i (by omega), upd_ne q.heap _ _ ((i - 1) / 2) (by omega), upd_ne _ _ _ _ n1, upd_ne _ _ _ _ n2]
    exact o
theorem cut_ok {q : Q} (h : Okp q) (hF : Full q) {j : Nat} (hj : j < 64) (hp : 0 < q.place j) (e : q.heap (q.many - 1) ≠ j) :
    Okp (set (cutQ q j) (q.place j - 1) (q.heap (q.many - 1))) ∧ RI (q.place j - 1) (q.place j - 1) (set (cutQ q j) (q.place j - 1) (q.heap (q.many - 1))) := by
  have oj := h.of_ j hj
  have ja := oj.2 hp
  obtain ⟨x, hx⟩ : ∃ x, x = q.place j - 1 := ⟨_, rfl⟩
  obtain ⟨t, ht⟩ : ∃ t, t = q.heap (q.many - 1) := ⟨_, rfl⟩
  rw [← hx] at ja ⊢
  rw [← ht] at e ⊢
  have al := h.at_ (q.many - 1) (by omega)
  rw [← ht] at al
  have hxm : x < q.many - 1 := by
    by_cases k : x = q.many - 1
    · rw [k, ← ht] at ja; exact absurd ja e
    · omega
  have hpj : q.place j = x + 1 := by omega
  have hnotj : ∀ i, i < q.many → i ≠ x → q.heap i ≠ j := fun i hi hn k => by have := (h.at_ i hi).2; rw [k] at this; omega
  have hnott : ∀ i, i < q.many - 1 → q.heap i ≠ t := fun i hi k => by have := (h.at_ i (by omega)).2; rw [k] at this; omega
  have hh : ∀ i, i < q.many - 1 → (set (cutQ q j) x t).heap i = if i = x then t else q.heap i := by
    intro i hi
    show upd (upd q.heap (q.many - 1) 0) x t i = _
    by_cases k : i = x
    · rw [if_pos k, k, upd_same]
    · rw [if_neg k, upd_ne _ _ _ _ k, upd_ne _ _ _ _ (by omega)]
  have hpl : ∀ l, (set (cutQ q j) x t).place l = if l = t then x + 1 else if l = j then 0 else q.place l := fun l => rfl
  have hk : ∀ i, i < q.many - 1 → i ≠ x → (set (cutQ q j) x t).keys (q.heap i) = q.keys (q.heap i) := fun i hi hn => upd_ne _ _ _ _ (hnotj i (by omega) hn)
  refine ⟨⟨by show q.many - 1 ≤ 64; have := h.le; omega, ?_, ?_⟩, ⟨hxm, Nat.le_refl _, ?_, ?_⟩⟩
  · intro i hi
    have hi' : i < q.many - 1 := hi
    rw [hpl, hh i hi']
    by_cases k : i = x
    · rw [if_pos k, if_pos rfl]; exact ⟨al.1, by rw [k]⟩
    · rw [if_neg k, if_neg (hnott i hi'), if_neg (hnotj i (by omega) k)]
      exact h.at_ i (by omega)
  · intro l hl
    have ol := h.of_ l hl
    rw [hpl]
    show _ ≤ q.many - 1 ∧ _
    by_cases k1 : l = t
    · rw [if_pos k1]
      refine ⟨by omega, fun _ => ?_⟩
      rw [hh (x + 1 - 1) (by omega), if_pos (by omega), k1]
    · rw [if_neg k1]
      by_cases k2 : l = j
      · rw [if_pos k2]; exact ⟨Nat.zero_le _, fun k => absurd k (by omega)⟩
      · rw [if_neg k2]
        have hne : 0 < q.place l → q.place l - 1 ≠ q.many - 1 := fun k k' => by have := ol.2 k; rw [k', ← ht] at this; exact k1 this.symm
        have hne2 : 0 < q.place l → q.place l - 1 ≠ x := fun k k' => by have := ol.2 k; rw [k', ja] at this; exact k2 this.symm
        refine ⟨by omega, fun k => ?_⟩
        rw [hh _ (by have := hne k; omega), if_neg (hne2 k)]
        exact ol.2 k
  · intro i h1 h2 h3 h4
    have h2' : i < q.many - 1 := h2
    have h4' := h4 rfl
    have o := hF i h1 (by omega)
    unfold ord ah at *
    rw [hh i h2', hh ((i - 1) / 2) (by omega), if_neg h3, if_neg h4', hk i h2' h3, hk ((i - 1) / 2) (by omega) h4']
    exact o
  · intro c h1 h2 h3 h4
    have h2' : c < q.many - 1 := h2
    have o1 := hF c h1 (by omega)
    have o2 := hF x h4 (by omega)
    have o3 := nah_trans o1 (by unfold ord at o2; rw [h3]; exact o2)
    unfold ah at *
    rw [hh c h2', hh ((x - 1) / 2) (by omega), if_neg (by omega), if_neg (by omega), hk c h2' (by omega), hk ((x - 1) / 2) (by omega) (by omega)]
    exact o3
end Hp
end Go.Proofs.YtghogbngmcolmaaGreat.Fa
namespace Go.Proofs.YtghogbngmcolmaaGreat.Fa
open Go.RowKit
open Hp (Q)
def enc (q : Q) : Array Value := #[.int .i64 q.many] ++ ((List.range 64).map fun i => Value.int .i64 (q.heap i)).toArray ++ ((List.range 64).map fun i => Value.int .i64 (q.place i)).toArray ++ ((List.range 64).map fun i => Value.int .u64 (q.keys i)).toArray
theorem enc_size (q : Q) : (enc q).size = 193 := by simp [enc]
theorem enc_many (q : Q) : (enc q)[0]? = some (.int .i64 q.many) := by simp [enc]
theorem enc_heap (q : Q) (i : Nat) (h : i < 64) : (enc q)[1 + i]? = some (.int .i64 (q.heap i)) := by
  unfold enc
  rw [Array.getElem?_append_left (by simp; omega), Array.getElem?_append_left (by simp; omega), Array.getElem?_append_right (by simp)]
  simp [h]
theorem enc_place (q : Q) (i : Nat) (h : i < 64) : (enc q)[65 + i]? = some (.int .i64 (q.place i)) := by
  unfold enc
  rw [Array.getElem?_append_left (by simp; omega), Array.getElem?_append_right (by simp)]
  simp [h]
theorem enc_keys (q : Q) (i : Nat) (h : i < 64) : (enc q)[129 + i]? = some (.int .u64 (q.keys i)) := by
  unfold enc
  rw [Array.getElem?_append_right (by simp)]
  simp [h]
theorem enc_ext (q : Q) (c : Array Value) (hs : c.size = 193) (h0 : c[0]? = some (.int .i64 q.many)) (h1 : ∀ i, i < 64 → c[1 + i]? = some (.int .i64 (q.heap i))) (h2 : ∀ i, i < 64 → c[65 + i]? = some (.int .i64 (q.place i)))
    (h3 : ∀ i, i < 64 → c[129 + i]? = some (.int .u64 (q.keys i))) : c = enc q := by
  apply Array.ext_getElem?
  intro j
  rcases Nat.lt_or_ge j 1 with hj | hj
  · obtain rfl : j = 0 := by omega
    rw [h0, enc_many]
  · rcases Nat.lt_or_ge j 65 with hj1 | hj1
    · obtain ⟨i, rfl⟩ : ∃ i, j = 1 + i := ⟨j - 1, by omega⟩
      rw [h1 i (by omega), enc_heap q i (by omega)]
    · rcases Nat.lt_or_ge j 129 with hj2 | hj2
      · obtain ⟨i, rfl⟩ : ∃ i, j = 65 + i := ⟨j - 65, by omega⟩
        rw [h2 i (by omega), enc_place q i (by omega)]
      · rcases Nat.lt_or_ge j 193 with hj3 | hj3
        · obtain ⟨i, rfl⟩ : ∃ i, j = 129 + i := ⟨j - 129, by omega⟩
          rw [h3 i (by omega), enc_keys q i (by omega)]
        · rw [Array.getElem?_eq_none (by omega), Array.getElem?_eq_none (by rw [enc_size]; omega)]
def At (w : World) (b o : Nat) (q : Q) : Prop := ∃ C T, w.heap[b]? = some (.cells C T (0, 0)) ∧ ∀ i, i < 193 → C[o + i]? = (enc q)[i]?
structure Only (b o : Nat) (w w' : World) : Prop where
  os : w'.os = w.os
  tape : w'.tape = w.tape
  output : w'.output = w.output
  size : w'.heap.size = w.heap.size
  block : ∀ k, k ≠ b → w'.heap[k]? = w.heap[k]?
  rest : ∀ C T, w.heap[b]? = some (.cells C T (0, 0)) → ∃ C', w'.heap[b]? = some (.cells C' T (0, 0)) ∧ C'.size = C.size ∧ ∀ i, i < o ∨ o + 193 ≤ i → C'[i]? = C[i]?
theorem Only.refl (b o : Nat) (w : World) : Only b o w w := ⟨rfl, rfl, rfl, rfl, fun _ _ => rfl, fun C _ h => ⟨C, h, rfl, fun _ _ => rfl⟩⟩
theorem Only.trans {b o : Nat} {u v w : World} (h : Only b o u v) (k : Only b o v w) : Only b o u w := ⟨k.os.trans h.os, k.tape.trans h.tape, k.output.trans h.output, k.size.trans h.size, fun i hi => (k.block i hi).trans (h.block i hi), fun C T hC => by
  obtain ⟨C1, h1, h2, h3⟩ := h.rest C T hC
  obtain ⟨C2, k1, k2, k3⟩ := k.rest C1 T h1
  exact ⟨C2, k1, k2.trans h2, fun i hi => (k3 i hi).trans (h3 i hi)⟩⟩
theorem Only.drew (b o : Nat) (w : World) : Only b o w w.drew := ⟨rfl, rfl, rfl, rfl, fun _ _ => rfl, fun C _ h => ⟨C, h, rfl, fun _ _ => rfl⟩⟩
theorem Only.drewN (b o : Nat) (w : World) (n : Nat) : Only b o w (w.drewN n) := ⟨rfl, rfl, rfl, rfl, fun _ _ => rfl, fun C _ h => ⟨C, h, rfl, fun _ _ => rfl⟩⟩
theorem blk_set {w : World} {b : Nat} {C : Array Value} {T : TypeId} (h : w.heap[b]? = some (.cells C T (0, 0))) (i : Nat) (v : Value) : (w.setCell ⟨b, i, none⟩ v).heap[b]? = some (.cells (C.setIfInBounds i v) T (0, 0)) := by
  simp [World.setCell, Array.getElem?_modify, h]
theorem Only.setCell (b o : Nat) (w : World) (i : Nat) (v : Value) (hi : o ≤ i ∧ i < o + 193) : Only b o w (w.setCell ⟨b, i, none⟩ v) :=
  ⟨rfl, rfl, rfl, by simp [World.setCell], fun k hk => Below.heap_setCell _ _ _ _ hk, fun C T h => ⟨_, blk_set h i v, by simp, fun j hj => by rw [Array.getElem?_setIfInBounds_ne (by omega)]⟩⟩
section
variable {w : World} {b o : Nat} {q : Q}
theorem At.drewN (h : At w b o q) (n : Nat) : At (w.drewN n) b o q := h
theorem At.cell (h : At w b o q) (i : Nat) (hi : i < 193) : w.cell? ⟨b, o + i, none⟩ = (enc q)[i]? := by
  obtain ⟨C, T, h1, h2⟩ := h
  rw [← h2 i hi]
  simp [World.cell?, h1]
theorem At.many (h : At w b o q) : w.cell? ⟨b, o, none⟩ = some (.int .i64 q.many) := by have := h.cell 0 (by omega); rw [enc_many] at this; exact this
theorem At.heap (h : At w b o q) (i : Nat) (hi : i < 64) : w.cell? ⟨b, o + 1 + i, none⟩ = some (.int .i64 (q.heap i)) := by rw [Nat.add_assoc, h.cell _ (by omega), enc_heap q i hi]
theorem At.place (h : At w b o q) (i : Nat) (hi : i < 64) : w.cell? ⟨b, o + 65 + i, none⟩ = some (.int .i64 (q.place i)) := by rw [Nat.add_assoc, h.cell _ (by omega), enc_place q i hi]
theorem At.keys (h : At w b o q) (i : Nat) (hi : i < 64) : w.cell? ⟨b, o + 129 + i, none⟩ = some (.int .u64 (q.keys i)) := by rw [Nat.add_assoc, h.cell _ (by omega), enc_keys q i hi]
theorem At.frozen (h : At w b o q) (i : Nat) : w.frozen? ⟨b, i, none⟩ = false := by
  obtain ⟨C, T, h1, h2⟩ := h
  simp [World.frozen?, h1]
theorem At.set (h : At w b o q) (j : Nat) (v : Value) (q' : Q) (hj : j < 193) (he : (enc q).setIfInBounds j v = enc q') : At (w.setCell ⟨b, o + j, none⟩ v) b o q' := by
  obtain ⟨C, T, h1, h2⟩ := h
  refine ⟨_, T, blk_set h1 _ _, fun i hi => ?_⟩
  rw [← he]
  have hs : o + i < C.size := by
    have := h2 i hi
    have hi2 : i < (enc q).size := by rw [enc_size]; exact hi
    exact (Array.getElem?_eq_some_iff.1 (this.trans (Array.getElem?_eq_getElem hi2))).1
  by_cases e : i = j
  · subst e
    rw [Array.getElem?_setIfInBounds_self_of_lt hs, Array.getElem?_setIfInBounds_self_of_lt (by rw [enc_size]; exact hi)]
  · rw [Array.getElem?_setIfInBounds_ne (by omega), Array.getElem?_setIfInBounds_ne (by omega)]
    exact h2 i hi
theorem At.setMany (h : At w b o q) (n : Nat) : At (w.setCell ⟨b, o, none⟩ (.int .i64 n)) b o { q with many := n } := by
  refine h.set 0 _ _ (by omega) (enc_ext _ _ (by simp [enc_size]) ?_ ?_ ?_ ?_)
  · rw [Array.getElem?_setIfInBounds_self_of_lt (by rw [enc_size]; omega)]
  · intro i hi; rw [Array.getElem?_setIfInBounds_ne (by omega), enc_heap q i hi]
  · intro i hi; rw [Array.getElem?_setIfInBounds_ne (by omega), enc_place q i hi]
  · intro i hi; rw [Array.getElem?_setIfInBounds_ne (by omega), enc_keys q i hi]
theorem At.setHeap (h : At w b o q) (x n : Nat) (hx : x < 64) : At (w.setCell ⟨b, o + 1 + x, none⟩ (.int .i64 n)) b o { q with heap := Hp.upd q.heap x n } := by
  rw [Nat.add_assoc]
  refine h.set (1 + x) _ _ (by omega) (enc_ext _ _ (by simp [enc_size]) ?_ ?_ ?_ ?_)
  · rw [Array.getElem?_setIfInBounds_ne (by omega), enc_many]
  · intro i hi
    show _ = some (Value.int .i64 ((Hp.upd q.heap x n i : Nat) : Int))
    by_cases e : i = x
    · subst e; rw [Array.getElem?_setIfInBounds_self_of_lt (by rw [enc_size]; omega), Hp.upd_same]
    · rw [Array.getElem?_setIfInBounds_ne (by omega), enc_heap q i hi, Hp.upd_ne _ _ _ _ e]
  · intro i hi; rw [Array.getElem?_setIfInBounds_ne (by omega), enc_place q i hi]
  · intro i hi; rw [Array.getElem?_setIfInBounds_ne (by omega), enc_keys q i hi]
theorem At.setPlace (h : At w b o q) (x n : Nat) (hx : x < 64) : At (w.setCell ⟨b, o + 65 + x, none⟩ (.int .i64 n)) b o { q with place := Hp.upd q.place x n } := by
  rw [Nat.add_assoc]
  refine h.set (65 + x) _ _ (by omega) (enc_ext _ _ (by simp [enc_size]) ?_ ?_ ?_ ?_)
  · rw [Array.getElem?_setIfInBounds_ne (by omega), enc_many]
  · intro i hi; rw [Array.getElem?_setIfInBounds_ne (by omega), enc_heap q i hi]
  · intro i hi
    show _ = some (Value.int .i64 ((Hp.upd q.place x n i : Nat) : Int))
    by_cases e : i = x
    · subst e; rw [Array.getElem?_setIfInBounds_self_of_lt (by rw [enc_size]; omega), Hp.upd_same]
    · rw [Array.getElem?_setIfInBounds_ne (by omega), enc_place q i hi, Hp.upd_ne _ _ _ _ e]
  · intro i hi; rw [Array.getElem?_setIfInBounds_ne (by omega), enc_keys q i hi]
theorem At.setKeys (h : At w b o q) (x n : Nat) (hx : x < 64) : At (w.setCell ⟨b, o + 129 + x, none⟩ (.int .u64 n)) b o { q with keys := Hp.upd q.keys x n } := by
  rw [Nat.add_assoc]
  refine h.set (129 + x) _ _ (by omega) (enc_ext _ _ (by simp [enc_size]) ?_ ?_ ?_ ?_)
  · rw [Array.getElem?_setIfInBounds_ne (by omega), enc_many]
  · intro i hi; rw [Array.getElem?_setIfInBounds_ne (by omega), enc_heap q i hi]
  · intro i hi; rw [Array.getElem?_setIfInBounds_ne (by omega), enc_place q i hi]
  · intro i hi
    show _ = some (Value.int .u64 ((Hp.upd q.keys x n i : Nat) : Int))
    by_cases e : i = x
    · subst e; rw [Array.getElem?_setIfInBounds_self_of_lt (by rw [enc_size]; omega), Hp.upd_same]
    · rw [Array.getElem?_setIfInBounds_ne (by omega), enc_keys q i hi, Hp.upd_ne _ _ _ _ e]
end
def bnd (j : Int) : Bool := decide (0 ≤ j ∧ j < 64)
theorem bnd_true {j : Int} (h : 0 ≤ j) (h2 : j < 64) : bnd j = true := decide_eq_true ⟨h, h2⟩
theorem bnd_false {j : Int} (h : j < 0 ∨ 64 ≤ j) : bnd j = false := decide_eq_false (by omega)
theorem ret_bool {a b : Bool} (h : a = b) : Ending.returned (.bool a) = .returned (.bool b) := by rw [h]
set_option maxHeartbeats 400000 in
theorem bounded_any (j : Int) (w : World) : Calls Tryz.prog 163 #[.int .i64 j] w fun e w' => e = .returned (.bool (bnd j)) ∧ w' = w := by
  by_cases h : 0 ≤ j
  · by_cases h2 : j < 64
    · go_enter Tryz.func163, Tryz.ntmps163
      go_wp2
      go_ret
      exact ⟨ret_bool (bnd_true h h2).symm, rfl⟩
    · go_enter Tryz.func163, Tryz.ntmps163
      go_wp2
      go_ret
      exact ⟨ret_bool (bnd_false (by omega)).symm, rfl⟩
  · go_enter Tryz.func163, Tryz.ntmps163
    go_wp2
    go_ret
    exact ⟨ret_bool (bnd_false (by omega)).symm, rfl⟩
def isin (q : Q) (j : Nat) : Bool := decide (0 < q.place j)
set_option maxHeartbeats 400000 in
theorem has_any (b o j : Nat) (q : Q) (w : World) (h : At w b o q) (hj : j < 64) : Calls Tryz.prog 164 #[.pointer (some ⟨b, o, none⟩), .int .i64 j] w fun e w' => e = .returned (.bool (isin q j)) ∧ w' = w := by
  have hc := h.place j hj
  have hlt : (j : Int) < 64 := by omega
  clear h
  go_enter Tryz.func164, Tryz.ntmps164
  go_wp2
  go_ret
  exact ⟨ret_bool (by simp [isin]), rfl⟩
set_option maxHeartbeats 400000 in
theorem set_any (b o x j : Nat) (q : Q) (w : World) (h : At w b o q) (hx : x < 64) (hj : j < 64) : Calls Tryz.prog 159 #[.pointer (some ⟨b, o, none⟩), .int .i64 x, .int .i64 j] w fun e w' => e = .returned (.tuple #[]) ∧ At w' b o (Hp.set q x j) ∧ Only b o w w' := by
  have hc := h.heap x hx
  have hc2 := h.place j hj
  have hf := h.frozen
  have hlt : (j : Int) < 64 := by omega
  have hlt2 : (x : Int) < 64 := by omega
  have H : Hid (At w b o q) := h
  clear h
  go_enter Tryz.func159, Tryz.ntmps159
  go_wp2
  go_end0
  exact ⟨rfl, (H.out.setHeap x j hx).setPlace j (x + 1) hj, (Only.setCell _ _ _ _ _ (by omega)).trans (Only.setCell _ _ _ _ _ (by omega))⟩
def ahB (q : Q) (x y : Nat) : Bool := decide (q.keys (q.heap x) < q.keys (q.heap y) ∨ (q.keys (q.heap x) = q.keys (q.heap y) ∧ q.heap x < q.heap y))
theorem ahB_iff (q : Q) (x y : Nat) : ahB q x y = true ↔ Hp.ah q.keys (q.heap x) (q.heap y) := by simp [ahB, Hp.ah]
set_option maxHeartbeats 400000 in
theorem ahead_any (b o x y : Nat) (q : Q) (w : World) (h : At w b o q) (hx : x < 64) (hy : y < 64) (hhx : q.heap x < 64) (hhy : q.heap y < 64) :
    Calls Tryz.prog 166 #[.pointer (some ⟨b, o, none⟩), .int .i64 x, .int .i64 y] w fun e w' => e = .returned (.bool (ahB q x y)) ∧ ∃ n, w' = w.drewN n := by
  have c1 := h.heap x hx
  have c2 := h.heap y hy
  have c3 := h.keys _ hhx
  have c4 := h.keys _ hhy
  have l1 : (x : Int) < 64 := by omega
  have l2 : (y : Int) < 64 := by omega
  have hA : ∀ r : Bool, (r = true ↔ Hp.ah q.keys (q.heap x) (q.heap y)) → r = ahB q x y := fun r hr => by rw [Bool.eq_iff_iff, hr, ahB_iff]
  clear h
  generalize hX : q.heap x = X at *
  generalize hY : q.heap y = Y at *
  generalize hKX : q.keys X = KX at *
  generalize hKY : q.keys Y = KY at *
  have l3 : (X : Int) < 64 := by omega
  have l4 : (Y : Int) < 64 := by omega
  have HA : Hid (∀ r : Bool, (r = true ↔ Hp.ah q.keys X Y) → r = ahB q x y) := hA
  have HKX : Hid (q.keys X = KX) := hKX
  have HKY : Hid (q.keys Y = KY) := hKY
  clear hA hX hY hKX hKY
  by_cases k1 : KX < KY
  · have d1 : decide ((KX : Int) < (KY : Int)) = true := by simp; omega
    go_enter Tryz.func166, Tryz.ntmps166
    go_wp2
    go_quiet (fail)
    go_wp2
    go_quiet (fail)
    go_wp2
    go_ret
    refine ⟨ret_bool (HA.out _ ?_), _, World.drewN_drewN _ _ _⟩
    unfold Hp.ah; rw [HKX.out, HKY.out]; simp; omega
  · have d1 : decide ((KX : Int) < (KY : Int)) = false := by simp; omega
    by_cases k2 : KX = KY
    · have d2 : ((KX : Int) == (KY : Int)) = true := by simp; omega
      go_enter Tryz.func166, Tryz.ntmps166
      go_wp2
      go_quiet (fail)
      go_wp2
      go_quiet (fail)
      go_wp2
      go_ret
      refine ⟨ret_bool (HA.out _ ?_), _, World.drewN_drewN _ _ _⟩
      unfold Hp.ah; rw [HKX.out, HKY.out]; simp; omega
    · have d2 : ((KX : Int) == (KY : Int)) = false := by simp; omega
      go_enter Tryz.func166, Tryz.ntmps166
      go_wp2
      go_quiet (fail)
      go_wp2
      go_quiet (fail)
      go_wp2
      go_ret
      refine ⟨ret_bool (HA.out _ ?_), _, World.drewN_drewN _ _ _⟩
      unfold Hp.ah; rw [HKX.out, HKY.out]; simp; omega
end Go.Proofs.YtghogbngmcolmaaGreat.Fa
namespace Go.Proofs.YtghogbngmcolmaaGreat.Fa
open Go.RowKit
open Hp (Q)
set_option maxHeartbeats 400000 in
theorem swap_any (b o x y : Nat) (q : Q) (w : World) (h : At w b o q) (hx : x < 64) (hy : y < 64) (hhx : q.heap x < 64) (hhy : q.heap y < 64) :
    Calls Tryz.prog 167 #[.pointer (some ⟨b, o, none⟩), .int .i64 x, .int .i64 y] w fun e w' => e = .returned (.tuple #[]) ∧ At w' b o (Hp.swap q x y) ∧ Only b o w w' := by
  have c1 := h.heap x hx
  have c2 := h.heap y hy
  have l1 : (x : Int) < 64 := by omega
  have l2 : (y : Int) < 64 := by omega
  have H : Hid (At w b o q) := h
  have HX : Hid (q.heap x < 64) := hhx
  have HY : Hid (q.heap y < 64) := hhy
  clear h hhx hhy
  go_enter Tryz.func167, Tryz.ntmps167
  go_wp2
  go_quiet (fail)
  go_wp2_with fail
  refine (set_any b o x (q.heap y) q _ (H.out.drewN _) hx HY.out).mono ?_
  rintro e w1 ⟨rfl, h1, o1⟩
  have H1 : Hid (At w1 b o (Hp.set q x (q.heap y))) := h1
  have O1 : Hid (Only b o (w.drewN nq) w1) := o1
  clear h1 o1
  go_wp2_with fail
  refine (set_any b o y (q.heap x) _ _ H1.out hy HX.out).mono ?_
  rintro e w2 ⟨rfl, h2, o2⟩
  go_wp2_with fail
  go_end0
  exact ⟨rfl, h2, ((Only.drewN b o w nq).trans O1.out).trans o2⟩
theorem ahead_i (b o : Nat) (x y : Int) (q : Q) (w : World) (h : At w b o q) (x0 : 0 ≤ x) (x1 : x < 64) (y0 : 0 ≤ y) (y1 : y < 64) (hhx : q.heap x.toNat < 64) (hhy : q.heap y.toNat < 64) :
    Calls Tryz.prog 166 #[.pointer (some ⟨b, o, none⟩), .int .i64 x, .int .i64 y] w fun e w' => e = .returned (.bool (ahB q x.toNat y.toNat)) ∧ ∃ n, w' = w.drewN n := by
  obtain ⟨x, rfl⟩ := Int.eq_ofNat_of_zero_le x0
  obtain ⟨y, rfl⟩ := Int.eq_ofNat_of_zero_le y0
  exact ahead_any b o x y q w h (by omega) (by omega) hhx hhy
theorem swap_i (b o : Nat) (x y : Int) (q : Q) (w : World) (h : At w b o q) (x0 : 0 ≤ x) (x1 : x < 64) (y0 : 0 ≤ y) (y1 : y < 64) (hhx : q.heap x.toNat < 64) (hhy : q.heap y.toNat < 64) :
    Calls Tryz.prog 167 #[.pointer (some ⟨b, o, none⟩), .int .i64 x, .int .i64 y] w fun e w' => e = .returned (.tuple #[]) ∧ At w' b o (Hp.swap q x.toNat y.toNat) ∧ Only b o w w' := by
  obtain ⟨x, rfl⟩ := Int.eq_ofNat_of_zero_le x0
  obtain ⟨y, rfl⟩ := Int.eq_ofNat_of_zero_le y0
  exact swap_any b o x y q w h (by omega) (by omega) hhx hhy
set_option maxHeartbeats 400000 in
theorem rise_any (b o a : Nat) (q : Q) (w : World) (h : At w b o q) (ho : Hp.Okp q) (hr : Hp.RI a a q) :
    Calls Tryz.prog 160 #[.pointer (some ⟨b, o, none⟩), .int .i64 a] w fun e w' => e = .returned (.tuple #[]) ∧ Only b o w w' ∧ ∃ q', At w' b o q' ∧ Hp.Okp q' ∧ Hp.Same q q' ∧ Hp.DI a q' := by
  have hlt0 := hr.lt
  have hle0 := ho.le
  go_enter Tryz.func160, Tryz.ntmps160
  go_wp2
  go_loopw [1] (fun i wr => ∃ (p : Nat) (q' : Q), i = .int .i64 p ∧ p < 64 ∧ Hid (Only b o w wr ∧ At wr b o q' ∧ Hp.Okp q' ∧ Hp.Same q q' ∧ Hp.RI a p q')) (fun i _ => (intOf i).toNat)
  case atStart => exact ⟨a, q, rfl, by omega, Only.refl _ _ _, h, ho, Hp.Same.refl q, hr⟩
  case round =>
    clear h ho hr
    obtain ⟨p, q', rfl, hp, H⟩ := hrel
    by_cases h0 : p = 0
    · subst h0
      go_wp2
      go_end0
      obtain ⟨h1, h2, h3, h4, h5⟩ := H.out
      exact ⟨rfl, h1, q', h2, h3, h4, Hp.rise_end h5 (.inl rfl)⟩
    · have hp0 : (0 : Int) < (p : Int) := by omega
      have hpn : 0 < p := by omega
      have hu64 : (((p : Int) - 1) / 2).toNat = (p - 1) / 2 := by omega
      have HU : Hid ((((p : Int) - 1) / 2).toNat = (p - 1) / 2) := hu64
      have hm : Hid (p < q'.many ∧ (p - 1) / 2 < q'.many) := ⟨H.out.2.2.2.2.lt, by have := H.out.2.2.2.2.lt; omega⟩
      clear hu64
      go_wp2_with fail
      refine (ahead_i b o _ _ q' _ H.out.2.1 (by omega) (by omega) (by omega) (by omega) (by rw [Int.toNat_natCast]; exact (H.out.2.2.1.at_ p hm.out.1).1) (by rw [HU.out]; exact (H.out.2.2.1.at_ _ hm.out.2).1)).mono ?_
      rintro e w1 ⟨rfl, n1, rfl⟩
      rw [HU.out, Int.toNat_natCast]
      cases hah : ahB q' p ((p - 1) / 2)
      · have HN : Hid (ahB q' p ((p - 1) / 2) = false) := hah
        clear hah
        go_wp2_with fail
        refine bodyPost_ret (results_none rfl _ _ _) rfl ?_
        obtain ⟨h1, h2, h3, h4, h5⟩ := H.out
        refine ⟨rfl, h1.trans (Only.drewN b o _ _), q', h2.drewN _, h3, h4, Hp.rise_end h5 (.inr fun k => ?_)⟩
        have := (ahB_iff _ _ _).2 k
        rw [HN.out] at this
        cases this
      · have HN : Hid (ahB q' p ((p - 1) / 2) = true) := hah
        clear hah
        go_wp2_with fail
        refine (swap_i b o _ _ q' _ (H.out.2.1.drewN _) (by omega) (by omega) (by omega) (by omega) (by rw [Int.toNat_natCast]; exact (H.out.2.2.1.at_ p hm.out.1).1) (by rw [HU.out]; exact (H.out.2.2.1.at_ _ hm.out.2).1)).mono ?_
        rintro e w2 ⟨rfl, h2, o2⟩
        rw [HU.out, Int.toNat_natCast] at h2
        have H2 : Hid _ := h2
        have O2 : Hid _ := o2
        clear h2 o2
        go_wp2_with fail
        go_roundw
        case rel =>
          obtain ⟨h1, h2, h3, h4, h5⟩ := H.out
          have sw := Hp.swap_ok h3 hm.out.1 hm.out.2
          exact ⟨(p - 1) / 2, _, by rw [show ((p : Int) - 1) / 2 = (((p - 1) / 2 : Nat) : Int) by omega], by omega, (h1.trans (Only.drewN b o _ _)).trans O2.out, H2.out, sw.1, h4.trans sw.2, Hp.rise_step h5 hpn ((ahB_iff _ _ _).1 HN.out)⟩
        case measure => simp [intOf]; omega
end Go.Proofs.YtghogbngmcolmaaGreat.Fa
namespace Go.Proofs.YtghogbngmcolmaaGreat.Fa
open Go.RowKit
open Hp (Q)
structure LI (q : Q) (p l c : Nat) : Prop where
  lt : l < q.many
  who : l = p ∨ (0 < l ∧ (l - 1) / 2 = p ∧ Hp.ah q.keys (q.heap l) (q.heap p))
  min : ∀ d, 0 < d → d < q.many → (d - 1) / 2 = p → d < c → ¬ Hp.ah q.keys (q.heap d) (q.heap l)
theorem LI.start {q : Q} {p : Nat} (hp : p < q.many) : LI q p p (2 * p + 1) := ⟨hp, .inl rfl, fun d _ _ _ _ => by omega⟩
theorem LI.no {q : Q} {p l c : Nat} (h : LI q p l c) (hn : ¬ Hp.ah q.keys (q.heap c) (q.heap l)) : LI q p l (c + 1) :=
  ⟨h.lt, h.who, fun d h1 h2 h3 h4 => by
    by_cases e : d = c
    · rw [e]; exact hn
    · exact h.min d h1 h2 h3 (by omega)⟩
theorem LI.yes {q : Q} {p l c : Nat} (h : LI q p l c) (hc : c < q.many) (hp : (c - 1) / 2 = p) (h0 : 0 < c) (hy : Hp.ah q.keys (q.heap c) (q.heap l)) : LI q p c (c + 1) := by
  refine ⟨hc, .inr ⟨h0, hp, ?_⟩, fun d h1 h2 h3 h4 => ?_⟩
  · rcases h.who with e | ⟨_, _, e⟩
    · rw [← e]; exact hy
    · unfold Hp.ah at *; omega
  · by_cases e : d = c
    · rw [e]; unfold Hp.ah; omega
    · have := h.min d h1 h2 h3 (by omega)
      exact Hp.nah_trans this (Hp.ah_asymm hy)
set_option maxHeartbeats 1000000 in
theorem sink_any (b o a : Nat) (q : Q) (w : World) (h : At w b o q) (ho : Hp.Okp q) (hr : Hp.DI a q) (ha : a < q.many) :
    Calls Tryz.prog 161 #[.pointer (some ⟨b, o, none⟩), .int .i64 a] w fun e w' => e = .returned (.tuple #[]) ∧ Only b o w w' ∧ ∃ q', At w' b o q' ∧ Hp.Okp q' ∧ Hp.Same q q' ∧ Hp.Full q' := by
  have hle0 := ho.le
  obtain ⟨M, hM⟩ : ∃ M, q.many = M := ⟨_, rfl⟩
  rw [hM] at hle0 ha
  have HM : Hid (q.many = M) := hM
  clear hM
  go_enter Tryz.func161, Tryz.ntmps161
  go_wp2
  go_loopw [1] (fun i wr => ∃ (p : Nat) (q' : Q), i = .int .i64 p ∧ p < M ∧ Hid (Only b o w wr ∧ At wr b o q' ∧ Hp.Okp q' ∧ Hp.Same q q' ∧ Hp.DI p q')) (fun i _ => 64 - (intOf i).toNat)
  case atStart => exact ⟨a, q, rfl, ha, Only.refl _ _ _, h, ho, Hp.Same.refl q, hr⟩
  case round =>
    clear h ho hr
    obtain ⟨p, q', rfl, hp, H⟩ := hrel
    have hmany : Hid (q'.many = M) := H.out.2.2.2.1.many.trans HM.out
    go_wp2_with fail
    go_loopw [4, 5] (fun l c wq => ∃ (ln cn n : Nat), l = .int .i64 ln ∧ c = .int .i64 cn ∧ ln < M ∧ 2 * p + 1 ≤ cn ∧ cn ≤ 2 * p + 3 ∧ wq = wr.drewN n ∧ Hid (LI q' p ln cn)) (fun _ c _ => 2 * p + 3 - (intOf c).toNat)
    case atStart => exact ⟨p, 2 * p + 1, 0, rfl, by go_num, hp, by omega, by omega, rfl, LI.start (by rw [hmany.out]; exact hp)⟩
    case round =>
      obtain ⟨l, c, n, rfl, rfl, hl, hc1, hc2, rfl, L⟩ := hrel
      have cm : (wr.drewN n).cell? ⟨b, o, none⟩ = some (.int .i64 M) := by rw [← hmany.out]; exact (H.out.2.1.drewN n).many
      by_cases k1 : c ≤ 2 * p + 2
      · have d1 : decide ((c : Int) ≤ 2 * (p : Int) + 2) = true := by simp; omega
        by_cases k2 : c < M
        · have k2' : (c : Int) < (M : Int) := by omega
          go_wp2_with fail
          refine (ahead_i b o _ _ q' _ (H.out.2.1.drewN _) (by omega) (by omega) (by omega) (by omega) (by rw [Int.toNat_natCast]; exact (H.out.2.2.1.at_ c (by rw [hmany.out]; exact k2)).1) (by rw [Int.toNat_natCast]; exact (H.out.2.2.1.at_ l (by rw [hmany.out]; exact hl)).1)).mono ?_
          rintro e w1 ⟨rfl, n1, rfl⟩
          rw [Int.toNat_natCast, Int.toNat_natCast]
          cases hah : ahB q' c l
          · have HN : Hid (ahB q' c l = false) := hah
            clear hah
            go_wp2_with fail
            go_roundw
            case rel => exact ⟨l, c + 1, n + n1, rfl, by go_num, hl, by omega, by omega, by first | rfl | exact World.drewN_drewN _ _ _, L.out.no (fun k => by have := (ahB_iff _ _ _).2 k; rw [HN.out] at this; cases this)⟩
            case measure => simp [intOf]; omega
          · have HN : Hid (ahB q' c l = true) := hah
            clear hah
            go_wp2_with fail
            go_roundw
            case rel => exact ⟨c, c + 1, n + n1, rfl, by go_num, k2, by omega, by omega, by first | rfl | exact World.drewN_drewN _ _ _, L.out.yes (by rw [hmany.out]; exact k2) (by omega) (by omega) ((ahB_iff _ _ _).1 HN.out)⟩
            case measure => simp [intOf]; omega
        · have k2' : ¬ (c : Int) < (M : Int) := by omega
          have fin : Hid (∀ d, 0 < d → d < q'.many → (d - 1) / 2 = p → ¬ Hp.ah q'.keys (q'.heap d) (q'.heap l)) := fun d h1 h2 h3 => L.out.min d h1 h2 h3 (by have := hmany.out; omega)
          by_cases k3 : l = p
          · subst k3
            go_wp2_with fail
            refine bodyPost_ret (results_none rfl _ _ _) rfl ?_
            obtain ⟨h1, h2, h3, h4, h5⟩ := H.out
            exact ⟨rfl, h1.trans (Only.drewN b o _ _), q', h2.drewN _, h3, h4, Hp.sink_end h5 fin.out⟩
          · have k3' : ((l : Int) == (p : Int)) = false := by simp; omega
            go_wp2_with fail
            refine (swap_i b o _ _ q' _ (H.out.2.1.drewN _) (by omega) (by omega) (by omega) (by omega) (by rw [Int.toNat_natCast]; exact (H.out.2.2.1.at_ p (by rw [hmany.out]; exact hp)).1) (by rw [Int.toNat_natCast]; exact (H.out.2.2.1.at_ l (by rw [hmany.out]; exact hl)).1)).mono ?_
            rintro e w2 ⟨rfl, h2, o2⟩
            rw [Int.toNat_natCast, Int.toNat_natCast] at h2
            have H2 : Hid _ := h2
            have O2 : Hid _ := o2
            clear h2 o2
            go_wp2_with fail
            go_roundw
            case rel =>
              obtain ⟨h1, h2, h3, h4, h5⟩ := H.out
              have hpm : p < q'.many := by rw [hmany.out]; exact hp
              have hlm : l < q'.many := by rw [hmany.out]; exact hl
              have sw := Hp.swap_ok h3 hpm hlm
              have who := (L.out.who).resolve_left k3
              exact ⟨l, _, rfl, hl, (h1.trans (Only.drewN b o _ _)).trans O2.out, H2.out, sw.1, h4.trans sw.2, Hp.sink_step h5 who.1 hlm who.2.1 who.2.2 fin.out⟩
            case measure =>
              have who := (L.out.who).resolve_left k3
              simp [intOf]; omega
      · have d1 : decide ((c : Int) ≤ 2 * (p : Int) + 2) = false := by simp; omega
        have fin : Hid (∀ d, 0 < d → d < q'.many → (d - 1) / 2 = p → ¬ Hp.ah q'.keys (q'.heap d) (q'.heap l)) := fun d h1 h2 h3 => L.out.min d h1 h2 h3 (by have := hmany.out; omega)
        by_cases k3 : l = p
        · subst k3
          go_wp2_with fail
          refine bodyPost_ret (results_none rfl _ _ _) rfl ?_
          obtain ⟨h1, h2, h3, h4, h5⟩ := H.out
          exact ⟨rfl, h1.trans (Only.drewN b o _ _), q', h2.drewN _, h3, h4, Hp.sink_end h5 fin.out⟩
        · have k3' : ((l : Int) == (p : Int)) = false := by simp; omega
          go_wp2_with fail
          refine (swap_i b o _ _ q' _ (H.out.2.1.drewN _) (by omega) (by omega) (by omega) (by omega) (by rw [Int.toNat_natCast]; exact (H.out.2.2.1.at_ p (by rw [hmany.out]; exact hp)).1) (by rw [Int.toNat_natCast]; exact (H.out.2.2.1.at_ l (by rw [hmany.out]; exact hl)).1)).mono ?_
          rintro e w2 ⟨rfl, h2, o2⟩
          rw [Int.toNat_natCast, Int.toNat_natCast] at h2
          have H2 : Hid _ := h2
          have O2 : Hid _ := o2
          clear h2 o2
          go_wp2_with fail
          go_roundw
          case rel =>
            obtain ⟨h1, h2, h3, h4, h5⟩ := H.out
            have hpm : p < q'.many := by rw [hmany.out]; exact hp
            have hlm : l < q'.many := by rw [hmany.out]; exact hl
            have sw := Hp.swap_ok h3 hpm hlm
            have who := (L.out.who).resolve_left k3
            exact ⟨l, _, rfl, hl, (h1.trans (Only.drewN b o _ _)).trans O2.out, H2.out, sw.1, h4.trans sw.2, Hp.sink_step h5 who.1 hlm who.2.1 who.2.2 fin.out⟩
          case measure =>
            have who := (L.out.who).resolve_left k3
            simp [intOf]; omega
end Go.Proofs.YtghogbngmcolmaaGreat.Fa
namespace Go.Proofs.YtghogbngmcolmaaGreat.Fa
open Go.RowKit
open Hp (Q)
theorem set_i (b o : Nat) (x j : Int) (q : Q) (w : World) (h : At w b o q) (x0 : 0 ≤ x) (x1 : x < 64) (j0 : 0 ≤ j) (j1 : j < 64) :
    Calls Tryz.prog 159 #[.pointer (some ⟨b, o, none⟩), .int .i64 x, .int .i64 j] w fun e w' => e = .returned (.tuple #[]) ∧ At w' b o (Hp.set q x.toNat j.toNat) ∧ Only b o w w' := by
  obtain ⟨x, rfl⟩ := Int.eq_ofNat_of_zero_le x0
  obtain ⟨j, rfl⟩ := Int.eq_ofNat_of_zero_le j0
  exact set_any b o x j q w h (by omega) (by omega)
theorem rise_i (b o : Nat) (a : Int) (q : Q) (w : World) (h : At w b o q) (ho : Hp.Okp q) (a0 : 0 ≤ a) (hr : Hp.RI a.toNat a.toNat q) :
    Calls Tryz.prog 160 #[.pointer (some ⟨b, o, none⟩), .int .i64 a] w fun e w' => e = .returned (.tuple #[]) ∧ Only b o w w' ∧ ∃ q', At w' b o q' ∧ Hp.Okp q' ∧ Hp.Same q q' ∧ Hp.DI a.toNat q' := by
  obtain ⟨a, rfl⟩ := Int.eq_ofNat_of_zero_le a0
  exact rise_any b o a q w h ho hr
set_option maxHeartbeats 400000 in
theorem put_has (b o j : Nat) (k : Int) (q : Q) (w : World) (h : At w b o q) (hj : j < 64) (hp : 0 < q.place j) :
    Calls Tryz.prog 158 #[.pointer (some ⟨b, o, none⟩), .int .i64 j, .int .u64 k] w fun e w' => e = .returned (.iface 60 (.int .i64 3)) ∧ w' = w := by
  have HB : Hid (bnd (j : Int) = true) := bnd_true (by omega) (by omega)
  have HI : Hid (isin q j = true) := decide_eq_true hp
  have H : Hid (At w b o q) := h
  clear h
  go_enter Tryz.func158, Tryz.ntmps158
  go_wp2_with fail
  refine (bounded_any j _).mono ?_
  rintro e w' ⟨rfl, rfl⟩
  rw [HB.out]
  go_wp2_with fail
  refine (has_any b o j q _ H.out hj).mono ?_
  rintro e w' ⟨rfl, rfl⟩
  rw [HI.out]
  go_wp2
  go_ret
  exact ⟨rfl, rfl⟩
structure Good (w : World) (b o : Nat) (q : Q) : Prop where
  at_ : At w b o q
  ok : Hp.Okp q
  full : Hp.Full q
set_option maxHeartbeats 400000 in
theorem put_new (b o j k : Nat) (q : Q) (w : World) (h : Good w b o q) (hj : j < 64) (hp : q.place j = 0) :
    Calls Tryz.prog 158 #[.pointer (some ⟨b, o, none⟩), .int .i64 j, .int .u64 k] w fun e w' => e = .returned .nilIface ∧ Only b o w w' ∧ ∃ q', Good w' b o q' ∧ q'.many = q.many + 1 ∧ q'.keys = Hp.upd q.keys j k ∧ ∀ i, 0 < q'.place i ↔ (0 < q.place i ∨ i = j) := by
  have HB : Hid (bnd (j : Int) = true) := bnd_true (by omega) (by omega)
  have HI : Hid (isin q j = false) := decide_eq_false (by omega)
  have H : Hid (Good w b o q) := h
  have hm : q.many < 64 := Hp.many_lt h.ok hj hp
  have ck := h.at_.keys j hj
  have cf := h.at_.frozen
  have cm := h.at_.many
  have hjI : (j : Int) < 64 := by omega
  have HP : Hid (q.place j = 0) := hp
  clear h hp
  obtain ⟨m, hmm⟩ : ∃ m, q.many = m := ⟨_, rfl⟩
  rw [hmm] at hm cm
  have HM : Hid (q.many = m) := hmm
  clear hmm
  go_enter Tryz.func158, Tryz.ntmps158
  go_wp2_with fail
  refine (bounded_any j _).mono ?_
  rintro e w' ⟨rfl, rfl⟩
  rw [HB.out]
  go_wp2_with fail
  refine (has_any b o j q _ H.out.at_ hj).mono ?_
  rintro e w' ⟨rfl, rfl⟩
  rw [HI.out]
  go_wp2_with fail
  refine (set_i b o _ _ _ _ (H.out.at_.setKeys j k hj) (by omega) (by omega) (by omega) (by omega)).mono ?_
  rintro e w1 ⟨rfl, h1, o1⟩
  rw [Int.toNat_natCast, Int.toNat_natCast] at h1
  have cm1 : w1.cell? ⟨b, o, none⟩ = some (.int .i64 m) := by rw [← HM.out]; exact h1.many
  have cf1 := h1.frozen
  have H1 : Hid (At w1 b o (Hp.set { q with keys := Hp.upd q.keys j k } m j)) := h1
  have O1 : Hid (Only b o (w'.setCell ⟨b, o + 129 + j, none⟩ (.int .u64 k)) w1) := o1
  clear h1 o1 ck cf cm
  go_wp2_with fail
  have h2 : At (w1.setCell ⟨b, o, none⟩ (.int .i64 ((m : Int) + 1))) b o (Hp.putQ q j k) := by
    have h2 := H1.out.setMany (m + 1)
    have e2 : (({ Hp.set { q with keys := Hp.upd q.keys j k } m j with many := m + 1 } : Q)) = Hp.putQ q j k := by unfold Hp.putQ Hp.set; rw [HM.out]
    rw [e2] at h2
    rw [show ((m : Int) + 1) = ((m + 1 : Nat) : Int) by omega]
    exact h2
  have po := Hp.put_ok (k := k) H.out.ok H.out.full hj HP.out
  rw [HM.out] at po
  refine (rise_i b o _ (Hp.putQ q j k) _ h2 po.1 (by omega) (by rw [Int.toNat_natCast]; exact po.2)).mono ?_
  rintro e w2 ⟨rfl, o2, q', h3, h4, h5, h6⟩
  rw [Int.toNat_natCast] at h6
  have FIN : Hid (Only b o w' w2 ∧ ∃ q', Good w2 b o q' ∧ q'.many = q.many + 1 ∧ q'.keys = Hp.upd q.keys j k ∧ ∀ i, 0 < q'.place i ↔ (0 < q.place i ∨ i = j)) := by
    refine ⟨(((Only.setCell b o _ _ _ (by omega)).trans O1.out).trans (Only.setCell b o _ _ _ (by omega))).trans o2, q', ⟨h3, h4, Hp.put_end h6 ?_⟩, h5.many, h5.keys, fun i => ?_⟩
    · rw [h5.many]; show q.many + 1 = m + 1; rw [HM.out]
    · rw [h5.has]
      show 0 < Hp.upd q.place j (q.many + 1) i ↔ _
      by_cases e : i = j
      · subst e; rw [Hp.upd_same]; simp
      · rw [Hp.upd_ne _ _ _ _ e]; simp [e]
  clear h2 po h3 h4 h5 h6 o2
  go_wp2_with fail
  go_ret
  exact ⟨rfl, FIN.out⟩
set_option maxHeartbeats 400000 in
theorem key_none (b o j : Nat) (q : Q) (w : World) (h : At w b o q) (hj : j < 64) (hp : q.place j = 0) :
    Calls Tryz.prog 156 #[.pointer (some ⟨b, o, none⟩), .int .i64 j] w fun e w' => e = .returned (.tuple #[.int .u64 0, .iface 60 (.int .i64 2)]) ∧ w' = w := by
  have HB : Hid (bnd (j : Int) = true) := bnd_true (by omega) (by omega)
  have HI : Hid (isin q j = false) := decide_eq_false (by omega)
  have H : Hid (At w b o q) := h
  clear h hp
  go_enter Tryz.func156, Tryz.ntmps156
  go_wp2_with fail
  refine (bounded_any j _).mono ?_
  rintro e w' ⟨rfl, rfl⟩
  rw [HB.out]
  go_wp2_with fail
  refine (has_any b o j q _ H.out hj).mono ?_
  rintro e w' ⟨rfl, rfl⟩
  rw [HI.out]
  go_wp2
  go_ret2
  exact ⟨rfl, rfl⟩
set_option maxHeartbeats 400000 in
theorem key_has (b o j : Nat) (q : Q) (w : World) (h : At w b o q) (hj : j < 64) (hp : 0 < q.place j) :
    Calls Tryz.prog 156 #[.pointer (some ⟨b, o, none⟩), .int .i64 j] w fun e w' => e = .returned (.tuple #[.int .u64 (q.keys j), .nilIface]) ∧ w' = w := by
  have HB : Hid (bnd (j : Int) = true) := bnd_true (by omega) (by omega)
  have HI : Hid (isin q j = true) := decide_eq_true hp
  have H : Hid (At w b o q) := h
  have ck := h.keys j hj
  have hjI : (j : Int) < 64 := by omega
  clear h hp
  go_enter Tryz.func156, Tryz.ntmps156
  go_wp2_with fail
  refine (bounded_any j _).mono ?_
  rintro e w' ⟨rfl, rfl⟩
  rw [HB.out]
  go_wp2_with fail
  refine (has_any b o j q _ H.out hj).mono ?_
  rintro e w' ⟨rfl, rfl⟩
  rw [HI.out]
  go_wp2
  go_ret2
  exact ⟨rfl, rfl⟩
set_option maxHeartbeats 400000 in
theorem len_any (b o : Nat) (q : Q) (w : World) (h : At w b o q) :
    Calls Tryz.prog 165 #[.pointer (some ⟨b, o, none⟩)] w fun e w' => e = .returned (.int .i64 q.many) ∧ w' = w := by
  have cm := h.many
  clear h
  go_enter Tryz.func165, Tryz.ntmps165
  go_wp2
  go_ret
  exact ⟨rfl, rfl⟩
set_option maxHeartbeats 400000 in
theorem first_none (b o : Nat) (q : Q) (w : World) (h : At w b o q) (h0 : q.many = 0) :
    Calls Tryz.prog 138 #[.pointer (some ⟨b, o, none⟩)] w fun e w' => e = .returned (.tuple #[.int .i64 0, .int .u64 0, .bool false]) ∧ w' = w := by
  have cm := h.many
  rw [h0] at cm
  clear h h0
  go_enter Tryz.func138, Tryz.ntmps138
  go_wp2
  go_ret3
  exact ⟨rfl, rfl⟩
set_option maxHeartbeats 400000 in
theorem first_some (b o : Nat) (q : Q) (w : World) (h : Good w b o q) (h0 : 0 < q.many) :
    Calls Tryz.prog 138 #[.pointer (some ⟨b, o, none⟩)] w fun e w' => ∃ j : Nat, e = .returned (.tuple #[.int .i64 j, .int .u64 (q.keys j), .bool true]) ∧ (∃ n, w' = w.drewN n) ∧ j < 64 ∧ 0 < q.place j ∧ ∀ i, i < 64 → 0 < q.place i → ¬ Hp.ah q.keys i j := by
  have cm := h.at_.many
  have hne : ((q.many : Int) == 0) = false := by simp; omega
  have a0 := h.ok.at_ 0 h0
  have ch := h.at_.heap 0 (by omega)
  have ck := h.at_.keys _ a0.1
  have H : Hid (Good w b o q) := h
  have H0 : Hid (0 < q.many) := h0
  have A0 : Hid (q.heap 0 < 64 ∧ q.place (q.heap 0) = 0 + 1) := a0
  have FIN : Hid (∀ i, i < 64 → 0 < q.place i → ¬ Hp.ah q.keys i (q.heap 0)) := fun i hi hp => by
    have oi := h.ok.of_ i hi
    have := Hp.first_least h.full (q.place i - 1) (by omega)
    rw [oi.2 hp] at this
    exact this
  clear h h0 a0
  generalize hJ : q.heap 0 = J at *
  have hJI : (J : Int) < 64 := by have := A0.out.1; omega
  clear hJ
  go_enter Tryz.func138, Tryz.ntmps138
  go_wp2
  go_quiet (fail)
  go_wp2
  go_ret3
  exact ⟨J, rfl, ⟨_, rfl⟩, A0.out.1, by have := A0.out.2; omega, FIN.out⟩
end Go.Proofs.YtghogbngmcolmaaGreat.Fa

/- Lists in the order of a queue: there is one for each set; one more is laid in its place. No Go in sight. -/
import Derived.Test.YtgabceeekkcekaaHeap
namespace Go.Proofs.Ytgabceeekkcekaa
namespace Hp

theorem ah_irrefl {K : Nat → Nat} {a : Nat} : ¬ ah K a a := by unfold ah; omega
theorem ah_of_not {K : Nat → Nat} {a b : Nat} (h : ¬ ah K a b) (hne : a ≠ b) : ah K b a := by unfold ah at *; omega

theorem srt_unique {K : Nat → Nat} : ∀ (L M : List Nat), L.Pairwise (ah K) → M.Pairwise (ah K) → (∀ x, x ∈ L ↔ x ∈ M) → L = M
  | [], [], _, _, _ => rfl
  | [], b :: M, _, _, h => absurd ((h b).2 (by simp)) (by simp)
  | a :: L, [], _, _, h => absurd ((h a).1 (by simp)) (by simp)
  | a :: L, b :: M, hl, hm, h => by
    have hl' := List.pairwise_cons.1 hl
    have hm' := List.pairwise_cons.1 hm
    have e : a = b := by
      by_cases e : a = b
      · exact e
      · have h1 : a ∈ M := by
          rcases List.mem_cons.1 ((h a).1 (by simp)) with h1 | h1
          · exact absurd h1 e
          · exact h1
        have h2 : b ∈ L := by
          rcases List.mem_cons.1 ((h b).2 (by simp)) with h2 | h2
          · exact absurd h2.symm e
          · exact h2
        exact absurd (hl'.1 b h2) (ah_asymm (hm'.1 a h1))
    subst e
    rw [srt_unique L M hl'.2 hm'.2 fun x => by
      have hx := h x
      simp only [List.mem_cons] at hx
      constructor
      · intro k
        rcases hx.1 (.inr k) with e | e
        · subst e; exact absurd (hl'.1 x k) ah_irrefl
        · exact e
      · intro k
        rcases hx.2 (.inr k) with e | e
        · subst e; exact absurd (hm'.1 x k) ah_irrefl
        · exact e]

/-- i laid into L at k. -/
def ins (L : List Nat) (k i : Nat) : List Nat := L.take k ++ i :: L.drop k
theorem mem_ins (L : List Nat) (k i x : Nat) : x ∈ ins L k i ↔ (x ∈ L ∨ x = i) := by
  unfold ins
  rw [List.mem_append, List.mem_cons]
  have h : x ∈ L ↔ (x ∈ L.take k ∨ x ∈ L.drop k) := by
    rw [← List.mem_append, List.take_append_drop]
  rw [h]
  constructor
  · rintro (h | h | h)
    · exact .inl (.inl h)
    · exact .inr h
    · exact .inl (.inr h)
  · rintro ((h | h) | h)
    · exact .inl h
    · exact .inr (.inr h)
    · exact .inr (.inl h)
theorem len_ins (L : List Nat) (k i : Nat) (hk : k ≤ L.length) : (ins L k i).length = L.length + 1 := by
  unfold ins; simp; omega
theorem ins_srt {K : Nat → Nat} {L : List Nat} {k i : Nat} (hL : L.Pairwise (ah K)) (hlt : ∀ x ∈ L, x < i) (hlo : ∀ x ∈ L.take k, K x ≤ K i) (hhi : ∀ x ∈ L.drop k, K i < K x) : (ins L k i).Pairwise (ah K) := by
  unfold ins
  rw [List.pairwise_append, List.pairwise_cons]
  have h0 : (L.take k ++ L.drop k).Pairwise (ah K) := by rw [List.take_append_drop]; exact hL
  rw [List.pairwise_append] at h0
  refine ⟨h0.1, ⟨fun x hx => .inl (hhi x hx), h0.2.1⟩, fun a ha c hc => ?_⟩
  rcases List.mem_cons.1 hc with e | e
  · subst e
    have h1 := hlo a ha
    have h2 := hlt a (List.mem_of_mem_take ha)
    unfold ah; omega
  · exact h0.2.2 a ha c e

/-- What lies at each place while a gap stands at k. -/
def gap (L : List Nat) (k u : Nat) : List Nat := L.take k ++ u :: L.drop k
theorem gap_at {L : List Nat} {k u : Nat} (hk : k ≤ L.length) : (gap L k u)[k]? = some u := by
  unfold gap
  rw [List.getElem?_append_right (by simp; omega)]
  simp [show k - min k L.length = 0 by omega]
theorem gap_before {L : List Nat} {k u t : Nat} (hk : k ≤ L.length) (ht : t < k) : (gap L k u)[t]? = L[t]? := by
  unfold gap
  rw [List.getElem?_append_left (by simp; omega)]
  rw [List.getElem?_take, if_pos ht]
/-- The gap goes down: what stood before it is laid into it. -/
theorem gap_step {L : List Nat} {k u : Nat} (hk : k + 1 ≤ L.length) : (gap L (k + 1) u).set (k + 1) (L.getD k 0) = gap L k (L.getD k 0) := by
  unfold gap
  have e1 : L.take (k + 1) = L.take k ++ [L.getD k 0] := by
    rw [List.take_succ_eq_append_getElem (by omega)]
    simp [List.getD_eq_getElem?_getD, List.getElem?_eq_getElem (show k < L.length by omega)]
  have e2 : L.drop k = L.getD k 0 :: L.drop (k + 1) := by
    rw [List.drop_eq_getElem_cons (by omega)]
    simp [List.getD_eq_getElem?_getD, List.getElem?_eq_getElem (show k < L.length by omega)]
  rw [e2, List.set_append_right _ _ (by simp; omega), e1]
  simp [show k - min k L.length = 0 by omega]
theorem gap_fill {L : List Nat} {k u i : Nat} (hk : k ≤ L.length) : (gap L k u).set k i = ins L k i := by
  unfold gap ins
  rw [List.set_append_right _ _ (by simp; omega)]
  simp [show k - min k L.length = 0 by omega]
theorem gap_end (L : List Nat) (i : Nat) : gap L L.length i = L ++ [i] := by unfold gap; simp

end Hp
end Go.Proofs.Ytgabceeekkcekaa

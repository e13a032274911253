/- The document's own forest, plain: names lie in their order. -/
import Derived.Test.YthdadmbpnoofoaaGreatDoorWa
namespace Go.Proofs.YthdadmbpnoofoaaGreatDoor
open Go.RowKit
open Tr (Fo Nd)

/-- A list in its order is the only one. -/
theorem srtS_unique {L M : List ByteArray} (hp : (M.map fun s => s.toList).Perm (L.map fun s => s.toList)) (hs : (M.map fun s => s.toList).Pairwise fun x y => x ≤ y) : M = srtS L := by
  have e : (M.map fun s => s.toList) = (srtS L).map fun s => s.toList :=
    List.Perm.eq_of_pairwise (le := fun x y => x ≤ y) (fun a b _ _ h1 h2 => List.le_antisymm h1 h2) hs (srtS_sorted L) (hp.trans (srtS_perm L).symm)
  have inj : ∀ (A B : List ByteArray), (A.map fun s => s.toList) = (B.map fun s => s.toList) → A = B := fun A => by
    induction A with
    | nil => intro B h; cases B with
      | nil => rfl
      | cons => simp at h
    | cons a A ih => intro B h; cases B with
      | nil => simp at h
      | cons b B =>
        simp only [List.map_cons, List.cons.injEq] at h
        have e := h.1
        rw [ByteArray.toList_eq, ByteArray.toList_eq] at e
        rw [Go.WideShapes.bytes_inj e, ih B h.2]
  exact inj _ _ e
/-- What is laid when so many were gone through, and whether the new one is. -/
def putK (L : List ByteArray) (s : ByteArray) : Nat → List ByteArray × Bool
  | 0 => ([], false)
  | i + 1 => if (putK L s i).2 = false ∧ s.toList < (L.getD i ⟨#[]⟩).toList then ((putK L s i).1 ++ [s] ++ [L.getD i ⟨#[]⟩], true) else ((putK L s i).1 ++ [L.getD i ⟨#[]⟩], (putK L s i).2)
def putL (L : List ByteArray) (s : ByteArray) : List ByteArray := if (putK L s L.length).2 = false then (putK L s L.length).1 ++ [s] else (putK L s L.length).1
theorem putK_inv (L : List ByteArray) (s : ByteArray) (hs : (L.map fun s => s.toList).Pairwise fun x y => x ≤ y) : ∀ i, i ≤ L.length →
    (((putK L s i).2 = false ∧ (putK L s i).1 = L.take i ∧ ∀ x ∈ L.take i, x.toList ≤ s.toList) ∨
     ((putK L s i).2 = true ∧ ((putK L s i).1).Perm (s :: L.take i) ∧ (((putK L s i).1).map fun s => s.toList).Pairwise (fun x y => x ≤ y) ∧ (∀ x ∈ (putK L s i).1, ∀ j, i ≤ j → j < L.length → x.toList ≤ (L.getD j ⟨#[]⟩).toList)))
  | 0, _ => .inl ⟨rfl, by simp [putK], fun x hx => by simp at hx⟩
  | i + 1, hi => by
    have hil : i < L.length := by omega
    have hg : L.getD i ⟨#[]⟩ = L[i] := by rw [List.getD_eq_getElem?_getD, List.getElem?_eq_getElem hil, Option.getD_some]
    have ht : L.take (i + 1) = L.take i ++ [L.getD i ⟨#[]⟩] := by rw [hg, List.take_succ_eq_append_getElem hil]
    rw [List.pairwise_map] at hs
    have hle : ∀ a b, a ≤ b → b < L.length → (L.getD a ⟨#[]⟩).toList ≤ (L.getD b ⟨#[]⟩).toList := fun a b hab hb => by
      rw [List.getD_eq_getElem?_getD, List.getD_eq_getElem?_getD, List.getElem?_eq_getElem hb, List.getElem?_eq_getElem (show a < L.length by omega), Option.getD_some, Option.getD_some]
      by_cases c : a = b
      · subst c; exact List.le_refl _
      · exact List.pairwise_iff_getElem.1 hs a b (by omega) hb (by omega)
    have hmem : ∀ x ∈ L.take i, ∃ a, a < i ∧ x = L.getD a ⟨#[]⟩ := fun x hx => by
      obtain ⟨a, ha, e⟩ := List.getElem_of_mem hx
      rw [List.length_take] at ha
      refine ⟨a, by omega, ?_⟩
      rw [← e, List.getD_eq_getElem?_getD, List.getElem?_eq_getElem (show a < L.length by omega), Option.getD_some, List.getElem_take]
    rcases putK_inv L s (by rw [List.pairwise_map]; exact hs) i (by omega) with ⟨h1, h2, h3⟩ | ⟨h1, h2, h3, h4⟩
    · by_cases c : s.toList < (L.getD i ⟨#[]⟩).toList
      · have e : putK L s (i + 1) = (L.take i ++ [s] ++ [L.getD i ⟨#[]⟩], true) := by
          show (if _ then _ else _) = _
          rw [if_pos ⟨h1, c⟩, h2]
        rw [e]
        have mle : ∀ x ∈ L.take i, x.toList ≤ (L.getD i ⟨#[]⟩).toList := fun x hx => List.le_trans (h3 x hx) (List.le_of_lt c)
        refine .inr ⟨rfl, ?_, ?_, ?_⟩
        · rw [ht, List.append_assoc]
          exact List.perm_middle
        · rw [List.pairwise_map, List.append_assoc, List.pairwise_append]
          refine ⟨hs.sublist (List.take_sublist _ _), ?_, ?_⟩
          · simp only [List.singleton_append, List.pairwise_cons, List.mem_singleton, forall_eq]
            exact ⟨List.le_of_lt c, by simp, by simp⟩
          · intro a ha b hb
            simp only [List.singleton_append, List.mem_cons, List.not_mem_nil, or_false] at hb
            rcases hb with rfl | rfl
            · exact h3 a ha
            · exact mle a ha
        · intro x hx j hj hjl
          simp only [List.mem_append, List.mem_singleton] at hx
          rcases hx with (hx | rfl) | rfl
          · obtain ⟨a, ha, rfl⟩ := hmem x hx
            exact hle a j (by omega) hjl
          · exact List.le_trans (List.le_of_lt c) (hle i j (by omega) hjl)
          · exact hle i j (by omega) hjl
      · have e : putK L s (i + 1) = (L.take i ++ [L.getD i ⟨#[]⟩], false) := by
          show (if _ then _ else _) = _
          rw [if_neg (fun k => c k.2), h2, h1]
        rw [e]
        refine .inl ⟨rfl, ht.symm, fun x hx => ?_⟩
        rw [ht, List.mem_append, List.mem_singleton] at hx
        rcases hx with hx | rfl
        · exact h3 x hx
        · exact List.not_lt.1 c
    · have e : putK L s (i + 1) = ((putK L s i).1 ++ [L.getD i ⟨#[]⟩], true) := by
        show (if _ then _ else _) = _
        rw [if_neg (fun k => by rw [h1] at k; exact absurd k.1 (by decide)), h1]
      rw [e]
      refine .inr ⟨rfl, ?_, ?_, ?_⟩
      · rw [ht]
        exact (h2.append_right _).trans (List.Perm.refl _)
      · rw [List.pairwise_map] at h3 ⊢
        rw [List.pairwise_append]
        refine ⟨h3, by simp, fun a ha b hb => ?_⟩
        rw [List.mem_singleton] at hb
        subst hb
        exact h4 a ha i (Nat.le_refl _) hil
      · intro x hx j hj hjl
        rw [List.mem_append, List.mem_singleton] at hx
        rcases hx with hx | rfl
        · exact h4 x hx j (by omega) hjl
        · exact hle i j (by omega) hjl
/-- Laid in its place, it is in its order. -/
theorem putL_srt (N : List ByteArray) (s : ByteArray) : putL (srtS N) s = srtS (N ++ [s]) := by
  obtain ⟨L, hL⟩ : ∃ L, srtS N = L := ⟨_, rfl⟩
  have hp := srtS_perm N
  have hs := srtS_sorted N
  rw [hL] at hp hs ⊢
  have key : (putL L s).Perm (s :: L) ∧ ((putL L s).map fun s => s.toList).Pairwise fun x y => x ≤ y := by
    unfold putL
    rcases putK_inv L s hs L.length (Nat.le_refl _) with ⟨h1, h2, h3⟩ | ⟨h1, h2, h3, _⟩
    · rw [if_pos h1, h2, List.take_length]
      rw [List.take_length] at h3
      refine ⟨List.perm_append_singleton s L, ?_⟩
      rw [List.pairwise_map] at hs ⊢
      rw [List.pairwise_append]
      refine ⟨hs, by simp, fun a ha b hb => ?_⟩
      rw [List.mem_singleton] at hb
      subst hb
      exact h3 a ha
    · rw [if_neg (by rw [h1]; decide)]
      rw [List.take_length] at h2
      exact ⟨h2, h3⟩
  refine srtS_unique ?_ key.2
  refine (key.1.map _).trans ?_
  rw [List.map_cons, List.map_append]
  exact ((List.Perm.cons _ hp)).trans (List.perm_append_singleton _ _).symm
/-- One is left out. -/
theorem srt_filter (N : List ByteArray) (s : ByteArray) : (srtS N).filter (fun x => decide (x.toList ≠ s.toList)) = srtS (N.filter fun x => decide (x.toList ≠ s.toList)) := by
  have hp := srtS_perm N
  have hs := srtS_sorted N
  have mf : ∀ L : List ByteArray, (L.filter fun x => decide (x.toList ≠ s.toList)).map (fun s => s.toList) = (L.map fun s => s.toList).filter fun l => decide (l ≠ s.toList) := fun L => by
    rw [List.filter_map]; rfl
  refine srtS_unique ?_ ?_
  · rw [mf, mf]
    exact hp.filter _
  · rw [mf]
    exact hs.sublist List.filter_sublist
theorem srtS_congr {L M : List ByteArray} (h : (L.map fun s => s.toList).Perm (M.map fun s => s.toList)) : srtS L = srtS M := srtS_unique ((srtS_perm L).trans h) (srtS_sorted L)
/-- The names of a directory in their order, and where they lead. -/
def Tr.lsN (x : Nd) : List ByteArray := srtS (Tr.nmK x x.size)
def Tr.ksN (x : Nd) : List Nat := (Tr.lsN x).map fun s => Tr.fk x s.toList
theorem Tr.lsN_len (x : Nd) : (Tr.lsN x).length = x.size := by unfold Tr.lsN; rw [srtS_len, Tr.nmK_len]
theorem Tr.ksN_len (x : Nd) : (Tr.ksN x).length = x.size := by unfold Tr.ksN; rw [List.length_map, Tr.lsN_len]
theorem Tr.lisL_yes {F : Fo} {n : Nat} (h : Tr.isE F (n : Int) 2 = 0) : Tr.lisL F (n : Int) = Tr.lsN (F.nd n) := by unfold Tr.lisL Tr.lsN; rw [if_pos h, Int.toNat_natCast]
theorem Tr.lsN_mem {x : Nd} {l : List UInt8} : l ∈ (Tr.lsN x).map (fun s => s.toList) ↔ ∃ j, j < x.size ∧ (x.nam j).toList = l := by
  unfold Tr.lsN
  rw [(srtS_perm _).mem_iff, Tr.nmK_map, List.mem_map]
  simp [List.mem_range]
theorem Tr.nmK_ad (x : Nd) (s : ByteArray) (k : Nat) : Tr.nmK (Tr.adN x s k) (x.size + 1) = Tr.nmK x x.size ++ [s] := by
  rw [Tr.nmK_succ, (Tr.adN_last x s k).1]
  congr 1
  unfold Tr.nmK
  refine List.map_congr_left (fun i hi => ?_)
  exact (Tr.adN_nam (List.mem_range.1 hi)).1
theorem Tr.lsN_ad (x : Nd) (s : ByteArray) (k : Nat) : Tr.lsN (Tr.adN x s k) = putL (Tr.lsN x) s := by
  unfold Tr.lsN
  rw [Tr.adN_size, Tr.nmK_ad, putL_srt]
theorem Tr.fk_ad_same {x : Nd} {s : ByteArray} {k : Nat} (hd : Tr.Nodup x) (hp : Tr.PlcTo x s (-1)) : Tr.fk (Tr.adN x s k) s.toList = k := by
  rw [Tr.fk_plc ((hd.adN hp).plc (i := x.size) (by rw [Tr.adN_size]; omega) (by rw [(Tr.adN_last x s k).1])), (Tr.adN_last x s k).2]
theorem Tr.fk_ad_old {x : Nd} {s t : ByteArray} {k j : Nat} (hd : Tr.Nodup x) (hp : Tr.PlcTo x s (-1)) (hj : j < x.size) (e : (x.nam j).toList = t.toList) : Tr.fk (Tr.adN x s k) t.toList = Tr.fk x t.toList := by
  rw [Tr.fk_plc ((hd.adN hp).plc (i := j) (by rw [Tr.adN_size]; omega) (by rw [(Tr.adN_nam hj).1]; exact e)), Tr.fk_plc (hd.plc hj e), (Tr.adN_nam hj).2]
/-- Every other one is left. -/
theorem Tr.forN_has {x : Nd} {i q : Nat} (hi : i < x.size) (hq : q < x.size) (c : q ≠ i) : ∃ j, j < x.size - 1 ∧ (Tr.forN x i).nam j = x.nam q ∧ (Tr.forN x i).kid j = x.kid q := by
  by_cases d : q = x.size - 1
  · refine ⟨i, by omega, ?_, ?_⟩
    · rw [Tr.forN_nam (by omega), if_pos rfl, d]
    · rw [Tr.forN_kid (by omega), if_pos rfl, d]
  · refine ⟨q, by omega, ?_, ?_⟩
    · rw [Tr.forN_nam (by omega), if_neg c]
    · rw [Tr.forN_kid (by omega), if_neg c]
theorem Tr.lsN_for {x : Nd} {i : Nat} {s : ByteArray} (hd : Tr.Nodup x) (hi : i < x.size) (e : (x.nam i).toList = s.toList) : Tr.lsN (Tr.forN x i) = (Tr.lsN x).filter fun y => decide (y.toList ≠ s.toList) := by
  unfold Tr.lsN
  rw [srt_filter]
  refine srtS_congr ?_
  have mf : ((Tr.nmK x x.size).filter fun x => decide (x.toList ≠ s.toList)).map (fun s => s.toList) = ((Tr.nmK x x.size).map fun s => s.toList).filter fun l => decide (l ≠ s.toList) := by
    rw [List.filter_map]; rfl
  rw [mf]
  refine (List.perm_ext_iff_of_nodup (Tr.nmK_nodup (hd.forN hi)) ((Tr.nmK_nodup hd).sublist List.filter_sublist)).2 (fun l => ?_)
  rw [List.mem_filter, Tr.nmK_map, Tr.nmK_map, List.mem_map, List.mem_map]
  simp only [List.mem_range, decide_eq_true_eq]
  constructor
  · rintro ⟨j, hj, rfl⟩
    rw [Tr.forN_size] at hj
    obtain ⟨q, hq, hqi, hn, _⟩ := Tr.forN_was hi hj
    refine ⟨⟨q, hq, by rw [hn]⟩, ?_⟩
    rw [hn, ← e]
    exact hd.ne hq hi hqi
  · rintro ⟨⟨q, hq, rfl⟩, hne⟩
    obtain ⟨j, hj, hn, _⟩ := Tr.forN_has hi hq (fun c => hne (by rw [c]; exact e))
    exact ⟨j, by rw [Tr.forN_size]; exact hj, by rw [hn]⟩
theorem Tr.fk_for {x : Nd} {i q : Nat} {t : ByteArray} (hd : Tr.Nodup x) (hi : i < x.size) (hq : q < x.size) (c : q ≠ i) (e : (x.nam q).toList = t.toList) : Tr.fk (Tr.forN x i) t.toList = Tr.fk x t.toList := by
  obtain ⟨j, hj, h1, h2⟩ := Tr.forN_has hi hq c
  rw [Tr.fk_plc ((hd.forN hi).plc (i := j) (by rw [Tr.forN_size]; exact hj) (by rw [h1]; exact e)), Tr.fk_plc (hd.plc hq e), h2]
/-- Each act's answer is one. -/
theorem Tr.PlaTo.unique {F G G' : Fo} {T T' : Nat} {E E' : Int} (h : Tr.PlaTo F T E G) (k : Tr.PlaTo F T' E' G') : T = T' ∧ E = E' ∧ G = G' := by
  rcases h with ⟨a, b, c, d⟩ | ⟨a, n, e, hf, h⟩ <;> rcases k with ⟨a', b', c', d'⟩ | ⟨a', n', e', hf', k⟩
  · exact ⟨b.trans b'.symm, c.trans c'.symm, d.trans d'.symm⟩
  · exact absurd a a'
  · exact absurd a' a
  · obtain ⟨rfl, rfl⟩ := hf.unique hf'
    rcases h with ⟨p, b, c, d⟩ | ⟨p, b, c, d⟩ <;> rcases k with ⟨p', b', c', d'⟩ | ⟨p', b', c', d'⟩
    · exact ⟨b.trans b'.symm, c.trans c'.symm, d.trans d'.symm⟩
    · exact absurd p' p
    · exact absurd p p'
    · exact ⟨b.trans b'.symm, c.trans c'.symm, d.trans d'.symm⟩
theorem Tr.RefTo.unique {x : Nd} {s : ByteArray} {E E' : Int} (h : Tr.RefTo x s E) (k : Tr.RefTo x s E') : E = E' := by
  rcases h with ⟨a, b⟩ | ⟨a, ⟨i, p, b⟩ | ⟨p, ⟨q, b⟩ | ⟨q, b⟩⟩⟩ <;> rcases k with ⟨a', b'⟩ | ⟨a', ⟨i', p', b'⟩ | ⟨p', ⟨q', b'⟩ | ⟨q', b'⟩⟩⟩
  all_goals first
    | exact b.trans b'.symm
    | (rw [a] at a'; exact absurd a' (by decide))
    | (rw [a'] at a; exact absurd a (by decide))
    | (have := p.unique p'; omega)
    | exact absurd q q'
    | exact absurd q' q
theorem Tr.WanTo.unique {F : Fo} {z : Int} {s : ByteArray} {E E' : Int} (h : Tr.WanTo F z s E) (k : Tr.WanTo F z s E') : E = E' := by
  rcases h with ⟨a, b⟩ | ⟨a, b⟩ <;> rcases k with ⟨a', b'⟩ | ⟨a', b'⟩
  · exact b.trans b'.symm
  · exact absurd a' a
  · exact absurd a a'
  · exact b.unique b'
theorem Tr.MakTo.unique {F G G' : Fo} {z kz : Int} {s : ByteArray} {K K' : Nat} {E E' : Int} (h : Tr.MakTo F z s kz K E G) (k : Tr.MakTo F z s kz K' E' G') : K = K' ∧ E = E' ∧ G = G' := by
  rcases h with ⟨a1, a2, b, c, d⟩ | ⟨a, e, hw, h⟩ <;> rcases k with ⟨a1', a2', b', c', d'⟩ | ⟨a', e', hw', k⟩
  · exact ⟨b.trans b'.symm, c.trans c'.symm, d.trans d'.symm⟩
  · exact absurd a' (fun c => c.elim a1 a2)
  · exact absurd a (fun c => c.elim a1' a2')
  · obtain rfl := hw.unique hw'
    rcases h with ⟨p, b, c, d⟩ | ⟨p, q, e2, hf, h⟩ <;> rcases k with ⟨p', b', c', d'⟩ | ⟨p', q', e2', hf', k⟩
    · exact ⟨b.trans b'.symm, c.trans c'.symm, d.trans d'.symm⟩
    · exact absurd p' p
    · exact absurd p p'
    · obtain ⟨rfl, rfl⟩ := hf.unique hf'
      rcases h with ⟨p, b, c, d⟩ | ⟨p, b, c, d⟩ <;> rcases k with ⟨p', b', c', d'⟩ | ⟨p', b', c', d'⟩
      · exact ⟨b.trans b'.symm, c.trans c'.symm, d.trans d'.symm⟩
      · exact absurd p' p
      · exact absurd p p'
      · exact ⟨b.trans b'.symm, c.trans c'.symm, d.trans d'.symm⟩
theorem Tr.LinTo.unique {F G G' : Fo} {y z : Int} {s : ByteArray} {E E' : Int} (h : Tr.LinTo F y z s E G) (k : Tr.LinTo F y z s E' G') : E = E' ∧ G = G' := by
  rcases h with ⟨a, c, d⟩ | ⟨a, e, hw, h⟩ <;> rcases k with ⟨a', c', d'⟩ | ⟨a', e', hw', k⟩
  · exact ⟨c.trans c'.symm, d.trans d'.symm⟩
  · exact absurd a' a
  · exact absurd a a'
  · obtain rfl := hw.unique hw'
    rcases h with ⟨p, c, d⟩ | ⟨p, h⟩ <;> rcases k with ⟨p', c', d'⟩ | ⟨p', k⟩
    · exact ⟨c.trans c'.symm, d.trans d'.symm⟩
    · exact absurd p' p
    · exact absurd p p'
    · rcases h with ⟨q, c, d⟩ | ⟨q, c, d⟩ <;> rcases k with ⟨q', c', d'⟩ | ⟨q', c', d'⟩
      · exact ⟨c.trans c'.symm, d.trans d'.symm⟩
      · exact absurd q' q
      · exact absurd q q'
      · exact ⟨c.trans c'.symm, d.trans d'.symm⟩
theorem Tr.RemTo.unique {F G G' : Fo} {z : Int} {s : ByteArray} {E E' : Int} (h : Tr.RemTo F z s E G) (k : Tr.RemTo F z s E' G') : E = E' ∧ G = G' := by
  obtain ⟨K, e, hf, h⟩ := h
  obtain ⟨K', e', hf', k⟩ := k
  obtain ⟨rfl, rfl⟩ := hf.unique hf'
  rcases h with ⟨p, c, d⟩ | ⟨p, h⟩ <;> rcases k with ⟨p', c', d'⟩ | ⟨p', k⟩
  · exact ⟨c.trans c'.symm, d.trans d'.symm⟩
  · exact absurd p' p
  · exact absurd p p'
  · rcases h with ⟨q, r, c, d⟩ | ⟨q, c, i, hp, d⟩ <;> rcases k with ⟨q', r', c', d'⟩ | ⟨q', c', i', hp', d'⟩
    · exact ⟨c.trans c'.symm, d.trans d'.symm⟩
    · exact absurd ⟨q, r⟩ q'
    · exact absurd ⟨q', r'⟩ q
    · have := hp.unique hp'
      obtain rfl : i = i' := by omega
      exact ⟨c.trans c'.symm, d.trans d'.symm⟩
theorem Tr.MovTo.unique {F G G' : Fo} {z y : Int} {s o : ByteArray} {E E' : Int} (h : Tr.MovTo F z s y o E G) (k : Tr.MovTo F z s y o E' G') : E = E' ∧ G = G' := by
  obtain ⟨K, e, hf, h⟩ := h
  obtain ⟨K', e', hf', k⟩ := k
  obtain ⟨rfl, rfl⟩ := hf.unique hf'
  rcases h with ⟨p, c, d⟩ | ⟨p, h⟩ <;> rcases k with ⟨p', c', d'⟩ | ⟨p', k⟩
  · exact ⟨c.trans c'.symm, d.trans d'.symm⟩
  · exact absurd p' p
  · exact absurd p p'
  rcases h with ⟨p, c, d⟩ | ⟨p, h⟩ <;> rcases k with ⟨p', c', d'⟩ | ⟨p', k⟩
  · exact ⟨c.trans c'.symm, d.trans d'.symm⟩
  · exact absurd p' p
  · exact absurd p p'
  rcases h with ⟨p, c, d⟩ | ⟨p, h⟩ <;> rcases k with ⟨p', c', d'⟩ | ⟨p', k⟩
  · exact ⟨c.trans c'.symm, d.trans d'.symm⟩
  · exact absurd p' p
  · exact absurd p p'
  rcases h with ⟨p, c, d⟩ | ⟨p, i, hp, e2, hr, h⟩ <;> rcases k with ⟨p', c', d'⟩ | ⟨p', i', hp', e2', hr', k⟩
  · exact ⟨c.trans c'.symm, d.trans d'.symm⟩
  · rw [p] at p'; exact absurd p' (by decide)
  · rw [p] at p'; exact absurd p' (by decide)
  have := hp.unique hp'
  obtain rfl : i = i' := by omega
  obtain rfl := hr.unique hr'
  rcases h with ⟨p, c, d⟩ | ⟨p, c, d⟩ <;> rcases k with ⟨p', c', d'⟩ | ⟨p', c', d'⟩
  · exact ⟨c.trans c'.symm, d.trans d'.symm⟩
  · exact absurd p' p
  · exact absurd p p'
  · exact ⟨c.trans c'.symm, d.trans d'.symm⟩
end Go.Proofs.YthdadmbpnoofoaaGreatDoor
/- The document's own forest as it lies: forty nodes of eight cells, its roots; its lists, each in a block of its own. -/
namespace Go.Proofs.YthdadmbpnoofoaaGreatDoor
open Go.RowKit
open Tr (Fo Nd)

/-- A list of values, in a block of which P is true. -/
def LV (P : Nat → Prop) (xs : List Value) (v : Value) (W : World) : Prop := ∃ a c, v = .slice a xs.length c ∧ (0 < xs.length → ∃ g, a = some ⟨g, 0, none⟩ ∧ P g ∧ g < W.heap.size ∧ ∀ i, i < xs.length → W.cell? ⟨g, i, none⟩ = xs[i]?)
theorem LV.kept {P : Nat → Prop} {xs : List Value} {v : Value} {W W' : World} (h : LV P xs v W) (hs : W.heap.size ≤ W'.heap.size) (hk : ∀ g, P g → g < W.heap.size → W'.heap[g]? = W.heap[g]?) : LV P xs v W' := by
  obtain ⟨a, c, e, k⟩ := h
  refine ⟨a, c, e, fun hl => ?_⟩
  obtain ⟨g, e1, e2, e3, e4⟩ := k hl
  exact ⟨g, e1, e2, Nat.lt_of_lt_of_le e3 hs, fun i hi => (World.cell?_of_block (hk g e2 e3)).trans (e4 i hi)⟩
theorem LV.mono {P Q : Nat → Prop} {xs : List Value} {v : Value} {W : World} (h : LV P xs v W) (hk : ∀ g, P g → g < W.heap.size → Q g) : LV Q xs v W := by
  obtain ⟨a, c, e, k⟩ := h
  refine ⟨a, c, e, fun hl => ?_⟩
  obtain ⟨g, e1, e2, e3, e4⟩ := k hl
  exact ⟨g, e1, hk g e2 e3, e3, e4⟩
theorem LV.nil (P : Nat → Prop) (W : World) : LV P [] (.slice none 0 0) W := ⟨none, 0, rfl, fun h => absurd h (Nat.lt_irrefl 0)⟩
theorem LV.drewN {P : Nat → Prop} {xs : List Value} {v : Value} {W : World} (h : LV P xs v W) (n : Nat) : LV P xs v (W.drewN n) := h.kept (Nat.le_refl _) (fun _ _ _ => rfl)

namespace Tr
/-- A node of the document's own: its names and kids are slices. -/
structure RN where
  kind : Nat
  tree : Nat
  links : Nat
  held : Nat
  up : Nat
  data : ByteArray
  ns : Value
  ks : Value
end Tr
open Tr (RN)
def rcell (x : RN) (j : Nat) : Value :=
  if j = 0 then .int .i64 (x.kind : Int) else if j = 1 then .int .i64 (x.tree : Int) else if j = 2 then .int .i64 (x.links : Int) else if j = 3 then .int .i64 (x.held : Int) else if j = 4 then .int .i64 (x.up : Int) else if j = 5 then .string x.data else if j = 6 then x.ns else x.ks
def putR (R : Nat → RN) (n : Nat) (x : RN) : Nat → RN := fun m => if m = n then x else R m
theorem putR_same (R : Nat → RN) (n : Nat) (x : RN) : putR R n x n = x := if_pos rfl
theorem putR_ne (R : Nat → RN) (n : Nat) (x : RN) (m : Nat) (h : m ≠ n) : putR R n x m = R m := if_neg h
def isSl (v : Value) : Prop := ∃ a l c, v = .slice a l c
/-- The document's forest in its block. -/
structure RB (w : World) (b : Nat) (R : Nat → RN) (rv : Value) : Prop where
  blk : ∃ C, w.heap[b]? = some (.cells C 34 (0, 0)) ∧ C.size = 321
  nd : ∀ n j, n < 40 → j < 8 → w.cell? ⟨b, n * 8 + j, none⟩ = some (rcell (R n) j)
  rt : w.cell? ⟨b, 320, none⟩ = some rv
  sl : ∀ n, n < 40 → isSl (R n).ns ∧ isSl (R n).ks
section
variable {w w' : World} {b : Nat} {R R' : Nat → RN} {rv : Value}
theorem RB.frozen (h : RB w b R rv) (o : Nat) : w.frozen? ⟨b, o, none⟩ = false := by obtain ⟨C, h1, _⟩ := h.blk; exact frozen_blk h1 o
theorem RB.lt (h : RB w b R rv) : b < w.heap.size := by obtain ⟨C, h1, _⟩ := h.blk; exact (Array.getElem?_eq_some_iff.1 h1).1
theorem RB.same (h : RB w b R rv) (e : w'.heap[b]? = w.heap[b]?) : RB w' b R rv := ⟨by rw [e]; exact h.blk, fun n j hn hj => (World.cell?_of_block e).trans (h.nd n j hn hj), (World.cell?_of_block e).trans h.rt, h.sl⟩
theorem RB.cKind (h : RB w b R rv) (n : Nat) (hn : n < 40) : w.cell? ⟨b, n * 8, none⟩ = some (.int .i64 ((R n).kind : Int)) := h.nd n 0 hn (by omega)
theorem RB.cTree (h : RB w b R rv) (n : Nat) (hn : n < 40) : w.cell? ⟨b, n * 8 + 1, none⟩ = some (.int .i64 ((R n).tree : Int)) := h.nd n 1 hn (by omega)
theorem RB.cLinks (h : RB w b R rv) (n : Nat) (hn : n < 40) : w.cell? ⟨b, n * 8 + 2, none⟩ = some (.int .i64 ((R n).links : Int)) := h.nd n 2 hn (by omega)
theorem RB.cHeld (h : RB w b R rv) (n : Nat) (hn : n < 40) : w.cell? ⟨b, n * 8 + 3, none⟩ = some (.int .i64 ((R n).held : Int)) := h.nd n 3 hn (by omega)
theorem RB.cUp (h : RB w b R rv) (n : Nat) (hn : n < 40) : w.cell? ⟨b, n * 8 + 4, none⟩ = some (.int .i64 ((R n).up : Int)) := h.nd n 4 hn (by omega)
theorem RB.cData (h : RB w b R rv) (n : Nat) (hn : n < 40) : w.cell? ⟨b, n * 8 + 5, none⟩ = some (.string (R n).data) := h.nd n 5 hn (by omega)
theorem RB.cNs (h : RB w b R rv) (n : Nat) (hn : n < 40) : w.cell? ⟨b, n * 8 + 6, none⟩ = some (R n).ns := h.nd n 6 hn (by omega)
theorem RB.cKs (h : RB w b R rv) (n : Nat) (hn : n < 40) : w.cell? ⟨b, n * 8 + 7, none⟩ = some (R n).ks := h.nd n 7 hn (by omega)
/-- One cell of one node is stored. -/
theorem RB.setN (h : RB w b R rv) (n j : Nat) (hn : n < 40) (hj : j < 8) (v : Value) (x : RN) (hx : ∀ i, i < 8 → rcell x i = if i = j then v else rcell (R n) i) (hl : isSl x.ns ∧ isSl x.ks) : RB (w.setCell ⟨b, n * 8 + j, none⟩ v) b (putR R n x) rv := by
  obtain ⟨C, h1, h2⟩ := h.blk
  refine ⟨⟨_, blk_set h1 _ v, by simpa using h2⟩, fun m i hm hi => ?_, ?_, fun m hm => ?_⟩
  · by_cases e : m = n
    · subst e
      rw [putR_same, hx i hi]
      by_cases d : i = j
      · subst d; rw [cell_set_same h1 _ v (by omega), if_pos rfl]
      · rw [cell_set_ne h1 _ _ v (by omega), if_neg d]; exact h.nd m i hm hi
    · rw [cell_set_ne h1 _ _ v (by omega), putR_ne _ _ _ _ e]; exact h.nd m i hm hi
  · rw [cell_set_ne h1 _ _ v (by omega)]; exact h.rt
  · by_cases e : m = n
    · subst e; rw [putR_same]; exact hl
    · rw [putR_ne _ _ _ _ e]; exact h.sl m hm
theorem RB.setRoots (h : RB w b R rv) (v : Value) : RB (w.setCell ⟨b, 320, none⟩ v) b R v := by
  obtain ⟨C, h1, h2⟩ := h.blk
  refine ⟨⟨_, blk_set h1 _ v, by simpa using h2⟩, fun m i hm hi => ?_, cell_set_same h1 _ v (by omega), h.sl⟩
  rw [cell_set_ne h1 _ _ v (by omega)]; exact h.nd m i hm hi
theorem rcell_at (x : RN) : rcell x 0 = .int .i64 (x.kind : Int) ∧ rcell x 1 = .int .i64 (x.tree : Int) ∧ rcell x 2 = .int .i64 (x.links : Int) ∧ rcell x 3 = .int .i64 (x.held : Int) ∧ rcell x 4 = .int .i64 (x.up : Int) ∧ rcell x 5 = .string x.data ∧ rcell x 6 = x.ns ∧ rcell x 7 = x.ks := ⟨rfl, rfl, rfl, rfl, rfl, rfl, rfl, rfl⟩
theorem below8 {i : Nat} (h : i < 8) : i = 0 ∨ i = 1 ∨ i = 2 ∨ i = 3 ∨ i = 4 ∨ i = 5 ∨ i = 6 ∨ i = 7 := by omega
theorem RB.setLinks (h : RB w b R rv) (n v : Nat) (hn : n < 40) : RB (w.setCell ⟨b, n * 8 + 2, none⟩ (.int .i64 (v : Int))) b (putR R n { R n with links := v }) rv := h.setN n 2 hn (by omega) _ _ (fun i hi => by rcases below8 hi with rfl | rfl | rfl | rfl | rfl | rfl | rfl | rfl <;> rfl) (h.sl n hn)
theorem RB.setHeld (h : RB w b R rv) (n v : Nat) (hn : n < 40) : RB (w.setCell ⟨b, n * 8 + 3, none⟩ (.int .i64 (v : Int))) b (putR R n { R n with held := v }) rv := h.setN n 3 hn (by omega) _ _ (fun i hi => by rcases below8 hi with rfl | rfl | rfl | rfl | rfl | rfl | rfl | rfl <;> rfl) (h.sl n hn)
theorem RB.setUp (h : RB w b R rv) (n v : Nat) (hn : n < 40) : RB (w.setCell ⟨b, n * 8 + 4, none⟩ (.int .i64 (v : Int))) b (putR R n { R n with up := v }) rv := h.setN n 4 hn (by omega) _ _ (fun i hi => by rcases below8 hi with rfl | rfl | rfl | rfl | rfl | rfl | rfl | rfl <;> rfl) (h.sl n hn)
theorem RB.setData (h : RB w b R rv) (n : Nat) (v : ByteArray) (hn : n < 40) : RB (w.setCell ⟨b, n * 8 + 5, none⟩ (.string v)) b (putR R n { R n with data := v }) rv := h.setN n 5 hn (by omega) _ _ (fun i hi => by rcases below8 hi with rfl | rfl | rfl | rfl | rfl | rfl | rfl | rfl <;> rfl) (h.sl n hn)
theorem RB.setNs (h : RB w b R rv) (n : Nat) (v : Value) (hn : n < 40) (hv : isSl v) : RB (w.setCell ⟨b, n * 8 + 6, none⟩ v) b (putR R n { R n with ns := v }) rv := h.setN n 6 hn (by omega) _ _ (fun i hi => by rcases below8 hi with rfl | rfl | rfl | rfl | rfl | rfl | rfl | rfl <;> rfl) ⟨hv, (h.sl n hn).2⟩
theorem RB.setKs (h : RB w b R rv) (n : Nat) (v : Value) (hn : n < 40) (hv : isSl v) : RB (w.setCell ⟨b, n * 8 + 7, none⟩ v) b (putR R n { R n with ks := v }) rv := h.setN n 7 hn (by omega) _ _ (fun i hi => by rcases below8 hi with rfl | rfl | rfl | rfl | rfl | rfl | rfl | rfl <;> rfl) ⟨(h.sl n hn).1, hv⟩
end
/-- Where lists may lie: behind a block; not where others have theirs. -/
structure Bs where
  base : Nat
  av : Nat → Prop
/-- Where its lists may lie. -/
def Oth (B : Bs) (b : Nat) (rv : Value) (g : Nat) : Prop := B.base ≤ g ∧ g ≠ b ∧ rv.ownBlock ≠ some g ∧ ¬ B.av g
/-- What a node of the document's is, if it is the code's node x. -/
structure NR (B : Bs) (b : Nat) (rv : Value) (W : World) (x : Nd) (r : RN) : Prop where
  kd : r.kind = x.kind
  nm : x.kind ≠ 0 → r.tree = x.tree ∧ r.links = x.links ∧ r.held = x.held
  up : x.kind = 2 → r.up = x.up
  ns : x.kind = 2 → LV (Oth B b rv) ((Tr.lsN x).map Value.string) r.ns W
  ks : x.kind = 2 → LV (Oth B b rv) (rowOf (Tr.ksN x)) r.ks W
  fl : x.kind = 1 → r.data = Tr.rdS x.byt 0 x.size
theorem NR.kept {B : Bs} {b : Nat} {rv : Value} {W W' : World} {x : Nd} {r : RN} (h : NR B b rv W x r) (hs : W.heap.size ≤ W'.heap.size) (hk : ∀ g, Oth B b rv g → g < W.heap.size → W'.heap[g]? = W.heap[g]?) : NR B b rv W' x r :=
  ⟨h.kd, h.nm, h.up, fun c => (h.ns c).kept hs hk, fun c => (h.ks c).kept hs hk, h.fl⟩
/-- The document's forest, being F, lies in block b; all of it behind B. -/
structure FR (B : Bs) (W : World) (b : Nat) (F : Fo) (R : Nat → RN) (rv : Value) : Prop where
  rb : RB W b R rv
  le : B.base ≤ b
  own : W.ownsRow B.base 3 1 rv F.trees (rowOf ((List.range F.trees).map F.root))
  ob : rv.ownBlock ≠ some b
  nd : ∀ n, n < 40 → NR B b rv W (F.nd n) (R n)
  bd : ∀ g, B.av g → g < W.heap.size
  ra : ∀ g, rv.ownBlock = some g → ¬ B.av g
section
variable {B : Bs} {b c : Nat} {W W' : World} {F : Fo} {R : Nat → RN} {rv : Value}
/-- All of its blocks are as they were. -/
theorem FR.kept (h : FR B W b F R rv) (hs : W.heap.size ≤ W'.heap.size) (hb : W'.heap[b]? = W.heap[b]?) (hk : ∀ g, Oth B b rv g → g < W.heap.size → W'.heap[g]? = W.heap[g]?) (ho : W'.ownsRow B.base 3 1 rv F.trees (rowOf ((List.range F.trees).map F.root))) : FR B W' b F R rv :=
  ⟨h.rb.same hb, h.le, ho, h.ob, fun n hn => (h.nd n hn).kept hs (fun g hg hl => hk g hg hl), fun g hg => Nat.lt_of_lt_of_le (h.bd g hg) hs, h.ra⟩
theorem FR.below (h : FR B W b F R rv) (f : Below W.heap.size W W') : FR B W' b F R rv :=
  h.kept f.size (f.block b h.rb.lt) (fun g _ hl => f.block g hl) (h.own.kept (row := none) ⟨f.os, f.tape, f.output, f.size, fun k hk _ => f.block k hk⟩ (Classical.em _))
theorem FR.drewN (h : FR B W b F R rv) (n : Nat) : FR B (W.drewN n) b F R rv := h.below ⟨rfl, rfl, rfl, Nat.le_refl _, fun _ _ => rfl⟩
/-- Another block turns, ahead of B. -/
theorem FR.frm (h : FR B W b F R rv) (f : Frm c W W') (hc : c < B.base) : FR B W' b F R rv :=
  h.kept f.size (f.block b h.rb.lt (by have := h.le; omega)) (fun g hg hl => f.block g hl (by have := hg.1; omega)) (h.own.kept (row := some c) ⟨f.os, f.tape, f.output, f.size, fun k hk hne => f.block k hk (fun e => hne (by rw [e]))⟩ (.inr (fun e => by have := (h.own.lt c e).1; omega)))
/-- Another block turns, where none of its lists may lie. -/
theorem FR.avoid (h : FR B W b F R rv) (f : Frm c W W') (hc : B.av c) (hb : c ≠ b) : FR B W' b F R rv :=
  h.kept f.size (f.block b h.rb.lt (Ne.symm hb)) (fun g hg hl => f.block g hl (fun e => hg.2.2.2 (by rw [e]; exact hc))) (h.own.kept (row := some c) ⟨f.os, f.tape, f.output, f.size, fun k hk hne => f.block k hk (fun e => hne (by rw [e]))⟩ (.inr (fun e => h.ra c e hc)))
/-- New blocks, where none of its lists may lie from now on. -/
theorem FR.more (h : FR B W b F R rv) (f : Below W.heap.size W W') (Y : Nat → Prop) (hY : ∀ g, Y g → W.heap.size ≤ g ∧ g < W'.heap.size) : FR ⟨B.base, fun g => B.av g ∨ Y g⟩ W' b F R rv := by
  have k := h.below f
  have lv : ∀ xs v, LV (Oth B b rv) xs v W → LV (Oth ⟨B.base, fun g => B.av g ∨ Y g⟩ b rv) xs v W' := fun xs v l => by
    have l1 := l.mono (Q := fun g => Oth B b rv g ∧ g < W.heap.size) (fun g hg hl => ⟨hg, hl⟩)
    have l2 := l1.kept f.size (fun g _ hl => f.block g hl)
    exact l2.mono (fun g hg _ => ⟨hg.1.1, hg.1.2.1, hg.1.2.2.1, fun e => by
      rcases e with e | e
      · exact hg.1.2.2.2 e
      · have := (hY g e).1
        have := hg.2
        omega⟩)
  refine ⟨k.rb, k.le, k.own, k.ob, fun n hn => ?_, fun g hg => ?_, fun g hg e => ?_⟩
  · have q := h.nd n hn
    exact ⟨q.kd, q.nm, q.up, fun c => lv _ _ (q.ns c), fun c => lv _ _ (q.ks c), q.fl⟩
  · rcases hg with e | e
    · exact k.bd g e
    · exact (hY g e).2
  · rcases e with e | e
    · exact h.ra g hg e
    · have := (hY g e).1
      have := (h.own.lt g hg).2
      omega
end
end Go.Proofs.YthdadmbpnoofoaaGreatDoor
/- The document's own forest, plain: bytes; noughts stand behind the end of a file. -/
namespace Go.Proofs.YthdadmbpnoofoaaGreatDoor
open Go.RowKit
open Tr (Fo Nd)

theorem rdS_fold (l : List Int) : ∀ (r : ByteArray), (l.foldl (fun r n => r.push (UInt8.ofNat n.toNat)) r).data.toList = r.data.toList ++ l.map fun n => UInt8.ofNat n.toNat := by
  induction l with
  | nil => intro r; simp
  | cons a l ih => intro r; rw [List.foldl_cons, ih]; simp [ByteArray.push]
theorem Tr.rdS_data (f : Nat → Int) (a k : Nat) : (Tr.rdS f a k).data.toList = (List.range k).map fun j => UInt8.ofNat (f (a + j)).toNat := by
  unfold Tr.rdS Tr.rdL
  rw [rdS_fold]
  simp [Function.comp_def]
theorem Tr.rdS_size (f : Nat → Int) (a k : Nat) : (Tr.rdS f a k).size = k := by
  have := congrArg List.length (Tr.rdS_data f a k)
  simpa using this
theorem bytes_ext {s t : ByteArray} (h : s.data.toList = t.data.toList) : s = t := Go.WideShapes.bytes_inj h
theorem Tr.rdS_ext {f g : Nat → Int} {a c k : Nat} (h : ∀ j, j < k → f (a + j) = g (c + j)) : Tr.rdS f a k = Tr.rdS g c k := by
  apply bytes_ext
  rw [Tr.rdS_data, Tr.rdS_data]
  exact List.map_congr_left (fun j hj => by rw [h j (List.mem_range.1 hj)])
theorem extract_toList (s : ByteArray) (i j : Nat) : (s.extract i j).data.toList = (s.data.toList.take j).drop i := by
  simp [List.extract_eq_take_drop]
  rw [List.drop_take]
/-- A piece of it. -/
theorem Tr.rdS_cut (f : Nat → Int) (a k i j : Nat) (hj : j ≤ k) : (Tr.rdS f a k).extract i j = Tr.rdS f (a + i) (j - i) := by
  apply bytes_ext
  rw [extract_toList, Tr.rdS_data, Tr.rdS_data]
  apply List.ext_getElem
  · simp; omega
  · intro m h1 h2
    simp [Nat.add_assoc]
/-- One behind the other. -/
theorem Tr.rdS_cat (f : Nat → Int) (a i j : Nat) : Tr.rdS f a i ++ Tr.rdS f (a + i) j = Tr.rdS f a (i + j) := by
  apply bytes_ext
  rw [ByteArray.data_append, Array.toList_append, Tr.rdS_data, Tr.rdS_data, Tr.rdS_data, List.range_add, List.map_append, List.map_map]
  simp [Function.comp_def, Nat.add_assoc]
theorem Tr.rdS_zero (f : Nat → Int) (a : Nat) : Tr.rdS f a 0 = ByteArray.empty := rfl
/-- One byte more. -/
theorem Tr.rdS_step (f : Nat → Int) (n a j : Nat) (h : a + j < n) : Tr.rdS f a j ++ (Tr.rdS f 0 n).extract (a + j) (a + j + 1) = Tr.rdS f a (j + 1) := by
  rw [Tr.rdS_cut f 0 n _ _ (by omega), show a + j + 1 - (a + j) = 1 by omega, Nat.zero_add]
  exact Tr.rdS_cat f a j 1
/-- A nought more. -/
theorem Tr.rdS_nought (f : Nat → Int) (a j : Nat) (h : f (a + j) = 0) : Tr.rdS f a j ++ ByteArray.empty.push 0 = Tr.rdS f a (j + 1) := by
  apply bytes_ext
  rw [ByteArray.data_append, Array.toList_append, Tr.rdS_data, Tr.rdS_data, List.range_succ, List.map_append]
  simp [h]
/-- Its own bytes. -/
theorem Tr.rdS_own (f : Nat → Int) (s : ByteArray) (a : Nat) : Tr.rdS (Tr.wrB f a (Tr.byI s)) a s.size = s := by
  apply bytes_ext
  rw [Tr.rdS_data]
  apply List.ext_getElem
  · simp
  · intro m h1 h2
    have hm : m < s.data.size := by simpa using h2
    simp only [List.getElem_map, List.getElem_range, Tr.wrB, Tr.byI, Nat.add_sub_cancel_left, List.getElem?_map]
    rw [if_neg (by omega), List.getElem?_eq_getElem (by simpa using hm)]
    simp
/-- Written: what was ahead of it, itself, and what was behind it. -/
theorem Tr.rdS_written (f : Nat → Int) (s : ByteArray) (a n : Nat) :
    Tr.rdS f 0 a ++ s ++ Tr.rdS f (a + s.size) (n - (a + s.size)) = Tr.rdS (Tr.wrB f a (Tr.byI s)) 0 (max n (a + s.size)) := by
  have e1 : Tr.rdS f 0 a = Tr.rdS (Tr.wrB f a (Tr.byI s)) 0 a := Tr.rdS_ext (fun j hj => by unfold Tr.wrB; rw [if_pos (by omega)])
  have e2 : Tr.rdS f (a + s.size) (n - (a + s.size)) = Tr.rdS (Tr.wrB f a (Tr.byI s)) (a + s.size) (n - (a + s.size)) := Tr.rdS_ext (fun j hj => by
    unfold Tr.wrB
    rw [if_neg (by omega), List.getElem?_eq_none (by rw [Tr.byI_len]; omega)]; rfl)
  have e3 := Tr.rdS_own f s a
  have c1 := Tr.rdS_cat (Tr.wrB f a (Tr.byI s)) 0 a s.size
  rw [Nat.zero_add, e3] at c1
  have c2 := Tr.rdS_cat (Tr.wrB f a (Tr.byI s)) 0 (a + s.size) (n - (a + s.size))
  rw [Nat.zero_add] at c2
  rw [e1, c1, e2, c2]
  congr 1
  omega
/-- Behind the end of a file are noughts. -/
def Tr.Zn (x : Nd) : Prop := x.kind = 1 → ∀ j, x.size ≤ j → j < 40 → x.byt j = 0
def Tr.Zb (F : Fo) : Prop := ∀ n, n < 40 → Tr.Zn (F.nd n)
theorem Tr.Zb.put {F : Fo} {n : Nat} {x : Nd} (h : Tr.Zb F) (hx : Tr.Zn x) : Tr.Zb (F.put n x) := fun m hm => by
  by_cases c : m = n
  · subst c; rw [Tr.put_same]; exact hx
  · rw [Tr.put_ne _ _ _ _ c]; exact h m hm
theorem Tr.zn_no : Tr.Zn Nd.no := fun h => absurd h (by decide)
theorem Tr.zn_new (kd tr u : Nat) : Tr.Zn (newN kd tr u) := fun _ _ _ _ => rfl
theorem Tr.zn_dir {x : Nd} (h : x.kind = 2) : Tr.Zn x := fun k => by rw [h] at k; exact absurd k (by decide)
theorem Tr.Zb.swe {F : Fo} {n : Nat} (h : Tr.Zb F) : Tr.Zb (Tr.swe F n) := by
  unfold Tr.swe
  split
  · exact h.put Tr.zn_no
  · exact h
theorem Tr.Zb.leaF {F : Fo} {n q : Nat} {s : ByteArray} (h : Tr.Zb F) (n2 : (F.nd n).kind = 2) : Tr.Zb (Tr.leaF F n s q) := by
  have a : Tr.Zb (F.put n (Tr.adN (F.nd n) s q)) := h.put (Tr.zn_dir n2)
  unfold Tr.leaF
  split
  · rename_i c
    exact a.put (Tr.zn_dir c)
  · exact a
theorem Tr.zb0 : Tr.Zb Tr.f0 := fun _ _ => Tr.zn_no
theorem Tr.Zb.pla {F G : Fo} {T : Nat} {E : Int} (h : Tr.Zb F) (hm : Tr.PlaTo F T E G) : Tr.Zb G := by
  rcases hm with ⟨_, _, _, rfl⟩ | ⟨_, n, e, hf, hm⟩
  · exact h
  rcases hm with ⟨_, _, _, rfl⟩ | ⟨_, _, _, rfl⟩
  · exact h
  · exact h.put (x := newN 2 F.trees n) (n := n) (Tr.zn_new _ _ _)
theorem Tr.Zb.mak {F G : Fo} {K : Nat} {z kz E : Int} {s : ByteArray} (h : Tr.Zb F) (hm : Tr.MakTo F z s kz K E G) : Tr.Zb G := by
  rcases hm with ⟨_, _, _, _, rfl⟩ | ⟨hkz, e, hw, hm⟩
  · exact h
  rcases hm with ⟨_, _, _, rfl⟩ | ⟨rfl, q, e2, hf, hm⟩
  · exact h
  rcases hm with ⟨_, _, _, rfl⟩ | ⟨rfl, _, _, rfl⟩
  · exact h
  obtain ⟨n, rfl, n40, n2, _⟩ := hw.ok
  have q0 : (F.nd q).kind = 0 := by
    rcases hf with ⟨_, _, h1, _⟩ | ⟨h1, _⟩
    · exact h1
    · omega
  rw [Int.toNat_natCast]
  unfold Tr.makF
  refine (h.put (Tr.zn_new _ _ _)).leaF ?_
  rw [Tr.put_ne _ _ _ _ (fun e => by rw [e, q0] at n2; exact absurd n2 (by decide))]
  exact n2
theorem Tr.Zb.lin {F G : Fo} {y z E : Int} {s : ByteArray} (h : Tr.Zb F) (hm : Tr.LinTo F y z s E G) : Tr.Zb G := by
  rcases hm with ⟨_, _, rfl⟩ | ⟨ey, e, hw, hm⟩
  · exact h
  rcases hm with ⟨_, _, rfl⟩ | ⟨rfl, hm⟩
  · exact h
  rcases hm with ⟨_, _, rfl⟩ | ⟨_, _, rfl⟩
  · exact h
  obtain ⟨n, rfl, n40, n2, _⟩ := hw.ok
  obtain ⟨q, rfl, q40, _, q1⟩ := Tr.isE_ok ey
  rw [Int.toNat_natCast, Int.toNat_natCast]
  unfold Tr.linF
  refine (h.put (x := { F.nd q with links := (F.nd q).links + 1 }) (h q q40)).leaF ?_
  rw [Tr.put_ne _ _ _ _ (fun e => by rw [e, q1] at n2; exact absurd n2 (by decide))]
  exact n2
theorem Tr.Zb.rem {F G : Fo} {z E : Int} {s : ByteArray} (h : Tr.Zb F) (ho : Tr.Ok F) (hm : Tr.RemTo F z s E G) : Tr.Zb G := by
  obtain ⟨K, e, hf, ⟨_, _, rfl⟩ | ⟨rfl, hm⟩⟩ := hm
  · exact h
  rcases hm with ⟨_, _, _, rfl⟩ | ⟨_, _, i, hp, rfl⟩
  · exact h
  obtain ⟨n, i', rfl, n40, n2, hp', hK⟩ := hf.ok
  have K40 : K < 40 := by rw [hK]; exact (ho.ki n i' n40 n2 hp'.lt).1
  rw [Int.toNat_natCast]
  unfold Tr.remF
  have a : Tr.Zb (F.put n (Tr.forN (F.nd n) i)) := h.put (Tr.zn_dir n2)
  refine Tr.Zb.swe (a.put ?_)
  exact a K K40
theorem Tr.Zb.mov {F G : Fo} {z y E : Int} {s o : ByteArray} (h : Tr.Zb F) (hm : Tr.MovTo F z s y o E G) : Tr.Zb G := by
  obtain ⟨K, e, hf, ⟨_, _, rfl⟩ | ⟨rfl, hm⟩⟩ := hm
  · exact h
  rcases hm with ⟨_, _, rfl⟩ | ⟨ey, hm⟩
  · exact h
  rcases hm with ⟨_, _, rfl⟩ | ⟨_, hm⟩
  · exact h
  rcases hm with ⟨_, _, rfl⟩ | ⟨_, i, _, e2, _, hm⟩
  · exact h
  rcases hm with ⟨_, _, rfl⟩ | ⟨_, _, rfl⟩
  · exact h
  obtain ⟨n, i', rfl, n40, n2, hp', hK⟩ := hf.ok
  obtain ⟨t, rfl, t40, _, t2⟩ := Tr.isE_ok ey
  rw [Int.toNat_natCast, Int.toNat_natCast]
  unfold Tr.movF
  refine (h.put (x := Tr.forN (F.nd n) i) (Tr.zn_dir n2)).leaF ?_
  by_cases c : t = n
  · subst c; rw [Tr.put_same]; exact n2
  · rw [Tr.put_ne _ _ _ _ c]; exact t2
theorem Tr.Zb.hol {F : Fo} (h : Tr.Zb F) (z : Int) : Tr.Zb (Tr.hol F z) := by
  unfold Tr.hol
  split
  · rename_i c
    obtain ⟨n, rfl, n40, _⟩ := Tr.nodeE_ok c
    rw [Int.toNat_natCast]
    refine h.put ?_
    exact h n n40
  · exact h
theorem Tr.Zb.letT {F : Fo} (h : Tr.Zb F) (z : Int) : Tr.Zb (Tr.letT F z) := by
  unfold Tr.letT
  split
  · rename_i c
    have c' : Tr.nodeE F z = 0 := by
      unfold Tr.letE at c
      by_cases d : Tr.nodeE F z = 0
      · exact d
      · rw [if_neg d] at c; exact c
    obtain ⟨n, rfl, n40, _⟩ := Tr.nodeE_ok c'
    rw [Int.toNat_natCast]
    refine Tr.Zb.swe (h.put ?_)
    exact h n n40
  · exact h
theorem Tr.Zb.wri {F : Fo} (h : Tr.Zb F) (z a : Int) (s : ByteArray) : Tr.Zb (Tr.wriF F z a s) := by
  unfold Tr.wriF
  split
  · rename_i c
    have c' : Tr.isE F z 1 = 0 := by
      have c1 := c.1
      unfold Tr.wriE at c1
      by_cases d : Tr.isE F z 1 = 0
      · exact d
      · rw [if_pos d] at c1; exact c1
    obtain ⟨n, rfl, n40, _, n1⟩ := Tr.isE_ok c'
    rw [Int.toNat_natCast]
    refine h.put (fun _ j hj h40 => ?_)
    have hj' : max (F.nd n).size (a.toNat + s.size) ≤ j := hj
    show Tr.wrB _ _ _ j = 0
    unfold Tr.wrB
    rw [if_neg (by omega), List.getElem?_eq_none (by rw [Tr.byI_len]; omega)]
    exact h n n40 n1 j (by omega) h40
  · exact h
theorem Tr.Zb.cut {F : Fo} (h : Tr.Zb F) (z a : Int) : Tr.Zb (Tr.cutF F z a) := by
  unfold Tr.cutF
  split
  · rename_i c
    have c' : Tr.isE F z 1 = 0 := by
      unfold Tr.cutE at c
      by_cases d : Tr.isE F z 1 = 0
      · exact d
      · rw [if_pos d] at c; exact c
    obtain ⟨n, rfl, n40, _, n1⟩ := Tr.isE_ok c'
    rw [Int.toNat_natCast]
    refine h.put (fun _ j hj h40 => ?_)
    have hj' : a.toNat ≤ j := hj
    show Tr.wrB _ _ _ j = 0
    unfold Tr.wrB
    rw [if_neg (by omega), List.getElem?_replicate, if_pos (by omega)]
    rfl
  · exact h
end Go.Proofs.YthdadmbpnoofoaaGreatDoor
/- The document's own forest: NameMay, Is. -/
namespace Go.Proofs.YthdadmbpnoofoaaGreatDoor
open Go.RowKit
open Tr (Fo Nd)

set_option maxRecDepth 100000 in
set_option maxHeartbeats 1000000 in
theorem rname_any (s : ByteArray) (w : World) : Calls Tryz.prog 101 #[.string s] w fun e w' => e = .returned (.bool (Tr.nameB s)) ∧ w' = w := by
  by_cases c1 : s.size = 0
  · have HO : Hid (Tr.nameB s = false) := Hid.intro (by unfold Tr.nameB; simp [c1])
    have d1 : (s.size : Int) < 1 := by omega
    clear c1
    go_enter Tryz.func101, Tryz.ntmps101
    go_wp2_with fail
    go_ret
    exact ⟨ret_bool (by rw [HO.out]), rfl⟩
  · have d1 : decide ((s.size : Int) < 1) = false := by simp; omega
    by_cases c2 : 8 < s.size
    · have HO : Hid (Tr.nameB s = false) := Hid.intro (by unfold Tr.nameB; simp; omega)
      have d2 : (8 : Int) < (s.size : Int) := by omega
      clear c1 c2
      go_enter Tryz.func101, Tryz.ntmps101
      go_wp2_with fail
      go_ret
      exact ⟨ret_bool (by rw [HO.out]), rfl⟩
    · have d2 : decide ((8 : Int) < (s.size : Int)) = false := by simp; omega
      by_cases c3 : (s.toList == [46]) = true
      · have HO : Hid (Tr.nameB s = false) := Hid.intro (by unfold Tr.nameB; rw [c3]; simp)
        clear c1 c2
        go_enter Tryz.func101, Tryz.ntmps101
        go_wp2_with fail
        go_ret
        exact ⟨ret_bool (by rw [HO.out]), rfl⟩
      · have d3 : (s.toList == [46]) = false := by simpa using c3
        by_cases c4 : (s.toList == [46, 46]) = true
        · have HO : Hid (Tr.nameB s = false) := Hid.intro (by unfold Tr.nameB; rw [c4]; simp)
          clear c1 c2 c3
          go_enter Tryz.func101, Tryz.ntmps101
          go_wp2_with fail
          go_ret
          exact ⟨ret_bool (by rw [HO.out]), rfl⟩
        · have d4 : (s.toList == [46, 46]) = false := by simpa using c4
          have HO : Hid (Tr.nameB s = Tr.allOk s s.size) := Hid.intro (by unfold Tr.nameB; rw [d3, d4, decide_eq_true (show 1 ≤ s.size by omega), decide_eq_true (show s.size ≤ 8 by omega)]; simp)
          have hs8 : s.size ≤ 8 := by omega
          clear c1 c2 c3 c4
          go_enter Tryz.func101, Tryz.ntmps101
          go_wp2_with fail
          go_loopw [3, 4] (fun i x wr => ∃ (j : Nat), i = .int .i64 j ∧ j ≤ s.size ∧ Hid (Tr.allOk s j = true) ∧ wr = w) (fun i _ _ => s.size - (intOf i).toNat)
          case atStart => exact ⟨0, rfl, by omega, rfl, rfl⟩
          case round =>
            obtain ⟨j, rfl, hj, R, hwr⟩ := hrel
            subst wr
            by_cases hlt : j < s.size
            · have hltI : (j : Int) < (s.size : Int) := by omega
              have HB : Hid (Tr.okB (s[j]!).toNat = Tr.okB (s[j]'hlt).toNat) := Hid.intro (by rw [getElem!_pos s j hlt])
              obtain ⟨c, hc⟩ : ∃ c, (s[j]'hlt).toNat = c := ⟨_, rfl⟩
              rw [hc] at HB
              go_upto_region 7 with fail
              try rw [hc]
              clear hc
              by_cases c1 : 97 ≤ c
              · by_cases c2 : c ≤ 122
                · have d1 : (97 : Int) ≤ (c : Int) := by omega
                  have d2 : (c : Int) ≤ 122 := by omega
                  have HO2 : Hid (Tr.okB c = true) := Hid.intro (by unfold Tr.okB; simp; omega)
                  have NX : Hid (Tr.allOk s (j + 1) = true) := Hid.intro (by
                    show (Tr.allOk s j && Tr.okB (s[j]!).toNat) = true
                    rw [R.out, HB.out, HO2.out]; rfl)
                  clear HB HO2 c1 c2
                  go_wp2_with fail
                  go_roundw
                  case rel => exact ⟨j + 1, by go_num, by omega, NX, by first | rfl | trivial⟩
                  case measure => simp [intOf]; omega
                · have d1 : (97 : Int) ≤ (c : Int) := by omega
                  have d2 : decide ((c : Int) ≤ 122) = false := by simp; omega
                  have d3 : (48 : Int) ≤ (c : Int) := by omega
                  have d4 : decide ((c : Int) ≤ 57) = false := by simp; omega
                  have d5 : ((c : Int) == 46) = false := by simp; omega
                  have HO2 : Hid (Tr.okB c = false) := Hid.intro (by unfold Tr.okB; simp; omega)
                  have NO := Hid.intro (Tr.allOk_false (s := s) (j := j) (by rw [HB.out]; exact HO2.out) s.size hlt)
                  clear HB HO2 c1 c2
                  go_wp2_with fail
                  go_ret
                  exact ⟨ret_bool (by rw [HO.out, NO.out]), rfl⟩
              · by_cases c3 : 48 ≤ c ∧ c ≤ 57
                · have d1 : decide ((97 : Int) ≤ (c : Int)) = false := by simp; omega
                  have d3 : (48 : Int) ≤ (c : Int) := by omega
                  have d4 : (c : Int) ≤ 57 := by omega
                  have HO2 : Hid (Tr.okB c = true) := Hid.intro (by unfold Tr.okB; simp; omega)
                  have NX : Hid (Tr.allOk s (j + 1) = true) := Hid.intro (by
                    show (Tr.allOk s j && Tr.okB (s[j]!).toNat) = true
                    rw [R.out, HB.out, HO2.out]; rfl)
                  clear HB HO2 c1 c3
                  go_wp2_with fail
                  go_roundw
                  case rel => exact ⟨j + 1, by go_num, by omega, NX, by first | rfl | trivial⟩
                  case measure => simp [intOf]; omega
                · by_cases c5 : c = 46
                  · subst c5
                    have HO2 : Hid (Tr.okB 46 = true) := Hid.intro (by decide)
                    have NX : Hid (Tr.allOk s (j + 1) = true) := Hid.intro (by
                      show (Tr.allOk s j && Tr.okB (s[j]!).toNat) = true
                      rw [R.out, HB.out, HO2.out]; rfl)
                    clear HB HO2 c3
                    go_wp2_with fail
                    go_roundw
                    case rel => exact ⟨j + 1, by go_num, by omega, NX, by first | rfl | trivial⟩
                    case measure => simp [intOf]; omega
                  · by_cases c6 : 48 ≤ c
                    · have d1 : decide ((97 : Int) ≤ (c : Int)) = false := by simp; omega
                      have d3 : (48 : Int) ≤ (c : Int) := by omega
                      have d4 : decide ((c : Int) ≤ 57) = false := by simp; omega
                      have d5 : ((c : Int) == 46) = false := by simp; omega
                      have HO2 : Hid (Tr.okB c = false) := Hid.intro (by unfold Tr.okB; simp; omega)
                      have NO := Hid.intro (Tr.allOk_false (s := s) (j := j) (by rw [HB.out]; exact HO2.out) s.size hlt)
                      clear HB HO2 c1 c3 c5 c6
                      go_wp2_with fail
                      go_ret
                      exact ⟨ret_bool (by rw [HO.out, NO.out]), rfl⟩
                    · have d1 : decide ((97 : Int) ≤ (c : Int)) = false := by simp; omega
                      have d3 : decide ((48 : Int) ≤ (c : Int)) = false := by simp; omega
                      have d5 : ((c : Int) == 46) = false := by simp; omega
                      have HO2 : Hid (Tr.okB c = false) := Hid.intro (by unfold Tr.okB; simp; omega)
                      have NO := Hid.intro (Tr.allOk_false (s := s) (j := j) (by rw [HB.out]; exact HO2.out) s.size hlt)
                      clear HB HO2 c1 c3 c5 c6
                      go_wp2_with fail
                      go_ret
                      exact ⟨ret_bool (by rw [HO.out, NO.out]), rfl⟩
            · have hltI : ¬ (j : Int) < (s.size : Int) := by omega
              have hje : j = s.size := by omega
              have FIN : Hid (Tr.allOk s s.size = true) := Hid.intro (by rw [← hje]; exact R.out)
              clear hje
              go_wp2_with fail
              go_ret
              exact ⟨ret_bool (by rw [HO.out, FIN.out]), rfl⟩
/-- What is wrong with a node (0: of any kind). -/
def Tr.isK (F : Fo) (z : Int) (k : Nat) : Int := if k = 0 then Tr.nodeE F z else Tr.isE F z k
theorem FR.cKind {B : Bs} {b : Nat} {w : World} {F : Fo} {R : Nat → Tr.RN} {rv : Value} (h : FR B w b F R rv) (n : Nat) (hn : n < 40) : w.cell? ⟨b, n * 8, none⟩ = some (.int .i64 ((F.nd n).kind : Int)) := by
  rw [h.rb.cKind n hn, (h.nd n hn).kd]
set_option maxRecDepth 100000 in
set_option maxHeartbeats 1000000 in
theorem ris_any (B : Bs) (b k : Nat) (z : Int) (F : Fo) (R : Nat → Tr.RN) (rv : Value) (w : World) (h : FR B w b F R rv) :
    Calls Tryz.prog 68 #[.pointer (some ⟨b, 0, none⟩), .int .i64 z, .int .i64 (k : Int)] w fun e w' => e = .returned (.int .i64 (Tr.isK F z k)) ∧ w' = w := by
  by_cases c1 : z < 0
  · have HO : Hid (Tr.isK F z k = 1) := Hid.intro (by
      have e : Tr.nodeE F z = 1 := by unfold Tr.nodeE; rw [if_pos (.inl c1)]
      unfold Tr.isK Tr.isE; rw [e]; simp)
    clear h
    go_enter Tryz.func68, Tryz.ntmps68
    go_wp2_with fail
    go_ret
    rw [HO.out]; exact ⟨rfl, rfl⟩
  have d1 : decide (z < 0) = false := decide_eq_false c1
  by_cases c2 : 39 < z
  · have HO : Hid (Tr.isK F z k = 1) := Hid.intro (by
      have e : Tr.nodeE F z = 1 := by unfold Tr.nodeE; rw [if_pos (.inr c2)]
      unfold Tr.isK Tr.isE; rw [e]; simp)
    clear h
    go_enter Tryz.func68, Tryz.ntmps68
    go_wp2_with fail
    go_ret
    rw [HO.out]; exact ⟨rfl, rfl⟩
  obtain ⟨n, rfl⟩ : ∃ n : Nat, z = n := ⟨z.toNat, by omega⟩
  have n40 : n < 40 := by omega
  have n40I : (n : Int) < 40 := by omega
  have d2 : decide ((39 : Int) < (n : Int)) = false := decide_eq_false c2
  have c0 := h.cKind n n40
  have en := Tr.nodeE_some (F := F) n40
  clear h
  by_cases k0 : (F.nd n).kind = 0
  · have HO : Hid (Tr.isK F (n : Int) k = 2) := Hid.intro (by
      rw [if_pos k0] at en
      unfold Tr.isK Tr.isE; rw [en]; simp)
    rw [k0] at c0
    have c0' : w.cell? ⟨b, n * 8, none⟩ = some (.int .i64 0) := c0
    clear c0 k0 en c1 c2
    go_enter Tryz.func68, Tryz.ntmps68
    go_wp2_with fail
    go_ret
    rw [HO.out]; exact ⟨rfl, rfl⟩
  · rw [if_neg k0] at en
    obtain ⟨kd, hkd⟩ : ∃ kd, (F.nd n).kind = kd := ⟨_, rfl⟩
    rw [hkd] at c0 k0
    have k0I : ((kd : Int) == 0) = false := by simp; omega
    have k0J : ¬ (kd : Int) = 0 := by omega
    by_cases q0 : k = 0
    · subst q0
      have HO : Hid (Tr.isK F (n : Int) 0 = 0) := Hid.intro (by unfold Tr.isK; rw [if_pos rfl, en])
      clear k0 en c1 c2 hkd
      go_enter Tryz.func68, Tryz.ntmps68
      go_wp2_with fail
      go_ret
      rw [HO.out]; exact ⟨rfl, rfl⟩
    · have q0I : (0 : Int) < (k : Int) := by omega
      by_cases qk : kd = k
      · subst qk
        have HO : Hid (Tr.isK F (n : Int) kd = 0) := Hid.intro (by unfold Tr.isK Tr.isE; rw [if_neg q0, en, Int.toNat_natCast, hkd]; simp)
        clear k0 en c1 c2 hkd q0
        go_enter Tryz.func68, Tryz.ntmps68
        go_wp2_with fail
        go_ret
        rw [HO.out]; exact ⟨rfl, rfl⟩
      · have HO : Hid (Tr.isK F (n : Int) k = 11) := Hid.intro (by unfold Tr.isK Tr.isE; rw [if_neg q0, en, Int.toNat_natCast, hkd]; simp [qk])
        have qkI : ((kd : Int) == (k : Int)) = false := by simp; omega
        have qkJ : ¬ (kd : Int) = (k : Int) := by omega
        clear k0 en c1 c2 hkd q0 qk
        go_enter Tryz.func68, Tryz.ntmps68
        go_wp2_with fail
        go_ret
        rw [HO.out]; exact ⟨rfl, rfl⟩
end Go.Proofs.YthdadmbpnoofoaaGreatDoor
/- The document's own forest: place, Find, List, Root, Nodes, Room. -/
namespace Go.Proofs.YthdadmbpnoofoaaGreatDoor
open Go.RowKit
open Tr (Fo Nd RN)

theorem LV.texts {P : Nat → Prop} {L : List ByteArray} {v : Value} {W : World} (h : LV P (L.map Value.string) v W) : ∃ a c, v = .slice a L.length c ∧ (0 < L.length → ∃ g, a = some ⟨g, 0, none⟩ ∧ P g ∧ g < W.heap.size ∧ ∀ i, i < L.length → W.cell? ⟨g, i, none⟩ = some (.string (L.getD i ⟨#[]⟩))) := by
  obtain ⟨a, c, e, k⟩ := h
  rw [List.length_map] at e k
  refine ⟨a, c, e, fun hl => ?_⟩
  obtain ⟨g, e1, e2, e3, e4⟩ := k hl
  refine ⟨g, e1, e2, e3, fun i hi => ?_⟩
  rw [e4 i hi, List.getElem?_map, List.getElem?_eq_getElem hi, List.getD_eq_getElem?_getD, List.getElem?_eq_getElem hi]; rfl
theorem LV.nums {P : Nat → Prop} {L : List Nat} {v : Value} {W : World} (h : LV P (rowOf L) v W) : ∃ a c, v = .slice a L.length c ∧ (0 < L.length → ∃ g, a = some ⟨g, 0, none⟩ ∧ P g ∧ g < W.heap.size ∧ ∀ i, i < L.length → W.cell? ⟨g, i, none⟩ = some (.int .i64 ((L.getD i 0 : Nat) : Int))) := by
  obtain ⟨a, c, e, k⟩ := h
  rw [rowOf_len] at e k
  refine ⟨a, c, e, fun hl => ?_⟩
  obtain ⟨g, e1, e2, e3, e4⟩ := k hl
  refine ⟨g, e1, e2, e3, fun i hi => ?_⟩
  rw [e4 i hi]
  exact rowOf_at _ _ _ (by rw [List.getD_eq_getElem?_getD, List.getElem?_eq_getElem hi]; rfl)
/-- Where a name is among texts. -/
def PlL (L : List ByteArray) (s : ByteArray) (z : Int) : Prop := (∃ i : Nat, z = i ∧ i < L.length ∧ (L.getD i ⟨#[]⟩).toList = s.toList) ∨ (z = -1 ∧ ∀ i, i < L.length → (L.getD i ⟨#[]⟩).toList ≠ s.toList)
theorem Tr.getD_mem {x : Nd} {i : Nat} (hi : i < (Tr.lsN x).length) : ((Tr.lsN x).getD i ⟨#[]⟩).toList ∈ (Tr.lsN x).map (fun s => s.toList) := by
  rw [List.getD_eq_getElem?_getD, List.getElem?_eq_getElem hi, Option.getD_some]
  exact List.mem_map_of_mem (List.getElem_mem hi)
theorem Tr.plr_yes {x : Nd} (hd : Tr.Nodup x) {s : ByteArray} {i : Nat} (hi : i < (Tr.lsN x).length) (e : ((Tr.lsN x).getD i ⟨#[]⟩).toList = s.toList) : ∃ j : Nat, Tr.PlcTo x s (j : Int) ∧ (Tr.ksN x).getD i 0 = x.kid j := by
  have hm := Tr.getD_mem hi
  obtain ⟨j, hj, ej⟩ := Tr.lsN_mem.1 hm
  have hp := hd.plc hj (s := s) (ej.trans e)
  refine ⟨j, hp, ?_⟩
  unfold Tr.ksN
  rw [List.getD_eq_getElem?_getD, List.getElem?_map, List.getElem?_eq_getElem hi]
  rw [List.getD_eq_getElem?_getD, List.getElem?_eq_getElem hi, Option.getD_some] at e
  simp only [Option.map_some, Option.getD_some]
  rw [e, Tr.fk_plc hp]
theorem Tr.plr_no {x : Nd} {s : ByteArray} (h : ∀ i, i < (Tr.lsN x).length → ((Tr.lsN x).getD i ⟨#[]⟩).toList ≠ s.toList) : Tr.PlcTo x s (-1) := by
  refine .inr ⟨rfl, fun j hj e => ?_⟩
  obtain ⟨y, hy, ey⟩ := List.mem_map.1 (Tr.lsN_mem.2 ⟨j, hj, e⟩)
  obtain ⟨i, hi, ei⟩ := List.getElem_of_mem hy
  refine h i hi ?_
  rw [List.getD_eq_getElem?_getD, List.getElem?_eq_getElem hi, Option.getD_some, ei]
  exact ey
section
variable (B : Bs) (b : Nat) (F : Fo) (R : Nat → RN) (rv : Value) (w : World)
set_option maxRecDepth 100000 in
set_option maxHeartbeats 1000000 in
theorem rplace_any (n : Nat) (s : ByteArray) (h : FR B w b F R rv) (hn : n < 40) (k2 : (F.nd n).kind = 2) (hs : (F.nd n).size ≤ 8) :
    Calls Tryz.prog 88 #[.pointer (some ⟨b, n * 8, none⟩), .string s] w fun e w' => ∃ z, e = .returned (.int .i64 z) ∧ PlL (Tr.lsN (F.nd n)) s z ∧ w' = w := by
  obtain ⟨a, c, hv, hc⟩ := ((h.nd n hn).ns k2).texts
  have c6 := h.rb.cNs n hn
  rw [hv] at c6
  have hl := Tr.lsN_len (F.nd n)
  obtain ⟨L, hL⟩ : ∃ L, Tr.lsN (F.nd n) = L := ⟨_, rfl⟩
  rw [hL] at c6 hc hl ⊢
  obtain ⟨m, hm⟩ : ∃ m, L.length = m := ⟨_, rfl⟩
  rw [hm] at c6 hc hl
  have m8 : m ≤ 8 := by omega
  have HC := Hid.intro hc
  have HM := Hid.intro hm
  clear h hv hc hl hL hm hs k2
  go_enter Tryz.func88, Tryz.ntmps88
  go_wp2_with fail
  go_loopw [5] (fun i wr => ∃ j : Nat, i = .int .i64 j ∧ j ≤ m ∧ Hid (∀ q, q < j → (L.getD q ⟨#[]⟩).toList ≠ s.toList) ∧ Hid (wr = w)) (fun i _ => m - (intOf i).toNat)
  case atStart => exact ⟨0, rfl, by omega, Hid.intro (fun q hq => by omega), Hid.intro rfl⟩
  case round =>
    obtain ⟨j, rfl, hj, N, hwr⟩ := hrel
    have hwr2 := hwr.out
    subst hwr2
    clear hwr
    by_cases hlt : j < m
    · have hltI : (j : Int) < (m : Int) := by omega
      obtain ⟨g, ha, _, _, cls⟩ := HC.out (by omega)
      subst ha
      have cj := cls j hlt
      obtain ⟨t, ht⟩ : ∃ t, L.getD j ⟨#[]⟩ = t := ⟨_, rfl⟩
      rw [ht] at cj
      have HT := Hid.intro ht
      clear cls ht
      by_cases e : (t.toList == s.toList) = true
      · have eq : Hid (t.toList = s.toList) := Hid.intro (by simpa using e)
        go_wp2_with fail
        go_ret
        exact ⟨_, rfl, .inl ⟨j, rfl, by rw [HM.out]; exact hlt, by rw [HT.out]; exact eq.out⟩, rfl⟩
      · have e' : (t.toList == s.toList) = false := by simpa using e
        have N2 : Hid (∀ q, q < j + 1 → (L.getD q ⟨#[]⟩).toList ≠ s.toList) := Hid.intro (fun q hq => by
          by_cases d : q = j
          · subst d; rw [HT.out]; simpa using e
          · exact N.out q (by omega))
        clear e
        go_wp2_with fail
        go_roundw
        case rel => exact ⟨j + 1, by go_num, by omega, N2, Hid.intro (by first | rfl | trivial)⟩
        case measure => simp [intOf]; omega
    · have hltI : ¬ (j : Int) < (m : Int) := by omega
      go_wp2_with fail
      go_ret
      exact ⟨_, rfl, .inr ⟨rfl, fun q hq => N.out q (by have := HM.out; omega)⟩, rfl⟩
set_option maxRecDepth 100000 in
set_option maxHeartbeats 1000000 in
theorem rfind_any (z : Int) (s : ByteArray) (h : FR B w b F R rv) (ho : Tr.Ok F) :
    Calls Tryz.prog 40 #[.pointer (some ⟨b, 0, none⟩), .int .i64 z, .string s] w fun e w' => ∃ (K : Nat) (E : Int), e = .returned (.tuple #[.int .i64 (K : Int), .int .i64 E]) ∧ Tr.FndTo F z s K E ∧ w' = w := by
  have HF := Hid.intro h
  have ek : Tr.isK F z 2 = Tr.isE F z 2 := rfl
  by_cases c : Tr.isE F z 2 = 0
  · obtain ⟨n, rfl, n40, _, k2⟩ := Tr.isE_ok c
    have n40I : (n : Int) < 40 := by omega
    have EK := Hid.intro (ek.trans c)
    obtain ⟨ka, kc, hv, hc⟩ := ((h.nd n n40).ks k2).nums
    have c7 := h.rb.cKs n n40
    rw [hv] at c7
    have hl := Tr.ksN_len (F.nd n)
    obtain ⟨L, hL⟩ : ∃ L, Tr.ksN (F.nd n) = L := ⟨_, rfl⟩
    rw [hL] at c7 hc hl
    obtain ⟨m, hm⟩ : ∃ m, L.length = m := ⟨_, rfl⟩
    rw [hm] at c7 hc hl
    have HO := Hid.intro (And.intro (ho.sz n n40 k2) (And.intro (ho.dp n n40 k2) (And.intro k2 (And.intro hl (And.intro hL c)))))
    have HC := Hid.intro hc
    clear h ho c k2 hv hc hl hL hm ek
    go_enter Tryz.func40, Tryz.ntmps40
    go_wp2_with fail
    refine (ris_any B b 2 (n : Int) F R rv _ HF.out).mono ?_
    rintro e w1 ⟨rfl, hw1⟩
    subst w1
    rw [EK.out]
    go_wp2_with fail
    refine (rplace_any B b F R rv _ n s HF.out n40 HO.out.2.2.1 HO.out.1).mono ?_
    rintro e w1 ⟨y, rfl, hp, hw1⟩
    subst w1
    rcases hp with ⟨i, rfl, hi, hs⟩ | ⟨rfl, hno⟩
    · rw [Tr.lsN_len, ← HO.out.2.2.2.1] at hi
      obtain ⟨g, ha, _, _, cls⟩ := HC.out (by omega)
      subst ha
      have ci := cls i hi
      have hiI : (i : Int) < (m : Int) := by omega
      have HS : Hid (((Tr.lsN (F.nd n)).getD i ⟨#[]⟩).toList = s.toList) := Hid.intro hs
      generalize hK : L.getD i 0 = K at ci
      have HK := Hid.intro hK
      clear cls hs hK
      go_wp2_with fail
      go_ret2
      refine ⟨K, 0, rfl, .inr ⟨HO.out.2.2.2.2.2, .inl ?_⟩, rfl⟩
      obtain ⟨j, p1, p2⟩ := Tr.plr_yes HO.out.2.1 (by rw [Tr.lsN_len, ← HO.out.2.2.2.1]; exact hi) HS.out
      rw [HO.out.2.2.2.2.1, HK.out] at p2
      exact ⟨j, by rw [Int.toNat_natCast]; exact p1, by rw [Int.toNat_natCast]; exact p2, rfl⟩
    · have HN := Hid.intro (Tr.plr_no hno)
      clear hno
      go_wp2_with fail
      go_ret2
      exact ⟨0, 2, rfl, .inr ⟨HO.out.2.2.2.2.2, .inr ⟨by rw [Int.toNat_natCast]; exact HN.out, rfl, rfl⟩⟩, rfl⟩
  · have EK := Hid.intro (And.intro ek c)
    have pos : 0 < Tr.isE F z 2 := by have := Tr.isE_nn F z 2; omega
    clear h c ek
    go_enter Tryz.func40, Tryz.ntmps40
    go_wp2_with fail
    refine (ris_any B b 2 z F R rv _ HF.out).mono ?_
    rintro e w1 ⟨rfl, hw1⟩
    subst w1
    rw [EK.out.1]
    go_wp2_with fail
    go_ret2
    exact ⟨0, _, rfl, .inl ⟨EK.out.2, rfl, rfl⟩, rfl⟩
set_option maxRecDepth 100000 in
set_option maxHeartbeats 1000000 in
theorem rlist_any (z : Int) (h : FR B w b F R rv) :
    Calls Tryz.prog 65 #[.pointer (some ⟨b, 0, none⟩), .int .i64 z] w fun e w' => ∃ v, e = .returned (.tuple #[v, .int .i64 (Tr.isE F z 2)]) ∧ LV (Oth B b rv) ((Tr.lisL F z).map Value.string) v w ∧ w' = w := by
  have HF := Hid.intro h
  have ek : Tr.isK F z 2 = Tr.isE F z 2 := rfl
  by_cases c : Tr.isE F z 2 = 0
  · obtain ⟨n, rfl, n40, _, k2⟩ := Tr.isE_ok c
    have n40I : (n : Int) < 40 := by omega
    have EK := Hid.intro (And.intro ek c)
    have lv := (h.nd n n40).ns k2
    rw [← Tr.lisL_yes c] at lv
    have LVH := Hid.intro lv
    have c6 := h.rb.cNs n n40
    obtain ⟨a0, c0, e0, _⟩ := lv
    rw [e0] at c6 LVH
    generalize ((Tr.lisL F (n : Int)).map Value.string).length = m at c6 LVH
    clear h c k2 ek e0
    go_enter Tryz.func65, Tryz.ntmps65
    go_wp2_with fail
    refine (ris_any B b 2 (n : Int) F R rv _ HF.out).mono ?_
    rintro e w1 ⟨rfl, hw1⟩
    subst w1
    rw [EK.out.1, EK.out.2]
    go_wp2_with fail
    go_ret2
    rw [EK.out.2]
    exact ⟨_, rfl, LVH.out, rfl⟩
  · have EK := Hid.intro (And.intro ek c)
    have pos : 0 < Tr.isE F z 2 := by have := Tr.isE_nn F z 2; omega
    have LN : Hid (Tr.lisL F z = []) := Hid.intro (if_neg c)
    clear h c ek
    go_enter Tryz.func65, Tryz.ntmps65
    go_wp2_with fail
    refine (ris_any B b 2 z F R rv _ HF.out).mono ?_
    rintro e w1 ⟨rfl, hw1⟩
    subst w1
    rw [EK.out.1]
    go_wp2_with fail
    go_ret2
    refine ⟨_, rfl, ?_, rfl⟩
    rw [LN.out]
    exact LV.nil _ _
set_option maxRecDepth 100000 in
set_option maxHeartbeats 1000000 in
theorem rnodes_any (h : FR B w b F R rv) :
    Calls Tryz.prog 71 #[.pointer (some ⟨b, 0, none⟩)] w fun e w' => e = .returned (.int .i64 (Tr.cntN F 40 : Int)) ∧ w' = w := by
  have HF := Hid.intro h
  clear h
  go_enter Tryz.func71, Tryz.ntmps71
  go_wp2_with fail
  go_loopw [3, 4] (fun s i wr => ∃ (n : Nat), i = .int .i64 n ∧ s = .int .i64 (Tr.cntN F n : Int) ∧ n ≤ 40 ∧ Hid (wr = w)) (fun _ i _ => 40 - (intOf i).toNat)
  case atStart => exact ⟨0, rfl, rfl, by omega, Hid.intro rfl⟩
  case round =>
    obtain ⟨n, rfl, rfl, hn, hwr⟩ := hrel
    have hwr2 := hwr.out
    subst hwr2
    clear hwr
    by_cases hlt : n < 40
    · have hltI : (n : Int) < 40 := by omega
      have c0 := HF.out.cKind n hlt
      have HC : Tr.cntN F n ≤ n := Tr.cntN_le F n
      have HC2 : Hid (Tr.cntN F (n + 1) = Tr.cntN F n + (if (F.nd n).kind = 0 then 0 else 1)) := Hid.intro rfl
      generalize (F.nd n).kind = kd at *
      by_cases k0 : kd = 0
      · have k0I : ¬ (0 : Int) < (kd : Int) := by omega
        have NX : Hid (Tr.cntN F (n + 1) = Tr.cntN F n) := Hid.intro (by rw [HC2.out, if_pos k0]; rfl)
        generalize Tr.cntN F n = cn at *
        clear k0 HC2
        go_wp2_with fail
        go_roundw
        case rel => exact ⟨n + 1, by go_num, by rw [NX.out], by omega, Hid.intro (by first | rfl | trivial)⟩
        case measure => simp [intOf]; omega
      · have k0I : (0 : Int) < (kd : Int) := by omega
        have NX : Hid (Tr.cntN F (n + 1) = Tr.cntN F n + 1) := Hid.intro (by rw [HC2.out, if_neg k0])
        generalize Tr.cntN F n = cn at *
        have hw1 : IntKind.i64.wrap ((cn : Int) + 1) = (cn : Int) + 1 := IntWalk.i64_in _ ⟨by omega, by omega⟩
        clear k0 HC2
        go_wp2_with fail
        go_roundw
        case rel => exact ⟨n + 1, by go_num, by rw [NX.out]; go_num, by omega, Hid.intro (by first | rfl | trivial)⟩
        case measure => simp [intOf]; omega
    · have hltI : ¬ (n : Int) < 40 := by omega
      obtain rfl : n = 40 := by omega
      go_wp2_with fail
      go_ret
      exact ⟨rfl, rfl⟩
set_option maxRecDepth 100000 in
set_option maxHeartbeats 1000000 in
theorem rroot_any (z : Int) (h : FR B w b F R rv) :
    Calls Tryz.prog 28 #[.pointer (some ⟨b, 0, none⟩), .int .i64 z] w fun e w' => e = .returned (.tuple #[.int .i64 (Tr.rootN F z : Int), .int .i64 (Tr.rootE F z)]) ∧ w' = w := by
  by_cases c : z < 0 ∨ 3 < z
  · have E : Hid (Tr.rootE F z = 1 ∧ Tr.rootN F z = 0) := Hid.intro (by
      have e : Tr.rootE F z = 1 := if_pos c
      exact ⟨e, by unfold Tr.rootN; rw [e, if_neg (by omega)]⟩)
    clear h
    by_cases c1 : z < 0
    · clear c
      go_enter Tryz.func28, Tryz.ntmps28
      go_wp2_with fail
      go_ret2
      rw [E.out.1, E.out.2]; exact ⟨rfl, rfl⟩
    · have c2 : 3 < z := by omega
      have d1 : decide (z < 0) = false := decide_eq_false c1
      clear c c1
      go_enter Tryz.func28, Tryz.ntmps28
      go_wp2_with fail
      go_ret2
      rw [E.out.1, E.out.2]; exact ⟨rfl, rfl⟩
  · obtain ⟨t, rfl⟩ : ∃ t : Nat, z = t := ⟨z.toNat, by omega⟩
    have d1 : decide ((t : Int) < 0) = false := decide_eq_false (by omega)
    have d2 : decide ((3 : Int) < (t : Int)) = false := decide_eq_false (by omega)
    obtain ⟨a, cp, hv⟩ := own_form h.own
    have c0 := h.rb.rt
    by_cases ht : t < F.trees
    · have E : Hid (Tr.rootE F (t : Int) = 0 ∧ Tr.rootN F (t : Int) = F.root t) := Hid.intro (by
        have e : Tr.rootE F (t : Int) = 0 := by unfold Tr.rootE; rw [if_neg c, Int.toNat_natCast, if_neg (by omega)]
        exact ⟨e, by unfold Tr.rootN; rw [e, if_pos rfl, Int.toNat_natCast]⟩)
      have ho := h.own
      obtain ⟨gg, cap, hv2, _, _⟩ := ho.form (by omega)
      rw [hv2] at ho c0
      have ct := ho.cellAt t (by omega)
      have e2 : (rowOf ((List.range F.trees).map F.root))[t]? = some (.int .i64 (F.root t : Int)) := rowOf_at _ _ _ (by simp [ht])
      rw [e2] at ct
      have htI : ¬ ((F.trees : Int) ≤ (t : Int)) := by omega
      have htJ : (t : Int) < (F.trees : Int) := by omega
      generalize F.root t = r at *
      generalize F.trees = m at *
      clear h c ho hv hv2 e2
      go_enter Tryz.func28, Tryz.ntmps28
      go_wp2_with fail
      go_ret2
      rw [E.out.1, E.out.2]; exact ⟨rfl, rfl⟩
    · have E : Hid (Tr.rootE F (t : Int) = 2 ∧ Tr.rootN F (t : Int) = 0) := Hid.intro (by
        have e : Tr.rootE F (t : Int) = 2 := by unfold Tr.rootE; rw [if_neg c, Int.toNat_natCast, if_pos (by omega)]
        exact ⟨e, by unfold Tr.rootN; rw [e, if_neg (by omega)]⟩)
      rw [hv] at c0
      have htI : (F.trees : Int) ≤ (t : Int) := by omega
      generalize F.trees = m at *
      clear h c hv
      go_enter Tryz.func28, Tryz.ntmps28
      go_wp2_with fail
      go_ret2
      rw [E.out.1, E.out.2]; exact ⟨rfl, rfl⟩
set_option maxRecDepth 100000 in
set_option maxHeartbeats 1000000 in
theorem rroom_any (z : Int) (s : ByteArray) (h : FR B w b F R rv) (ho : ∀ n, n < 40 → (F.nd n).kind = 2 → Tr.Nodup (F.nd n) ∧ (F.nd n).size ≤ 8) :
    Calls Tryz.prog 77 #[.pointer (some ⟨b, 0, none⟩), .int .i64 z, .string s] w fun e w' => ∃ E : Int, e = .returned (.int .i64 E) ∧ Tr.WanTo F z s E ∧ 0 ≤ E ∧ w' = w := by
  have HF := Hid.intro h
  have ek : Tr.isK F z 2 = Tr.isE F z 2 := rfl
  by_cases c : Tr.isE F z 2 = 0
  · obtain ⟨n, rfl, n40, _, k2⟩ := Tr.isE_ok c
    have n40I : (n : Int) < 40 := by omega
    have EK := Hid.intro (ek.trans c)
    obtain ⟨na, nc, hv, _⟩ := ((h.nd n n40).ns k2).texts
    have c6 := h.rb.cNs n n40
    rw [hv, Tr.lsN_len] at c6
    obtain ⟨m, hm⟩ : ∃ m, (F.nd n).size = m := ⟨_, rfl⟩
    rw [hm] at c6
    have HO := Hid.intro (And.intro (ho n n40 k2) (And.intro k2 (And.intro hm c)))
    clear h ho c k2 hv hm ek
    go_enter Tryz.func77, Tryz.ntmps77
    go_wp2_with fail
    refine (ris_any B b 2 (n : Int) F R rv _ HF.out).mono ?_
    rintro e w1 ⟨rfl, hw1⟩
    subst w1
    rw [EK.out]
    go_wp2_with fail
    refine (rname_any s _).mono ?_
    rintro e w1 ⟨rfl, hw1⟩
    subst w1
    cases hnb : Tr.nameB s
    · have NB := Hid.intro hnb
      clear hnb
      go_wp2_with fail
      go_ret
      exact ⟨9, rfl, .inr ⟨HO.out.2.2.2, .inl ⟨NB.out, rfl⟩⟩, by decide, rfl⟩
    · have NB := Hid.intro hnb
      clear hnb
      go_wp2_with fail
      refine (rplace_any B b F R rv _ n s HF.out n40 HO.out.2.1 HO.out.1.2).mono ?_
      rintro e w1 ⟨y, rfl, hp, hw1⟩
      subst w1
      rcases hp with ⟨i, rfl, hi, hs⟩ | ⟨rfl, hno⟩
      · obtain ⟨j, p1, _⟩ := Tr.plr_yes HO.out.1.1 hi hs
        have P1 := Hid.intro p1
        have i0 : (0 : Int) ≤ (i : Int) := by omega
        clear hi hs p1
        go_wp2_with fail
        go_ret
        exact ⟨3, rfl, .inr ⟨HO.out.2.2.2, .inr ⟨NB.out, .inl ⟨j, by rw [Int.toNat_natCast]; exact P1.out, rfl⟩⟩⟩, by decide, rfl⟩
      · have P1 := Hid.intro (Tr.plr_no hno)
        clear hno
        by_cases m8 : m = 8
        · have m8I : (m : Int) = 8 := by omega
          have M8 := Hid.intro m8
          clear m8
          go_wp2_with fail
          go_ret
          exact ⟨4, rfl, .inr ⟨HO.out.2.2.2, .inr ⟨NB.out, .inr ⟨by rw [Int.toNat_natCast]; exact P1.out, .inl ⟨by rw [Int.toNat_natCast, HO.out.2.2.1]; exact M8.out, rfl⟩⟩⟩⟩, by decide, rfl⟩
        · have m8I : ((m : Int) == 8) = false := by simp; omega
          have m8J : ¬ (m : Int) = 8 := by omega
          have M8 := Hid.intro m8
          clear m8
          go_wp2_with fail
          go_ret
          exact ⟨0, rfl, .inr ⟨HO.out.2.2.2, .inr ⟨NB.out, .inr ⟨by rw [Int.toNat_natCast]; exact P1.out, .inr ⟨by rw [Int.toNat_natCast, HO.out.2.2.1]; exact M8.out, rfl⟩⟩⟩⟩, by decide, rfl⟩
  · have EK := Hid.intro (And.intro ek c)
    have pos : 0 < Tr.isE F z 2 := by have := Tr.isE_nn F z 2; omega
    have POS := Hid.intro pos
    clear h c ek
    go_enter Tryz.func77, Tryz.ntmps77
    go_wp2_with fail
    refine (ris_any B b 2 z F R rv _ HF.out).mono ?_
    rintro e w1 ⟨rfl, hw1⟩
    subst w1
    rw [EK.out.1]
    go_wp2_with fail
    go_ret
    exact ⟨_, rfl, .inl ⟨EK.out.2, rfl⟩, Int.le_of_lt POS.out, rfl⟩
end
end Go.Proofs.YthdadmbpnoofoaaGreatDoor

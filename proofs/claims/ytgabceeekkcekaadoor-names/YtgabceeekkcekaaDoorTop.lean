/- The walk of the law Names. -/
import Derived.Test.YtgabceeekkcekaaDoorOwn
import Derived.WalkSmall
import Derived.Deep.AppendLies
namespace Go.Proofs.YtgabceeekkcekaaDoor
open Go.RowKit

theorem wp_gen {P : Program} {c : Code} {Q : Exit → Act → World → Prop} {a : Act} {W : World} (F : World → Prop) (h1 : F W) (h2 : ∀ W', F W' → Code.wp P c Q a W') : Code.wp P c Q a W := h2 W h1

def nums : List Int := [64, 10, 6, 4, 20, 1000, 100, 2000, 1048576, 7, 64, 8, 16, 40, 4, 8, 60, 40, 8, 6, 8, 12, 24, 6, 8, 120, 200, 1, 2, 1, 2, 3, 0, 1, 2, 1, 2, 3]
abbrev arrA : Array Value := #[Value.int .i64 64, Value.int .i64 10, Value.int .i64 6, Value.int .i64 4, Value.int .i64 20, Value.int .i64 1000, Value.int .i64 100, Value.int .i64 2000, Value.int .i64 1048576, Value.int .i64 7, Value.int .i64 64, Value.int .i64 8, Value.int .i64 16, Value.int .i64 40, Value.int .i64 4, Value.int .i64 8, Value.int .i64 60, Value.int .i64 40, Value.int .i64 8, Value.int .i64 6, Value.int .i64 8, Value.int .i64 12, Value.int .i64 24, Value.int .i64 6, Value.int .i64 8, Value.int .i64 120, Value.int .i64 200]
abbrev arrB : Array Value := #[Value.int .i64 1, Value.int .i64 2, Value.int .i64 1, Value.int .i64 2, Value.int .i64 3, Value.int .i64 0, Value.int .i64 1, Value.int .i64 2, Value.int .i64 1, Value.int .i64 2, Value.int .i64 3]
abbrev arrE : Array Value := #[Value.iface 23 (.int .i64 1), Value.iface 23 (.int .i64 2), Value.iface 23 (.int .i64 3), Value.iface 23 (.int .i64 4), Value.iface 23 (.int .i64 5), Value.iface 23 (.int .i64 6), Value.iface 23 (.int .i64 7), Value.iface 23 (.int .i64 8), Value.iface 23 (.int .i64 9), Value.iface 23 (.int .i64 10), Value.iface 23 (.int .i64 11), Value.iface 23 (.int .i64 12), Value.iface 23 (.int .i64 13)]

theorem info3 : (Tryd.prog.info? 3).map (fun i => (i.zero, i.size, i.bytes)) = some (some (.int .i64 0), 1, 8) := by kernel_rfl

theorem own1 (w : World) (o1 o2 : Obj) : (((w.alloc (.cells arrA 3)).alloc o1).alloc o2).ownsRow w.heap.size 3 1 (.slice (some ⟨w.heap.size, 0, none⟩) 27 27) 27 arrA.toList := by
  refine ⟨rfl, .inr ⟨w.heap.size, 27, arrA, rfl, Nat.le_refl _, ?_, Nat.le_refl _, by unfold maxLen; omega, rfl, rfl⟩⟩
  show (((w.heap.push _).push _).push _)[w.heap.size]? = _
  simp only [Array.getElem?_push, Array.size_push]
  rw [if_neg (by omega), if_neg (by omega), if_pos trivial]
theorem own2 (w : World) (o1 o2 : Obj) : (((w.alloc o1).alloc (.cells arrA 3)).alloc o2).heap[w.heap.size + 1]? = some (.cells arrA 3 (0, 0)) := by
  show (((w.heap.push _).push _).push _)[w.heap.size + 1]? = _
  simp only [Array.getElem?_push, Array.size_push]
  rw [if_neg (by omega), if_pos trivial]
theorem news1 (w : World) (o0 o1 : Obj) : (((w.alloc o0).alloc o1).alloc (.cells arrB 3)).heap[w.heap.size + 1 + 1]? = some (.cells arrB 3 (0, 0)) := by
  show (((w.heap.push _).push _).push _)[w.heap.size + 2]? = _
  simp only [Array.getElem?_push, Array.size_push]
  rw [if_pos trivial]

theorem oneA : ∀ u ∈ arrA.toList, u.oneCell' = true := by decide
theorem oneB : ∀ u ∈ arrB.toList, u.oneCell' = true := by decide
theorem row38 (i : Nat) (hi : i < 38) : (arrA.toList ++ arrB.toList)[i]? = some (.int .i64 (nums.getD i 0)) := by
  have e : arrA.toList ++ arrB.toList = nums.map (Value.int .i64) := rfl
  have hn : nums.length = 38 := rfl
  rw [e]
  simp only [List.getElem?_map, List.getD_eq_getElem?_getD]
  rw [List.getElem?_eq_getElem (by omega)]
  rfl
theorem rowE (i : Nat) (hi : i < 13) : arrE[i]? = some (.iface 23 (.int .i64 (i + 1))) := by
  have e : arrE = ((List.range 13).map (fun (i : Nat) => Value.iface 23 (.int .i64 (i + 1)))).toArray := rfl
  rw [e]
  simp [hi]

theorem own3 (w : World) (base k : Nat) (hb : base ≤ k) (hk : w.heap[k]? = some (.cells arrA 3 (0, 0))) (o : Obj) : (w.alloc o).ownsRow base 3 1 (.slice (some ⟨k, 0, none⟩) 27 27) 27 arrA.toList := by
  have hlt : k < w.heap.size := (Array.getElem?_eq_some_iff.1 hk).1
  exact ⟨rfl, .inr ⟨k, 27, arrA, rfl, hb, (Below.heap_alloc w o k hlt).trans hk, Nat.le_refl _, by unfold maxLen; omega, rfl, rfl⟩⟩

/-- What lies when the loop begins. -/
def Laid (w : World) (g g2 ge : Nat) (W : World) : Prop :=
  Below w.heap.size w W ∧ (∀ i, i < 38 → W.cell? ⟨g, 0 + i, none⟩ = some (.int .i64 (nums.getD i 0))) ∧ (∀ i, i < 38 → W.cell? ⟨g2, 0 + i, none⟩ = some (.int .i64 (nums.getD i 0))) ∧
    (∀ i : Nat, i < 13 → W.cell? ⟨ge, i, none⟩ = some (.iface 23 (.int .i64 (i + 1))))

theorem addNone (g j : Nat) : (⟨g, 0, none⟩ : Addr).add j = ⟨g, 0 + j, none⟩ := by unfold Addr.add; split <;> simp_all

theorem laid_of (w w1 w2 : World) (o0 o1 : Obj) (g g2 cap cap2 : Nat)
    (hown : w1.ownsRow w.heap.size 3 1 (.slice (some ⟨g, 0, none⟩) 38 cap) 38 (arrA.toList ++ arrB.toList)) (hgrow : (((w.alloc o0).alloc o1).alloc (.cells arrB 3)).grownBy w1 (some w.heap.size)) (hat : some w.heap.size = some g ∨ g = w.heap.size + 1 + 1 + 1) (hlt : g < w1.heap.size)
    (hown2 : w2.ownsRow w.heap.size 3 1 (.slice (some ⟨g2, 0, none⟩) 38 cap2) 38 (arrA.toList ++ arrB.toList)) (hgrow2 : (w1.alloc (.cells arrB 3)).grownBy w2 (some (w.heap.size + 1))) :
    Laid w g g2 w2.heap.size (w2.alloc (.cells arrE 27)) := by
  have s1 := hgrow.size
  have s2 := hgrow2.size
  simp at s1 s2
  have B1 : Below w.heap.size w w1 := ((((Below.refl _ w).alloc (Nat.le_refl _) _).alloc (by simp) _).alloc (by simp; omega) _).grown hgrow (by simp; omega) (fun k e => by cases e; exact Nat.le_refl _)
  have B2 : Below w.heap.size w w2 := (B1.alloc (by omega) _).grown hgrow2 (by simp; omega) (fun k e => by cases e; omega)
  have hl : ∀ i, i < 38 → w1.cell? ⟨g, 0 + i, none⟩ = some (.int .i64 (nums.getD i 0)) := fun i hi => by
    have := hown.cells (g := g) rfl i _ (row38 i hi)
    rw [addNone] at this; exact this
  have hw : ∀ i, i < 38 → w2.cell? ⟨g2, 0 + i, none⟩ = some (.int .i64 (nums.getD i 0)) := fun i hi => by
    have := hown2.cells (g := g2) rfl i _ (row38 i hi)
    rw [addNone] at this; exact this
  have hl2 : ∀ i, i < 38 → w2.cell? ⟨g, 0 + i, none⟩ = some (.int .i64 (nums.getD i 0)) := fun i hi => by
    rw [hgrow2.cell_far ⟨g, 0 + i, none⟩ (by simp; omega) (by
      intro e
      have e' : g = w.heap.size + 1 := by simpa using e
      rcases hat with h | h
      · have : w.heap.size = g := by simpa using h
        omega
      · omega)]
    rw [World.cell?_of_block (w := w1) (Below.heap_alloc w1 _ g hlt)]
    exact hl i hi
  have hlt2 : g2 < w2.heap.size := by obtain ⟨_, _, he, _, h⟩ := hown2.form (by decide); cases he; exact h
  have hltg : g < w2.heap.size := by omega
  refine ⟨B2.alloc (by omega) _, fun i hi => ?_, fun i hi => ?_, fun i hi => ?_⟩
  · rw [World.cell?_of_block (w := w2) (Below.heap_alloc w2 _ g hltg)]; exact hl2 i hi
  · rw [World.cell?_of_block (w := w2) (Below.heap_alloc w2 _ g2 hlt2)]; exact hw i hi
  · have hb : (w2.alloc (.cells arrE 27)).heap[w2.heap.size]? = some (.cells arrE 27 (0, 0)) := heap_alloc_new w2 _
    unfold World.cell?
    rw [hb]
    exact rowE i hi

set_option maxRecDepth 100000 in
set_option maxHeartbeats 400000 in
theorem names_walk (w : World) : Calls Tryd.prog 3 #[] w fun e w' => e = .returned (.bool true) ∧ Below w.heap.size w w' := by
  obtain ⟨i0, hi, hz0, hz1, hz2⟩ := info_parts info3
  have tok1 : True := trivial
  go_enter Tryd.func3, Tryd.ntmps3
  go_wp2_with (first
    | (at_builtin; have _t := tok1; refine wpList_append_lies _ rfl _ _ 22 (by rfl) w.heap.size 3 i0 (.int .i64 0) 1 8 Tryd.underlying22 hi hz0 hz1 hz2 rfl (by decide) (.slice (some ⟨w.heap.size, 0, none⟩) 27 27) 27 arrA.toList (by rfl) (own1 w _ _) ⟨w.heap.size + 1 + 1, 0, none⟩ 11 11 arrB.toList (by rfl) rfl (World.news_of_block (news1 w _ _)) oneB (by decide) (by unfold maxLen; omega) (by omega) (by simp; omega) (w.heap.size + 1 + 1 + 1) (by simp) ?_; intro g cap w1 hown hgrow hat hlt; clear tok1; have HO : Hid _ := hown; have HG : Hid _ := hgrow; have HA : Hid _ := hat; have hs1 : w.heap.size + 1 + 1 + 1 ≤ w1.heap.size := (by have := hgrow.size; simpa using this); have hb1 : Hid (w1.heap[w.heap.size + 1]? = some (.cells arrA 3 (0, 0))) := (hgrow.block _ (by simp) (by simp [Value.ownBlock])).trans (own2 w _ _); clear hown hgrow hat)
    | (at_builtin; refine wpList_append_lies _ rfl _ _ 22 (by rfl) w.heap.size 3 i0 (.int .i64 0) 1 8 Tryd.underlying22 hi hz0 hz1 hz2 rfl (by decide) (.slice (some ⟨w.heap.size + 1, 0, none⟩) 27 27) 27 arrA.toList (by rfl) (own3 w1 w.heap.size _ (by omega) hb1.out _) ⟨w1.heap.size, 0, none⟩ 11 11 arrB.toList (by rfl) rfl (World.news_of_block (heap_alloc_new w1 _)) oneB (by decide) (by unfold maxLen; omega) (by omega) (by simp; omega) (w1.heap.size + 1) (by simp) ?_; intro g2 cap2 w2 hown2 hgrow2 hat2 hlt2; have HO2 : Hid _ := hown2; have HG2 : Hid _ := hgrow2; clear hown2 hgrow2 hat2))
  refine wp_gen (Laid w g g2 w2.heap.size) (laid_of w w1 w2 _ _ g g2 cap cap2 HO.out HG.out HA.out hlt HO2.out HG2.out) ?_
  clear HO HG HA HO2 HG2 hb1
  intro W hL
  obtain ⟨hB, hl, hw, he⟩ := hL
  go_loop [4] (fun i => ∃ k : Nat, k ≤ 13 ∧ i = .int .i64 k) (fun i => 13 - (intOf i).toNat)
  case atStart => exact ⟨0, by omega, rfl⟩
  case round =>
    obtain ⟨k, hk, rfl⟩ := hrel
    by_cases hlt : k < 13
    · have g := he k hlt
      have hlt' : (k : Int) < 13 := by omega
      clear he hl hw
      go_wp2_with (go_at_call 4; refine (same_any _ (by omega) _).mono ?_; rintro e w' ⟨rfl, rfl⟩)
      go_round
      case rel => exact ⟨k + 1, by omega, by go_num⟩
      case measure => simp [intOf]; omega
    · have hk13 : k = 13 := by omega
      subst hk13
      clear he
      go_wp2_with (first | (go_at_call 5; refine (sameNumbers_any _ _ 0 0 38 _ _ (fun i => nums.getD i 0) (by omega) _ hl hw).mono ?_; rintro e w' ⟨rfl, nq, rfl⟩) | (go_at_call 6; refine (itoa_13 _).mono ?_; rintro e w' ⟨rfl, rfl⟩))
      go_ret
      exact ⟨rfl, below_drewN hB _⟩
end Go.Proofs.YtgabceeekkcekaaDoor

/- The closed fact 'trees'; asTree. -/
import Derived.Test.YtgabceeekkcekaaHz
import Derived.BigQuiet
namespace Go.Proofs.Ytgabceeekkcekaa
open Go.RowKit Go.Shelf

theorem same_any (k : Int) (h : 0 ≤ k) (w : World) : Calls Try.prog 9 #[errV k, .int .i64 k] w fun e w' => e = .returned (.bool true) ∧ w' = w := by
  by_cases h0 : k = 0
  · subst h0; exact same_nil w
  · rw [errV_ne h0]; exact same_err k (by omega) w

def t1 : Nat → Gp := updT t0 1 (newGp 0)
def W1 : Nat → List (Fin 10) := addW W0 1 (by omega) 0
theorem tree1 : Tree t1 W1 0 := tree0.add (n := 1) (p := 0) (by omega) rfl (by omega) rfl (by decide)
theorem chg1 : chgE t1 W1 1 2 5 = 0 := by decide +kernel
theorem tot1 : totTo (addO t1 1 2 5) W1 0 Gp.op 10 = 2 ∧ totTo (addO t1 1 2 5) W1 0 Gp.oq 10 = 5 := by decide +kernel

set_option maxRecDepth 100000 in
set_option maxHeartbeats 1000000 in
theorem trees_any (w : World) : Calls Try.prog 20 #[] w fun e w' => e = .returned (.bool true) ∧ Below w.heap.size w w' := by
  go_enter Try.func20, Try.ntmps20
  go_wp2_with fail
  refine (new_any _).mono ?_
  rintro e W1' ⟨rfl, hT1, hb1⟩
  have H1 := Hid.intro (And.intro hT1 hb1)
  clear hT1 hb1
  go_wp2_with fail
  refine (add_rest w.heap.size 0 t0 (W0 0) _ H1.out.1 (tree0.ways 0 (by omega)) (by omega) rfl (by decide)).mono ?_
  rintro e W2 (⟨n, hn, hf, hbef, rfl, ht, hfr⟩ | ⟨hall, _, _⟩)
  · obtain rfl : n = 1 := by
      by_cases h0 : n = 0
      · subst h0; cases hf
      · by_cases h1 : n = 1
        · exact h1
        · have := hbef 1 (by omega)
          cases this
    have H2 : Hid (TAt W2 w.heap.size t1 ∧ Below w.heap.size w W2) := ⟨ht, hfr.below H1.out.2 (Nat.le_refl _) H1.out.2.size⟩
    rw [errV_zero]
    clear hn hf hbef ht hfr H1
    go_wp2_with fail
    refine (charge_any w.heap.size 1 2 5 t1 W1 _ H2.out.1 tree1.ways (tree1.small (by omega))).mono ?_
    rintro e W3 ⟨rfl, ht, hfr⟩
    obtain ⟨n, hn, _, _, _, _, hC, hst⟩ := chg_step tree1 chg1
    obtain rfl : n = 1 := by omega
    rw [hC] at ht
    rw [chg1, errV_zero]
    have H3 : Hid (TAt W3 w.heap.size (addO t1 1 2 5) ∧ Below w.heap.size w W3 ∧ Tree (addO t1 1 2 5) W1 1) := ⟨ht, hfr.below H2.out.2 (Nat.le_refl _) H2.out.2.size, hst.tree⟩
    clear ht hfr hn hC hst H2
    go_wp2_with fail
    refine (of_ok w.heap.size 0 (addO t1 1 2 5) W1 _ H3.out.1 H3.out.2.2.ways (H3.out.2.2.small (by omega)) (by omega) rfl).mono ?_
    rintro e W4 ⟨rfl, hb4⟩
    rw [show (((0 : Nat) : Int)) = 0 from rfl, tot1.1, tot1.2]
    have H4 := Hid.intro (H3.out.2.1.trans (hb4.mono H3.out.2.1.size))
    clear hb4 H3
    rw [show (addO t1 1 2 5 0).par = -1 from rfl, show (addO t1 1 2 5 0).lp = -1 from rfl, show (addO t1 1 2 5 0).lq = -1 from rfl]
    go_wp2_with (go_at_call 9; refine (same_nil _).mono ?_; rintro e w' ⟨rfl, rfl⟩)
    go_ret
    exact ⟨rfl, H4.out.alloc H4.out.size _⟩
  · have := hall 1 (by omega)
    cases this

set_option maxRecDepth 100000 in
set_option maxHeartbeats 2000000 in
theorem asTree_any (b m : Nat) (t : Nat → Gp) (Wy : Nat → List (Fin 10)) (c : Nat) (h : Nat → Bool) (G : Nat → Nat → Int) (w : World) (hb : TAt w b t) (hm : UAt w m h G) (hT : Tree t Wy c) (hc : c ≤ 1000) (hR : Rel t Wy h G) :
    Calls Try.prog 39 #[.pointer (some ⟨b, 0, none⟩), .pointer (some ⟨m, 0, none⟩)] w fun e w' => e = .returned (.bool true) ∧ Below w.heap.size w w' := by
  have H := Hid.intro (And.intro hb (And.intro hm (And.intro hT (And.intro hR (hT.small hc)))))
  have hbl := hb.lt
  have hml := hm.lt
  have hN0 : 0 < (thL t 10).length := List.length_pos_of_mem (mem_thL.2 ⟨by omega, hT.root.1⟩)
  have hN10 := thL_len t 10
  clear hb hm hT hR hc
  go_enter Try.func39, Try.ntmps39
  go_wp2_with fail
  go_loopw [5] (fun i wr => ∃ (k : Int), i = .int .i64 k ∧ -1 ≤ k ∧ k ≤ 11 ∧ Hid (Below w.heap.size w wr)) (fun i _ => (11 - intOf i).toNat)
  case atStart => exact ⟨-1, rfl, by omega, by omega, Below.refl _ _⟩
  case round =>
    obtain ⟨k, rfl, hk1, hk2, HB⟩ := hrel
    by_cases hlt : k ≤ 10
    · by_cases hw : Ytgabceeekkcekaa.wr t k = 0
      · obtain ⟨n, rfl, hn, hh⟩ := wr_zero hw
        have hnI : (n : Int) < 10 := by omega
        go_wp2_with fail
        refine (of_ok b n t Wy _ (H.out.1.below HB.out hbl) H.out.2.2.1.ways H.out.2.2.2.2 hn hh).mono ?_
        rintro e W4 ⟨rfl, hb4⟩
        have HB4 := Hid.intro (HB.out.trans (hb4.mono HB.out.size))
        have HW := Hid.intro (And.intro hw hh)
        clear hb4 HB hw hh
        go_wp2_with fail
        refine (is_any m n t h G _ (H.out.2.1.below (HB4.out.alloc HB4.out.size _) hml) (fun k hk => (H.out.2.2.2.1 k hk).1)).mono ?_
        rintro e w5 ⟨rfl, hw5⟩
        subst w5
        rw [HW.out.1]
        have g := H.out.2.2.2.1.g hn HW.out.2
        have U4 := H.out.2.1.below HB4.out hml
        have g0 : W4.cell? ⟨m, 10 + n * 5, none⟩ = _ := U4.cg n 0 hn (by omega)
        have g1 := U4.cg n 1 hn (by omega)
        have g2 := U4.cg n 2 hn (by omega)
        have g3 := U4.cg n 3 hn (by omega)
        have g4 := U4.cg n 4 hn (by omega)
        rw [g.1] at g0
        rw [g.2.1] at g1
        rw [g.2.2.1] at g2
        rw [g.2.2.2.1] at g3
        rw [g.2.2.2.2] at g4
        clear g U4
        generalize totTo t Wy n Gp.op 10 = X at *
        generalize totTo t Wy n Gp.oq 10 = Y at *
        generalize (t n).lp = LP at *
        generalize (t n).lq = LQ at *
        generalize (t n).par = PR at *
        have hm4 : m < W4.heap.size := by have := HB4.out.size; omega
        have al4' : ∀ (o : Obj) (p : Addr), p.block < W4.heap.size → (W4.alloc o).cell? p = W4.cell? p := fun o p hp => ((Below.refl _ W4).alloc (Nat.le_refl _) o).cell hp
        go_wp2_with fail
        refine wp_gen (fun W => Below w.heap.size w W ∧ (W.cell? ⟨m, 10 + n * 5, none⟩ = some (.int .i64 PR) ∧ W.cell? ⟨m, 10 + n * 5 + 1, none⟩ = some (.int .i64 LP) ∧ W.cell? ⟨m, 10 + n * 5 + 2, none⟩ = some (.int .i64 LQ) ∧ W.cell? ⟨m, 10 + n * 5 + 3, none⟩ = some (.int .i64 X) ∧ W.cell? ⟨m, 10 + n * 5 + 4, none⟩ = some (.int .i64 Y)) ∧ W.heap[W4.heap.size]? = some (.cells #[.int .i64 PR, .int .i64 LP, .int .i64 LQ, .int .i64 X, .int .i64 Y] 76 (0, 0))) ⟨HB4.out.alloc HB4.out.size _, ⟨(al4' _ _ hm4).trans g0, (al4' _ _ hm4).trans g1, (al4' _ _ hm4).trans g2, (al4' _ _ hm4).trans g3, (al4' _ _ hm4).trans g4⟩, heap_alloc_new _ _⟩ ?_
        clear g0 g1 g2 g3 g4 al4'
        rintro W8 ⟨hB8, ⟨g0, g1, g2, g3, g4⟩, hC8⟩
        generalize W4.heap.size = g8 at *
        have r0 : W8.cell? ⟨g8, 0, none⟩ = some (.int .i64 PR) := heap_cell hC8 0
        have r1 : W8.cell? ⟨g8, 1, none⟩ = some (.int .i64 LP) := heap_cell hC8 1
        have r2 : W8.cell? ⟨g8, 2, none⟩ = some (.int .i64 LQ) := heap_cell hC8 2
        have r3 : W8.cell? ⟨g8, 3, none⟩ = some (.int .i64 X) := heap_cell hC8 3
        have r4 : W8.cell? ⟨g8, 4, none⟩ = some (.int .i64 Y) := heap_cell hC8 4
        have HB8 := Hid.intro hB8
        clear hB8 hC8
        go_quiet ((go_at_call 9; refine Calls.quiet_of_same (same_nil _)))
        go_wp2_with fail
        go_roundw
        case rel => exact ⟨(n : Int) + 1, by go_num, by omega, by omega, below_drewN HB8.out _⟩
        case measure => simp [intOf]; omega
      · have hp := wr_pos hw
        have HW := Hid.intro hw
        clear hw
        go_wp2_with fail
        refine (of_bad b k t _ (H.out.1.below HB.out hbl) HW.out).mono ?_
        rintro e W4 ⟨rfl, hb4⟩
        have HB4 := Hid.intro (HB.out.trans (hb4.mono HB.out.size))
        clear hb4 HB
        go_wp2_with fail
        refine (is_any m k t h G _ (H.out.2.1.below (HB4.out.alloc HB4.out.size _) hml) (fun k hk => (H.out.2.2.2.1 k hk).1)).mono ?_
        rintro e w5 ⟨rfl, hw5⟩
        subst w5
        rw [errV_ne HW.out]
        generalize Ytgabceeekkcekaa.wr t k = E at *
        have hE0 : (E == 0) = false := by simp; omega
        go_wp2_with fail
        refine wp_gen (fun W => Below w.heap.size w W ∧ W.heap[W4.heap.size]? = some (.cells #[.int .i64 0, .int .i64 0, .int .i64 0, .int .i64 0, .int .i64 0] 76 (0, 0))) ⟨HB4.out.alloc HB4.out.size _, heap_alloc_new _ _⟩ ?_
        rintro W8 ⟨hB8, hC8⟩
        generalize W4.heap.size = g8 at *
        have r0 : W8.cell? ⟨g8, 0, none⟩ = some (.int .i64 0) := heap_cell hC8 0
        have r1 : W8.cell? ⟨g8, 1, none⟩ = some (.int .i64 0) := heap_cell hC8 1
        have r2 : W8.cell? ⟨g8, 2, none⟩ = some (.int .i64 0) := heap_cell hC8 2
        have r3 : W8.cell? ⟨g8, 3, none⟩ = some (.int .i64 0) := heap_cell hC8 3
        have r4 : W8.cell? ⟨g8, 4, none⟩ = some (.int .i64 0) := heap_cell hC8 4
        have HB8 := Hid.intro hB8
        clear hB8 hC8
        go_quiet ((go_at_call 9; refine Calls.quiet_of_same (same_err E hp _)))
        go_wp2_with fail
        go_roundw
        case rel => exact ⟨k + 1, by go_num, by omega, by omega, below_drewN HB8.out _⟩
        case measure => simp [intOf]; omega
    · have hk11 : k = 11 := by omega
      subst hk11
      go_wp2_with fail
      refine (gall_any b t _ (H.out.1.below HB.out hbl)).mono ?_
      rintro e W4 ⟨v, rfl, hA⟩
      have hA' : RL wr (thL t 10) v W4 := ⟨hA.bel, hA.own⟩
      obtain ⟨g1, c1, rfl, _, hg1, hc1⟩ := hA'.cells hN0
      have HB4 := Hid.intro (HB.out.trans (hA.bel.mono HB.out.size))
      have HC1 := Hid.intro (And.intro hg1 hc1)
      clear hA hA' hg1 hc1
      go_wp2_with fail
      refine (rgall_any m t h G _ (H.out.2.1.below HB4.out hml) (fun k hk => (H.out.2.2.2.1 k hk).1)).mono ?_
      rintro e W5 ⟨v, rfl, hA⟩
      obtain ⟨g2, c2, rfl, _, _, hc2⟩ := hA.cells hN0
      have HB5 := Hid.intro (HB4.out.trans (hA.bel.mono HB4.out.size))
      have HC2 : Hid (∀ i, i < (thL t 10).length → W5.cell? ⟨g1, 0 + i, none⟩ = some (.int .i64 ((thL t 10).getD i 0 : Nat))) := fun i hi => by
        rw [Nat.zero_add, hA.bel.cell (p := ⟨g1, i, none⟩) HC1.out.1]; exact HC1.out.2 i hi
      have HC3 : Hid (∀ i, i < (thL t 10).length → W5.cell? ⟨g2, 0 + i, none⟩ = some (.int .i64 ((thL t 10).getD i 0 : Nat))) := fun i hi => by
        rw [Nat.zero_add]; exact hc2 i hi
      clear hA hc2
      go_wp2_with fail
      refine (sameNumbers_some g1 g2 0 0 (thL t 10).length _ _ (fun i => ((thL t 10).getD i 0 : Nat)) (by omega) _ HC2.out HC3.out).mono ?_
      rintro e W6 ⟨rfl, nq, rfl⟩
      go_wp2_with fail
      go_ret
      exact ⟨rfl, below_drewN HB5.out _⟩
end Go.Proofs.Ytgabceeekkcekaa

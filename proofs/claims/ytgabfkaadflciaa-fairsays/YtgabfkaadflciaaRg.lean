/- The document's own sched: NewSched, DropGroup. -/
import Derived.Test.YtgabfkaadflciaaRf
import Derived.Test.YtgabfkaadflciaaFc
namespace Go.Proofs.Ytgabfkaadflciaa
open Go.RowKit
open Fr (Un M)

def rzeroF (i : Nat) : Value := if i < 360 then refC Un.no (i % 12) else .int .i64 0
def rzeroA : Array Value := ((List.range 361).map rzeroF).toArray
theorem rzeroA_at (i : Nat) (h : i < 361) : rzeroA[i]? = some (rzeroF i) := by simp [rzeroA, h]
theorem rzero_eq : Try.zeroCells90 = rzeroA := by kernel_rfl
theorem rat_zero {w : World} {b : Nat} (h : w.heap[b]? = some (.cells rzeroA 90 (0, 0))) : RAt w b mz := by
  refine ⟨⟨_, h, by simp [rzeroA]⟩, fun u f hu hf => ?_, ?_⟩
  · rw [cell_blk h, rzeroA_at _ (by omega)]
    unfold rzeroF
    rw [if_pos (by omega), show (u * 12 + f) % 12 = f by omega]
    rfl
  · rw [cell_blk h, rzeroA_at 360 (by omega)]; rfl

set_option maxRecDepth 100000 in
set_option maxHeartbeats 1000000 in
theorem rnew_at (w : World) : RAt (w.alloc (.cells ((((((((((((Try.zeroCells90.setIfInBounds 0 (Value.bool true)).setIfInBounds 1 (Value.bool false)).setIfInBounds 2 (Value.bool false)).setIfInBounds 3 (Value.bool false)).setIfInBounds 4 (Value.int IntKind.i64 (-1))).setIfInBounds 5 (Value.int IntKind.i64 1)).setIfInBounds 6 (Value.int IntKind.i64 0)).setIfInBounds 7 (Value.int IntKind.i64 0)).setIfInBounds 8 (Value.int IntKind.i64 0)).setIfInBounds 9 (Value.int IntKind.i64 0)).setIfInBounds 10 (Value.int IntKind.i64 0)).setIfInBounds 11 (Value.int IntKind.i64 0)) 90)) w.heap.size Fr.m0 := by
  have Z : (w.alloc (.cells rzeroA 90)).heap[w.heap.size]? = some (.cells rzeroA 90 (0, 0)) := heap_alloc_new w _
  have Z2 : (w.alloc (.cells ((((((((((((rzeroA.setIfInBounds 0 (Value.bool true)).setIfInBounds 1 (Value.bool false)).setIfInBounds 2 (Value.bool false)).setIfInBounds 3 (Value.bool false)).setIfInBounds 4 (Value.int IntKind.i64 (-1))).setIfInBounds 5 (Value.int IntKind.i64 1)).setIfInBounds 6 (Value.int IntKind.i64 0)).setIfInBounds 7 (Value.int IntKind.i64 0)).setIfInBounds 8 (Value.int IntKind.i64 0)).setIfInBounds 9 (Value.int IntKind.i64 0)).setIfInBounds 10 (Value.int IntKind.i64 0)).setIfInBounds 11 (Value.int IntKind.i64 0)) 90)).heap[w.heap.size]? = some (.cells ((((((((((((rzeroA.setIfInBounds 0 (Value.bool true)).setIfInBounds 1 (Value.bool false)).setIfInBounds 2 (Value.bool false)).setIfInBounds 3 (Value.bool false)).setIfInBounds 4 (Value.int IntKind.i64 (-1))).setIfInBounds 5 (Value.int IntKind.i64 1)).setIfInBounds 6 (Value.int IntKind.i64 0)).setIfInBounds 7 (Value.int IntKind.i64 0)).setIfInBounds 8 (Value.int IntKind.i64 0)).setIfInBounds 9 (Value.int IntKind.i64 0)).setIfInBounds 10 (Value.int IntKind.i64 0)).setIfInBounds 11 (Value.int IntKind.i64 0)) 90 (0, 0)) := heap_alloc_new w _
  rw [rzero_eq]
  have h := (rat_zero Z).put 0 { Un.no with here := true, inn := -1, weight := 1 } (by omega)
  have e : Fr.M.set mz 0 { Un.no with here := true, inn := -1, weight := 1 } = Fr.m0 := rfl
  rw [e] at h
  refine h.same ?_
  rw [Z2]
  exact (blk_set (blk_set (blk_set (blk_set (blk_set (blk_set (blk_set (blk_set (blk_set (blk_set (blk_set (blk_set Z 0 _) 1 _) 2 _) 3 _) 4 _) 5 _) 6 _) 7 _) 8 _) 9 _) 10 _) 11 _).symm

set_option maxRecDepth 100000 in
set_option maxHeartbeats 1000000 in
theorem rnew_any (w : World) : Calls Try.prog 50 #[] w fun e w' => e = .returned (.pointer (some ⟨w.heap.size, 0, none⟩)) ∧ RAt w' w.heap.size Fr.m0 ∧ Below w.heap.size w w' ∧ w.heap.size < w'.heap.size := by
  have FIN := Hid.intro (rnew_at w)
  go_enter Try.func50, Try.ntmps50
  go_wp2_with fail
  go_ret
  exact ⟨rfl, FIN.out, (Below.refl _ _).alloc (Nat.le_refl _) _, by simp⟩

set_option maxRecDepth 100000 in
set_option maxHeartbeats 1000000 in
theorem rdropGroup_any (b : Nat) (z : Int) (m : M) (w : World) (h : RAt w b m) :
    Calls Try.prog 106 #[.pointer (some ⟨b, 0, none⟩), .int .i64 z] w fun e w' => e = .returned (.int .i64 (Fr.dropGroupE m z)) ∧ RAt w' b (Fr.dropGroupM m z) ∧ Frm b w w' := by
  have HF := Hid.intro h
  have NO : Hid (∀ E, Fr.dropGroupE m z = E → E ≠ 0 → RAt w b (Fr.dropGroupM m z) ∧ Frm b w w) := Hid.intro (fun E e h0 => ⟨by unfold Fr.dropGroupM; rw [e, if_neg h0]; exact HF.out, Frm.refl b w⟩)
  clear h
  rcases groupE_cases m z with kg | kg
  · have HK := Hid.intro kg
    obtain ⟨g, rfl, hg, hh⟩ := Fr.groupE_zero kg
    have hgI : (g : Int) < 30 := by omega
    clear kg hh
    go_enter Try.func106, Try.ntmps106
    go_wp2_with fail
    refine (rgroup_any b g m _ HF.out).mono ?_
    rintro e w1 ⟨rfl, hw⟩
    subst w1
    rw [HK.out]
    by_cases h0 : g = 0
    · subst h0
      have HE : Hid (Fr.dropGroupE m ((0 : Nat) : Int) = 5) := Hid.intro (by unfold Fr.dropGroupE; rw [if_pos HK.out, if_pos (.inl rfl)])
      go_wp2_with fail
      go_loopw [6] (fun i wr => i = .int .i64 0 ∧ wr = w) (fun i _ => 30 - (intOf i).toNat)
      case atStart => exact ⟨rfl, rfl⟩
      case round =>
        obtain ⟨rfl, hwr⟩ := hrel
        subst wr
        go_wp2_with fail
        go_ret
        have := NO.out 5 HE.out (by decide)
        exact ⟨by rw [HE.out]; rfl, this⟩
    · have g0 : ((g : Int) == 0) = false := by simp; omega
      go_wp2_with fail
      go_loopw [6] (fun i wr => ∃ (x : Nat), i = .int .i64 x ∧ x ≤ 30 ∧ wr = w ∧ Hid (∀ j, j < x → Fr.unitB m g j = false)) (fun i _ => 30 - (intOf i).toNat)
      case atStart => exact ⟨0, rfl, by omega, rfl, fun j h1 => by omega⟩
      case round =>
        obtain ⟨x, rfl, hx30, hwr, HN⟩ := hrel
        subst wr
        by_cases hx : x < 30
        · have hxI : (x : Int) < 30 := by omega
          have cc := HF.out.cells x hx
          have d0 := cc.c0
          have d4 := cc.c4
          have HKB : Hid (Fr.unitB m g x = ((m.u x).here && decide ((m.u x).inn = (g : Int)))) := Hid.intro rfl
          have HHK : Hid (Fr.unitB m g x = true → Fr.dropGroupE m g = 5) := Hid.intro (fun k => by
            have : Fr.hasUnit m g = true := by unfold Fr.hasUnit; exact List.any_eq_true.2 ⟨x, List.mem_range.2 hx, k⟩
            unfold Fr.dropGroupE; rw [if_pos HK.out, if_pos (.inr (by rw [Int.toNat_natCast]; exact this))])
          clear cc
          generalize (m.u x).here = hh at *
          generalize (m.u x).inn = ii at *
          cases hh
          · go_wp2_with fail
            go_roundw
            case rel => exact ⟨x + 1, by go_num, by omega, by first | rfl | trivial, fun j h1 => by
              by_cases e : j = x
              · rw [e, HKB.out]; rfl
              · exact HN.out j (by omega)⟩
            case measure => simp [intOf]; omega
          · by_cases hi : ii = (g : Int)
            · subst hi
              go_wp2_with fail
              go_ret
              have e := HHK.out (by rw [HKB.out]; simp)
              have := NO.out 5 e (by decide)
              exact ⟨by rw [e]; rfl, this⟩
            · have hi' : (ii == (g : Int)) = false := by simp; exact hi
              go_wp2_with fail
              go_roundw
              case rel => exact ⟨x + 1, by go_num, by omega, by first | rfl | trivial, fun j h1 => by
                by_cases e : j = x
                · rw [e, HKB.out, decide_eq_false hi]; simp
                · exact HN.out j (by omega)⟩
              case measure => simp [intOf]; omega
        · have hxI : ¬ (x : Int) < 30 := by omega
          have HE : Hid (Fr.dropGroupE m g = 0) := Hid.intro (by
            unfold Fr.dropGroupE; rw [if_pos HK.out, if_neg]
            rintro (c | c)
            · omega
            · rw [Int.toNat_natCast] at c
              obtain ⟨j, hj, kj⟩ := List.any_eq_true.1 c
              rw [HN.out j (by have := List.mem_range.1 hj; omega)] at kj; cases kj)
          obtain ⟨c0, c1, c2, c3, c4, c5, c6, c7, c8, c9, ca, cb⟩ := HF.out.cells g (by omega)
          have cf := HF.out.frozen
          go_wp2_with fail
          go_ret
          rw [HE.out]
          refine ⟨rfl, ?_, (Frm.refl b w).set12 _ _ _ _ _ _ _ _ _ _ _ _ _ _ _ _ _ _ _ _ _ _ _ _⟩
          unfold Fr.dropGroupM
          rw [HE.out, if_pos rfl, Int.toNat_natCast]
          exact HF.out.put g Un.no (by omega)
  · obtain ⟨E, hE⟩ : ∃ E, Fr.groupE m z = E := ⟨_, rfl⟩
    have HG := Hid.intro hE
    rw [hE] at kg
    have HE : Hid (Fr.dropGroupE m z = E) := Hid.intro (by unfold Fr.dropGroupE; rw [hE, if_neg (by omega)])
    clear hE
    go_enter Try.func106, Try.ntmps106
    go_wp2_with fail
    refine (rgroup_any b z m _ HF.out).mono ?_
    rintro e w1 ⟨rfl, hw⟩
    subst w1
    rw [HG.out]
    go_wp2
    go_ret
    have := NO.out E HE.out (by omega)
    exact ⟨by rw [HE.out]; rfl, this⟩

end Go.Proofs.Ytgabfkaadflciaa

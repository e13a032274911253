/- The walk of New. -/
import Derived.Test.YtgabfkaadflciaaFb
namespace Go.Proofs.Ytgabfkaadflciaa
open Go.RowKit
open Hp (Q)
open Fr (Un M)

/-- The queue without any. -/
def q0 : Q := ⟨0, fun _ => 0, fun _ => 0, fun _ => 0⟩
theorem q0_ok : Hp.Okp q0 := ⟨by show (0 : Nat) ≤ 64; omega, fun i hi => absurd hi (by show ¬ i < 0; omega), fun j _ => ⟨Nat.le_refl _, fun h => absurd h (by show ¬ (0 : Nat) < 0; omega)⟩⟩
theorem q0_full : Hp.Full q0 := fun i _ hi => absurd hi (by show ¬ i < 0; omega)
/-- The cells of a sched without anything. -/
def zeroF (i : Nat) : Value := if i = 0 then .int .i64 0 else if i < 121 then unitC 1 Un.no ((i - 1) % 4) else if i < 2101 then (if (i - 121) % 198 < 193 then (if (i - 121) % 198 < 129 then .int .i64 0 else .int .u64 0) else grpC Un.no ((i - 121) % 198 - 193)) else taskC Un.no ((i - 2101) % 2)
def zeroA : Array Value := ((List.range 2141).map zeroF).toArray
theorem zeroA_at (i : Nat) (h : i < 2141) : zeroA[i]? = some (zeroF i) := by simp [zeroA, h]
theorem encq0 (i : Nat) (h : i < 193) : (enc q0)[i]? = some (if i < 129 then .int .i64 0 else .int .u64 0) := by
  rcases Nat.lt_or_ge i 1 with hj | hj
  · obtain rfl : i = 0 := by omega
    rw [enc_many]; rfl
  · rcases Nat.lt_or_ge i 65 with hj1 | hj1
    · obtain ⟨j, rfl⟩ : ∃ j, i = 1 + j := ⟨i - 1, by omega⟩
      rw [enc_heap q0 j (by omega), if_pos (by omega)]; rfl
    · rcases Nat.lt_or_ge i 129 with hj2 | hj2
      · obtain ⟨j, rfl⟩ : ∃ j, i = 65 + j := ⟨i - 65, by omega⟩
        rw [enc_place q0 j (by omega), if_pos (by omega)]; rfl
      · obtain ⟨j, rfl⟩ : ∃ j, i = 129 + j := ⟨i - 129, by omega⟩
        rw [enc_keys q0 j (by omega), if_neg (by omega)]; rfl
theorem zero_eq : Try.zeroCells150 = zeroA := by kernel_rfl
def mz : M := ⟨fun _ => Un.no, 0⟩
theorem unit_no (u f : Nat) (hf : f < 4) : unitC u Un.no f = unitC 1 Un.no f := by
  refine four (P := fun f => unitC u Un.no f = unitC 1 Un.no f) rfl rfl ?_ rfl f hf
  show Value.int .u64 ((if u = 0 then 0 else Un.no.weight : Nat) : Int) = _
  split <;> rfl
theorem sat_zero {w : World} {b : Nat} (h : w.heap[b]? = some (.cells zeroA 150 (0, 0))) : SAt w b mz (fun _ => q0) := by
  refine ⟨⟨_, h, by simp [zeroA]⟩, ?_, fun u f hu hf => ?_, fun g i hg hi => ?_, fun g f hg hf => ?_, fun n f hn hf => ?_⟩
  · rw [cell_blk h, zeroA_at 0 (by omega)]; rfl
  · rw [cell_blk h, zeroA_at _ (by omega)]
    unfold zeroF
    rw [if_neg (by omega), if_pos (by omega), show (1 + u * 4 + f - 1) % 4 = f by omega]
    rw [show mz.u u = Un.no from rfl, unit_no u f hf]
  · rw [cell_blk h, zeroA_at _ (by omega), encq0 i hi]
    unfold zeroF
    rw [if_neg (by omega), if_neg (by omega), if_pos (by omega), show (121 + g * 198 + i - 121) % 198 = i by omega, if_pos hi]
  · rw [cell_blk h, zeroA_at _ (by omega)]
    unfold zeroF
    rw [if_neg (by omega), if_neg (by omega), if_pos (by omega), show (121 + g * 198 + (193 + f) - 121) % 198 = 193 + f by omega, if_neg (by omega), show 193 + f - 193 = f by omega]
    rfl
  · rw [cell_blk h, zeroA_at _ (by omega)]
    unfold zeroF
    rw [if_neg (by omega), if_neg (by omega), if_neg (by omega), show (2101 + n * 2 + f - 2101) % 2 = f by omega]
    rfl

/-- The root is there. -/
theorem SAt.root {w : World} {b : Nat} (h : SAt w b mz (fun _ => q0)) : SAt ((((w.setCell ⟨b, 1, none⟩ (.bool true)).setCell ⟨b, 2, none⟩ (.int .i64 (-1))).setCell ⟨b, 3, none⟩ (.int .u64 0)).setCell ⟨b, 4, none⟩ (.int .u64 0)) b Fr.m0 (fun _ => q0) := by
  have h1 := (h.setHere 0 true (by omega)).setIn 0 (-1) (by omega)
  have h2 := h1.setUnit 0 2 (by omega) (by omega) (.int .u64 0) ((({ Un.no with here := true, inn := -1, weight := 1 } : Un))) (four (by rw [Fr.set_same]; rfl) (by rw [Fr.set_same]; rfl) rfl (by rw [Fr.set_same]; rfl)) (fun k => by rw [Fr.set_same]; rfl) (fun k => by rw [Fr.set_same]; rfl)
  have h3 := h2.setTime 0 0 (by omega)
  simp only [Fr.set_same, Fr.set_set] at h3
  have e : Fr.M.set mz 0 { here := true, awake := Un.no.awake, frozen := Un.no.frozen, was := Un.no.was, inn := -1, weight := 1, ran := Un.no.ran, time := 0, floor := Un.no.floor, quota := Un.no.quota, period := Un.no.period, used := Un.no.used } = Fr.m0 := rfl
  rw [e] at h3
  exact h3
theorem fair_new {w : World} {b : Nat} (h : SAt w b Fr.m0 (fun _ => q0)) : Fair w b Fr.m0 := by
  have hk : ∀ g u, Fr.kidB Fr.m0 g u = false := fun g u => by
    cases k : Fr.kidB Fr.m0 g u
    · rfl
    · have := Fr.kidB_iff.1 k
      rw [Fr.m0_ne u (by omega)] at this
      exact absurd this.2.1 (by decide)
  refine ⟨_, h, fun g hg => ⟨q0_ok, q0_full⟩, fun g u hg hu => ?_, fun g u hg hu k => ?_⟩
  · rw [hk]; simp [q0]
  · rw [hk] at k; cases k

set_option maxRecDepth 100000 in
set_option maxHeartbeats 1000000 in
theorem new_any (w : World) : Calls Try.prog 49 #[] w fun e w' => e = .returned (.pointer (some ⟨w.heap.size, 0, none⟩)) ∧ Fair w' w.heap.size Fr.m0 ∧ Below w.heap.size w w' ∧ w.heap.size < w'.heap.size := by
  have Z : (w.alloc (.cells Try.zeroCells150 150)).heap[w.heap.size]? = some (.cells zeroA 150 (0, 0)) := by
    rw [zero_eq]; exact heap_alloc_new w _
  have Z2 : (w.alloc (.cells ((((Try.zeroCells150.setIfInBounds 1 (Value.bool true)).setIfInBounds 2 (Value.int IntKind.i64 (-1))).setIfInBounds 3 (Value.int IntKind.u64 0)).setIfInBounds 4 (Value.int IntKind.u64 0)) 150)).heap[w.heap.size]? = some (.cells ((((zeroA.setIfInBounds 1 (Value.bool true)).setIfInBounds 2 (Value.int IntKind.i64 (-1))).setIfInBounds 3 (Value.int IntKind.u64 0)).setIfInBounds 4 (Value.int IntKind.u64 0)) 150 (0, 0)) := by
    rw [zero_eq]; exact heap_alloc_new w _
  have FIN : Hid (Fair (w.alloc (.cells ((((Try.zeroCells150.setIfInBounds 1 (Value.bool true)).setIfInBounds 2 (Value.int IntKind.i64 (-1))).setIfInBounds 3 (Value.int IntKind.u64 0)).setIfInBounds 4 (Value.int IntKind.u64 0)) 150)) w.heap.size Fr.m0) := Hid.intro (by
    have h := (sat_zero Z).root
    refine (fair_new h).same ?_
    rw [Z2, blk_set (blk_set (blk_set (blk_set Z 1 _) 2 _) 3 _) 4 _])
  clear Z Z2
  go_enter Try.func49, Try.ntmps49
  go_wp2_with fail
  go_ret
  exact ⟨rfl, FIN.out, (Below.refl _ _).alloc (Nat.le_refl _) _, by simp⟩

end Go.Proofs.Ytgabfkaadflciaa

/- Texts: the two lists that are the same; how long the texts of acts are. -/
import Derived.Test.YtfgnhldnmbfnkabUi
namespace Go.Proofs.Ytfgnhldnmbfnkab
open Go.RowKit

theorem SO.cells {u w : World} {L : List ByteArray} {v : Value} (h : SO u L v w) (hl : 0 < L.length) : ∃ gg cap, v = .slice (some ⟨gg, 0, none⟩) L.length cap ∧ gg < w.heap.size ∧ ∀ i, i < L.length → w.cell? ⟨gg, i, none⟩ = some (.string (L.getD i ⟨#[]⟩)) := by
  have ho := h.own
  obtain ⟨gg, cap, hv, _, hg⟩ := ho.form hl
  refine ⟨gg, cap, hv, hg, fun i hi => ?_⟩
  rw [hv] at ho
  rw [ho.cellAt i (by omega)]
  simp [stC, hi]
set_option maxRecDepth 100000 in
set_option maxHeartbeats 1000000 in
theorem sameT_none (a1 a2 : Option Addr) (c1 c2 : Nat) (w : World) : Calls Try.prog 57 #[.slice a1 0 c1, .slice a2 0 c2] w fun e w' => e = .returned (.bool true) ∧ ∃ k, w' = w.drewN k := by
  go_enter Try.func57, Try.ntmps57
  go_wp2_with fail
  go_loopw [5] (fun i wr => i = .int .i64 0 ∧ wr = w) (fun _ _ => 0)
  case atStart => exact ⟨rfl, rfl⟩
  case round =>
    obtain ⟨rfl, rfl⟩ := hrel
    go_wp2_with fail
    go_ret
    exact ⟨rfl, 0, rfl⟩
set_option maxRecDepth 100000 in
set_option maxHeartbeats 1000000 in
theorem sameT_some (g1 g2 n c1 c2 : Nat) (f : Nat → ByteArray) (hn : n < 1000000) (w : World) (h1 : ∀ i, i < n → w.cell? ⟨g1, i, none⟩ = some (.string (f i))) (h2 : ∀ i, i < n → w.cell? ⟨g2, i, none⟩ = some (.string (f i))) :
    Calls Try.prog 57 #[.slice (some ⟨g1, 0, none⟩) n c1, .slice (some ⟨g2, 0, none⟩) n c2] w fun e w' => e = .returned (.bool true) ∧ ∃ k, w' = w.drewN k := by
  have H := Hid.intro (And.intro h1 h2)
  clear h1 h2
  go_enter Try.func57, Try.ntmps57
  go_wp2_with fail
  go_loopw [5] (fun i wr => ∃ j : Nat, i = .int .i64 j ∧ j ≤ n ∧ Hid (∃ k, wr = w.drewN k)) (fun i _ => n - (intOf i).toNat)
  case atStart => exact ⟨0, rfl, by omega, Hid.intro ⟨0, rfl⟩⟩
  case round =>
    obtain ⟨j, rfl, hj, R⟩ := hrel
    by_cases hlt : j < n
    · have hltI : (j : Int) < (n : Int) := by omega
      have c1 : wr.cell? ⟨g1, j, none⟩ = some (.string (f j)) := by obtain ⟨k, e⟩ := R.out; rw [e]; exact H.out.1 j hlt
      have c2 : wr.cell? ⟨g2, j, none⟩ = some (.string (f j)) := by obtain ⟨k, e⟩ := R.out; rw [e]; exact H.out.2 j hlt
      have RN : Hid (∀ q, ∃ k, wr.drewN q = w.drewN k) := Hid.intro (fun q => by obtain ⟨k, e⟩ := R.out; exact ⟨k + q, by rw [e]; unfold World.drewN; simp [Nat.add_assoc]⟩)
      generalize f j = nm at c1 c2
      go_wp2_with fail
      go_quiet (fail)
      go_wp2_with fail
      go_roundw
      case rel => exact ⟨j + 1, by go_num, by omega, Hid.intro (RN.out _)⟩
      case measure => simp [intOf]; omega
    · have hltI : ¬ (j : Int) < (n : Int) := by omega
      go_wp2_with fail
      go_ret
      exact ⟨rfl, R.out⟩
theorem sameT_any {u1 u2 w1 w2 : World} {L : List ByteArray} {v1 v2 : Value} (h1 : SO u1 L v1 w1) (h2 : SO u2 L v2 w2) (hb : RowKit.Below w1.heap.size w1 w2) (hL : L.length < 1000000) :
    Calls Try.prog 57 #[v1, v2] w2 fun e w' => e = .returned (.bool true) ∧ ∃ k, w' = w2.drewN k := by
  by_cases hl : L.length = 0
  · obtain ⟨a1, c1, e1⟩ := h1.form
    obtain ⟨a2, c2, e2⟩ := h2.form
    rw [e1, e2, hl]
    exact sameT_none a1 a2 c1 c2 w2
  · obtain ⟨g1, c1, e1, l1, k1⟩ := h1.cells (by omega)
    obtain ⟨g2, c2, e2, l2, k2⟩ := h2.cells (by omega)
    rw [e1, e2]
    exact sameT_some g1 g2 L.length c1 c2 (fun i => L.getD i ⟨#[]⟩) hL w2 (fun i hi => (hb.cell (p := ⟨g1, i, none⟩) l1).trans (k1 i hi)) k2
end Go.Proofs.Ytfgnhldnmbfnkab

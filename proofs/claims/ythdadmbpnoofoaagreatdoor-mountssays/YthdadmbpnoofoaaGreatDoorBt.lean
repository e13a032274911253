/- How long the texts of acts are. -/
import Derived.Test.YthdadmbpnoofoaaGreatDoorBa
namespace Go.Proofs.YthdadmbpnoofoaaGreatDoor
open Go.RowKit

set_option maxRecDepth 100000 in
set_option maxHeartbeats 1000000 in
theorem lightT_none (a : Option Addr) (c : Nat) (m : Int) (w : World) : Calls Tryz.prog 6 #[.slice a 0 c, .int .i64 m] w fun e w' => e = .returned (.bool true) ∧ w' = w := by
  go_enter Tryz.func6, Tryz.ntmps6
  go_wp2_with fail
  go_loopw [5] (fun i wr => i = .int .i64 0 ∧ wr = w) (fun _ _ => 0)
  case atStart => exact ⟨rfl, rfl⟩
  case round =>
    obtain ⟨rfl, rfl⟩ := hrel
    go_wp2_with fail
    go_ret
    exact ⟨rfl, rfl⟩
/-- What is answered, and what it tells. -/
def LightTo (ax : Nat → Act8) (n : Nat) (m : Int) (v : Value) : Prop := v = .bool false ∨ (v = .bool true ∧ ∀ i, i < n → ((ax i).s.size : Int) ≤ m ∧ ((ax i).t.size : Int) ≤ m)
set_option maxRecDepth 100000 in
set_option maxHeartbeats 1000000 in
theorem lightT_some (b o n c : Nat) (m : Int) (ax : Nat → Act8) (w : World) (hn : n ≤ 1000) (h : ∀ i, i < n → ∀ j, j < 8 → w.cell? ⟨b, o + i * 8 + j, none⟩ = some ((ax i).cell j)) :
    Calls Tryz.prog 6 #[.slice (some ⟨b, o, none⟩) n c, .int .i64 m] w fun e w' => ∃ v, e = .returned v ∧ LightTo ax n m v ∧ w' = w := by
  have H := Hid.intro h
  clear h
  go_enter Tryz.func6, Tryz.ntmps6
  go_wp2_with fail
  go_loopw [5] (fun i wr => ∃ j : Nat, i = .int .i64 j ∧ j ≤ n ∧ Hid (∀ i, i < j → ((ax i).s.size : Int) ≤ m ∧ ((ax i).t.size : Int) ≤ m) ∧ wr = w) (fun i _ => n - (intOf i).toNat)
  case atStart => exact ⟨0, rfl, by omega, Hid.intro (fun i hi => by omega), rfl⟩
  case round =>
    obtain ⟨j, rfl, hj, R, hwr⟩ := hrel
    subst wr
    by_cases hlt : j < n
    · have hltI : (j : Int) < (n : Int) := by omega
      have c6 : w.cell? ⟨b, o + j * 8 + 6, none⟩ = some (.string (ax j).s) := H.out j hlt 6 (by omega)
      have c7 : w.cell? ⟨b, o + j * 8 + 7, none⟩ = some (.string (ax j).t) := H.out j hlt 7 (by omega)
      have NX : Hid (((ax j).s.size : Int) ≤ m → ((ax j).t.size : Int) ≤ m → ∀ i, i < j + 1 → ((ax i).s.size : Int) ≤ m ∧ ((ax i).t.size : Int) ≤ m) := Hid.intro (fun h1 h2 i hi => by
        by_cases d : i = j
        · subst d; exact ⟨h1, h2⟩
        · exact R.out i (by omega))
      generalize (ax j).s = s1 at c6 NX
      generalize (ax j).t = s2 at c7 NX
      by_cases d1 : m < (s1.size : Int)
      · go_wp2_with fail
        go_ret
        exact ⟨_, rfl, .inl rfl, rfl⟩
      · by_cases d2 : m < (s2.size : Int)
        · go_wp2_with fail
          go_ret
          exact ⟨_, rfl, .inl rfl, rfl⟩
        · have N2 := Hid.intro (NX.out (by omega) (by omega))
          go_wp2_with fail
          go_roundw
          case rel => exact ⟨j + 1, by go_num, by omega, N2, by first | rfl | trivial⟩
          case measure => simp [intOf]; omega
    · have hltI : ¬ (j : Int) < (n : Int) := by omega
      obtain rfl : j = n := by omega
      go_wp2_with fail
      go_ret
      exact ⟨_, rfl, .inr ⟨rfl, R.out⟩, rfl⟩
theorem lightT_any (a : Option Addr) (b o n c : Nat) (m : Int) (ax : Nat → Act8) (w : World) (hn : n ≤ 1000) (ha : 0 < n → a = some ⟨b, o, none⟩) (h : ∀ i, i < n → ∀ j, j < 8 → w.cell? ⟨b, o + i * 8 + j, none⟩ = some ((ax i).cell j)) :
    Calls Tryz.prog 6 #[.slice a n c, .int .i64 m] w fun e w' => ∃ v, e = .returned v ∧ LightTo ax n m v ∧ w' = w := by
  by_cases h0 : n = 0
  · subst h0
    refine (lightT_none a c m w).mono ?_
    rintro e w' ⟨rfl, hw⟩
    exact ⟨_, rfl, .inr ⟨rfl, fun i hi => absurd hi (Nat.not_lt_zero i)⟩, hw⟩
  · rw [ha (by omega)]
    exact lightT_some b o n c m ax w hn h
end Go.Proofs.YthdadmbpnoofoaaGreatDoor

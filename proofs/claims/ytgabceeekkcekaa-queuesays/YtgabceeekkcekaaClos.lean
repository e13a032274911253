/- The walk of the closure by which All puts its numbers in order. -/
import Derived.Test.YtgabceeekkcekaaCut
import Derived.Deep.RegionHeld3
import Derived.Handy
namespace Go.Proofs.Ytgabceeekkcekaa
open Go.RowKit
open Hp (Q)

/-- cmp.Compare. -/
def cmpI (x y : Nat) : Int := if x < y then -1 else if y < x then 1 else 0
/-- cmp.Or of two. -/
def orI (u v : Int) : Int := if u ≠ 0 then u else v
/-- The closure's answer. -/
def cfq (K : Nat → Nat) (x y : Nat) : Int := orI (cmpI (K x) (K y)) (cmpI x y)
theorem ret_int {k : IntKind} {a b : Int} (h : a = b) : Ending.returned (.int k a) = .returned (.int k b) := by rw [h]

set_option maxHeartbeats 400000 in
theorem cmpu_any (x y : Nat) (w : World) : Calls Try.prog 51 #[.int .u64 x, .int .u64 y] w fun e w' => e = .returned (.int .i64 (cmpI x y)) ∧ w' = w := by
  have H : Hid (∀ r, r = cmpI x y → Ending.returned (.int .i64 r) = .returned (.int .i64 (cmpI x y))) := fun r h => by rw [h]
  generalize hr : cmpI x y = r at *
  have HR : Hid (cmpI x y = r) := hr
  clear hr
  by_cases h1 : x < y
  · have h1' : (x : Int) < (y : Int) := by omega
    go_enter Try.func51, Try.ntmps51
    go_wp2
    go_ret
    exact ⟨ret_int (by rw [← HR.out]; unfold cmpI; rw [if_pos h1]), rfl⟩
  · by_cases h2 : y < x
    · have h1' : ¬ (x : Int) < (y : Int) := by omega
      have h2' : (y : Int) < (x : Int) := by omega
      go_enter Try.func51, Try.ntmps51
      go_wp2
      go_ret
      exact ⟨ret_int (by rw [← HR.out]; unfold cmpI; rw [if_neg (by omega), if_pos h2]), rfl⟩
    · have h1' : ¬ (x : Int) < (y : Int) := by omega
      have h2' : ¬ (y : Int) < (x : Int) := by omega
      go_enter Try.func51, Try.ntmps51
      go_wp2
      go_ret
      exact ⟨ret_int (by rw [← HR.out]; unfold cmpI; rw [if_neg (by omega), if_neg (by omega)]), rfl⟩

set_option maxHeartbeats 400000 in
theorem cmpi_any (x y : Nat) (w : World) : Calls Try.prog 52 #[.int .i64 x, .int .i64 y] w fun e w' => e = .returned (.int .i64 (cmpI x y)) ∧ w' = w := by
  generalize hr : cmpI x y = r at *
  have HR : Hid (cmpI x y = r) := hr
  clear hr
  by_cases h1 : x < y
  · have h1' : (x : Int) < (y : Int) := by omega
    go_enter Try.func52, Try.ntmps52
    go_wp2
    go_ret
    exact ⟨ret_int (by rw [← HR.out]; unfold cmpI; rw [if_pos h1]), rfl⟩
  · by_cases h2 : y < x
    · have h1' : ¬ (x : Int) < (y : Int) := by omega
      have h2' : (y : Int) < (x : Int) := by omega
      go_enter Try.func52, Try.ntmps52
      go_wp2
      go_ret
      exact ⟨ret_int (by rw [← HR.out]; unfold cmpI; rw [if_neg (by omega), if_pos h2]), rfl⟩
    · have h1' : ¬ (x : Int) < (y : Int) := by omega
      have h2' : ¬ (y : Int) < (x : Int) := by omega
      go_enter Try.func52, Try.ntmps52
      go_wp2
      go_ret
      exact ⟨ret_int (by rw [← HR.out]; unfold cmpI; rw [if_neg (by omega), if_neg (by omega)]), rfl⟩

set_option maxHeartbeats 400000 in
theorem or_any (g c : Nat) (u v : Int) (w : World) (h0 : w.cell? ⟨g, 0, none⟩ = some (.int .i64 u)) (h1 : w.cell? ⟨g, 1, none⟩ = some (.int .i64 v)) :
    Calls Try.prog 50 #[.slice (some ⟨g, 0, none⟩) 2 c] w fun e w' => e = .returned (.int .i64 (orI u v)) ∧ w' = w := by
  generalize hr : orI u v = r at *
  have HR : Hid ((if u ≠ 0 then u else v) = r) := hr
  clear hr
  by_cases hu : u = 0
  · have hub : (u != 0) = false := by simp [hu]
    have HU : Hid (u = 0) := hu
    clear hu
    by_cases hv : v = 0
    · have hvb : (v != 0) = false := by simp [hv]
      have HV : Hid (v = 0) := hv
      clear hv
      go_enter Try.func50, Try.ntmps50
      go_wp2
      refine wp_loop_rounds 3 ?_
      rw [rounds_succ]
      go_wp2
      rw [rounds_succ]
      go_wp2
      rw [rounds_succ]
      go_wp2
      go_ret
      exact ⟨ret_int (by rw [← HR.out, HU.out, HV.out]; simp), rfl⟩
    · have hvb : (v != 0) = true := by simp [hv]
      go_enter Try.func50, Try.ntmps50
      go_wp2
      refine wp_loop_rounds 3 ?_
      rw [rounds_succ]
      go_wp2
      rw [rounds_succ]
      go_wp2
      go_ret
      exact ⟨ret_int (by rw [← HR.out, HU.out]; simp), rfl⟩
  · have hub : (u != 0) = true := by simp [hu]
    go_enter Try.func50, Try.ntmps50
    go_wp2
    refine wp_loop_rounds 3 ?_
    rw [rounds_succ]
    go_wp2
    go_ret
    exact ⟨ret_int (by rw [← HR.out]; simp [hu]), rfl⟩

set_option maxHeartbeats 1000000 in
theorem closure_any (bx b x y : Nat) (q : Q) (w : World) (hbx : w.cell? ⟨bx, 0, none⟩ = some (.pointer (some ⟨b, 0, none⟩))) (h : At w b q) (hx : x < 64) (hy : y < 64) :
    Calls Try.prog 49 #[.int .i64 x, .int .i64 y, .pointer (some ⟨bx, 0, none⟩)] w fun e w' => e = .returned (.int .i64 (cfq q.keys x y)) ∧ ∃ n o, w' = (w.alloc o).drewN n := by
  have kx := h.keys x hx
  have ky := h.keys y hy
  have hxI : (x : Int) < 64 := by omega
  have hyI : (y : Int) < 64 := by omega
  clear h
  unfold cfq
  generalize q.keys x = KX at *
  generalize q.keys y = KY at *
  have HU : Hid (∀ w, Calls Try.prog 51 #[.int .u64 KX, .int .u64 KY] w fun e w' => e = .returned (.int .i64 (cmpI KX KY)) ∧ w' = w) := fun w => cmpu_any KX KY w
  have HI : Hid (∀ w, Calls Try.prog 52 #[.int .i64 x, .int .i64 y] w fun e w' => e = .returned (.int .i64 (cmpI x y)) ∧ w' = w) := fun w => cmpi_any x y w
  generalize cmpI KX KY = U at *
  generalize cmpI x y = V at *
  have ne1 := World.new_ne w _ hbx
  have ne2 := World.new_ne w _ kx
  have ne3 := World.new_ne w _ ky
  go_enter Try.func49, Try.ntmps49
  go_wp2_with fail
  go_region_held3 (fun w' => w'.cell? ⟨bx, 0, none⟩ = some (.pointer (some ⟨b, 0, none⟩)) ∧ w'.cell? ⟨b, 129 + x, none⟩ = some (.int .u64 KX) ∧ w'.cell? ⟨b, 129 + y, none⟩ = some (.int .u64 KY)) (go_keep) ((first | (go_at_call 51; refine (HU.out _).mono ?_; rintro e w' ⟨rfl, rfl⟩) | (go_at_call 52; refine (HI.out _).mono ?_; rintro e w' ⟨rfl, rfl⟩) | (go_at_call 50; refine (or_any _ _ U V _ (by simp [go_sem]) (by simp [go_sem])).mono ?_; rintro e w' ⟨rfl, rfl⟩)))
  go_wp2
  go_ret
  exact ⟨rfl, _, _, rfl⟩

end Go.Proofs.Ytgabceeekkcekaa

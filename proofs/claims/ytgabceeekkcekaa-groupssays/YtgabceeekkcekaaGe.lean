/- Remove; Add. -/
import Derived.Test.YtgabceeekkcekaaGa
namespace Go.Proofs.Ytgabceeekkcekaa
open Go.RowKit Go.Shelf

set_option maxRecDepth 100000 in
set_option maxHeartbeats 400000 in
theorem remove_bad (b : Nat) (g : Int) (t : Nat → Gp) (w : World) (h : TAt w b t) (hw : wr t g ≠ 0) : Calls Try.prog 25 #[.pointer (some ⟨b, 0, none⟩), .int .i64 g] w fun e w' => e = .returned (errV (wr t g)) ∧ w' = w := by
  have HT : Hid (TAt w b t) := h
  have HW : Hid (errV (wr t g) = .iface 81 (.int .i64 (wr t g))) := errV_ne hw
  clear h hw
  go_enter Try.func25, Try.ntmps25
  go_wp2_with fail
  refine (wrong_any b g t _ HT.out).mono ?_
  rintro e w1 ⟨rfl, hw1⟩
  subst w1
  rw [HW.out]
  go_wp2
  go_ret
  exact ⟨by rw [HW.out]; rfl, rfl⟩

set_option maxRecDepth 100000 in
set_option maxHeartbeats 400000 in
theorem remove_root (b : Nat) (t : Nat → Gp) (w : World) (h : TAt w b t) (hh : (t 0).there = true) : Calls Try.prog 25 #[.pointer (some ⟨b, 0, none⟩), .int .i64 0] w fun e w' => e = .returned (errV 5) ∧ w' = w := by
  have HT : Hid (TAt w b t ∧ (t 0).there = true) := ⟨h, hh⟩
  clear h hh
  go_enter Try.func25, Try.ntmps25
  go_wp2_with fail
  refine (wrong_ok b 0 t _ HT.out.1 (by omega) HT.out.2).mono ?_
  rintro e w1 ⟨rfl, hw1⟩
  subst w1
  go_wp2
  go_ret
  exact ⟨rfl, rfl⟩

set_option maxRecDepth 100000 in
set_option maxHeartbeats 400000 in
theorem remove_has (b n : Nat) (t : Nat → Gp) (Wy : Nat → List (Fin 10)) (w : World) (h : TAt w b t) (hW : Ways t Wy) (hS : Small t) (hn : n < 10) (hn0 : n ≠ 0) (hh : (t n).there = true) (hx : totTo t Wy n Gp.op 10 ≠ 0 ∨ totTo t Wy n Gp.oq 10 ≠ 0) :
    Calls Try.prog 25 #[.pointer (some ⟨b, 0, none⟩), .int .i64 n] w fun e w' => e = .returned (errV 5) ∧ Below w.heap.size w w' := by
  have H : Hid (TAt w b t ∧ (t n).there = true ∧ Ways t Wy ∧ Small t) := ⟨h, hh, hW, hS⟩
  have d0 : ((n : Int) == 0) = false := by simpa using hn0
  clear h hh hW hS
  generalize hX : totTo t Wy n Gp.op 10 = X at *
  generalize hY : totTo t Wy n Gp.oq 10 = Y at *
  have HXY := Hid.intro (And.intro hX hY)
  clear hX hY
  go_enter Try.func25, Try.ntmps25
  go_wp2_with fail
  refine (wrong_ok b n t _ H.out.1 hn H.out.2.1).mono ?_
  rintro e w1 ⟨rfl, hw1⟩
  subst w1
  go_wp2_with fail
  refine (total_any b n t Wy _ H.out.1 H.out.2.2.1 H.out.2.2.2).mono ?_
  rintro e w2 ⟨rfl, hb⟩
  have HB := Hid.intro hb
  clear hb
  rw [HXY.out.1, HXY.out.2]
  by_cases h1 : X = 0
  · have h2 : (Y == 0) = false := by have := hx.resolve_left (fun h => h h1); simpa using this
    subst h1
    clear hx
    go_wp2
    go_ret
    exact ⟨rfl, HB.out⟩
  · have h2 : (X == 0) = false := by simpa using h1
    clear hx h1
    go_wp2
    go_ret
    exact ⟨rfl, HB.out⟩

set_option maxRecDepth 100000 in
set_option maxHeartbeats 400000 in
theorem remove_abv (b n : Nat) (t : Nat → Gp) (Wy : Nat → List (Fin 10)) (w : World) (h : TAt w b t) (hW : Ways t Wy) (hS : Small t) (hn : n < 10) (hn0 : n ≠ 0) (hh : (t n).there = true) (hx : totTo t Wy n Gp.op 10 = 0 ∧ totTo t Wy n Gp.oq 10 = 0) (ha : abvB t n = true) :
    Calls Try.prog 25 #[.pointer (some ⟨b, 0, none⟩), .int .i64 n] w fun e w' => e = .returned (errV 5) ∧ Below w.heap.size w w' := by
  have H : Hid (TAt w b t ∧ (t n).there = true ∧ Ways t Wy ∧ Small t) := ⟨h, hh, hW, hS⟩
  have d0 : ((n : Int) == 0) = false := by simpa using hn0
  have HXY := Hid.intro hx
  have HA := Hid.intro ha
  clear h hh hW hS hx ha
  go_enter Try.func25, Try.ntmps25
  go_wp2_with fail
  refine (wrong_ok b n t _ H.out.1 hn H.out.2.1).mono ?_
  rintro e w1 ⟨rfl, hw1⟩
  subst w1
  go_wp2_with fail
  refine (total_any b n t Wy _ H.out.1 H.out.2.2.1 H.out.2.2.2).mono ?_
  rintro e w2 ⟨rfl, hb⟩
  have HB := Hid.intro hb
  clear hb
  rw [HXY.out.1, HXY.out.2]
  go_wp2_with fail
  refine (above_any b n t _ (H.out.1.below HB.out H.out.1.lt)).mono ?_
  rintro e w3 ⟨rfl, hb⟩
  have HB3 : Hid (Below w.heap.size w w3) := HB.out.trans (hb.mono HB.out.size)
  clear hb
  rw [HA.out]
  go_wp2
  go_ret
  exact ⟨rfl, HB3.out⟩

set_option maxRecDepth 100000 in
set_option maxHeartbeats 400000 in
theorem remove_ok (b n : Nat) (t : Nat → Gp) (Wy : Nat → List (Fin 10)) (w : World) (h : TAt w b t) (hW : Ways t Wy) (hS : Small t) (hn : n < 10) (hn0 : n ≠ 0) (hh : (t n).there = true) (hx : totTo t Wy n Gp.op 10 = 0 ∧ totTo t Wy n Gp.oq 10 = 0) (ha : abvB t n = false) :
    Calls Try.prog 25 #[.pointer (some ⟨b, 0, none⟩), .int .i64 n] w fun e w' => e = .returned (errV 0) ∧ TAt w' b (updT t n noGp) ∧ Frm b w w' := by
  have H : Hid (TAt w b t ∧ (t n).there = true ∧ Ways t Wy ∧ Small t) := ⟨h, hh, hW, hS⟩
  have d0 : ((n : Int) == 0) = false := by simpa using hn0
  have hnI : (n : Int) < 10 := by omega
  have HXY := Hid.intro hx
  have HA := Hid.intro ha
  clear h hh hW hS hx ha
  go_enter Try.func25, Try.ntmps25
  go_wp2_with fail
  refine (wrong_ok b n t _ H.out.1 hn H.out.2.1).mono ?_
  rintro e w1 ⟨rfl, hw1⟩
  subst w1
  go_wp2_with fail
  refine (total_any b n t Wy _ H.out.1 H.out.2.2.1 H.out.2.2.2).mono ?_
  rintro e w2 ⟨rfl, hb⟩
  have HB := Hid.intro hb
  clear hb
  rw [HXY.out.1, HXY.out.2]
  go_wp2_with fail
  refine (above_any b n t _ (H.out.1.below HB.out H.out.1.lt)).mono ?_
  rintro e w3 ⟨rfl, hb⟩
  have HB3 : Hid (Below w.heap.size w w3) := HB.out.trans (hb.mono HB.out.size)
  clear hb
  rw [HA.out]
  have T3 := Hid.intro (H.out.1.below HB3.out H.out.1.lt)
  have c0 : w3.cell? ⟨b, n * 6, none⟩ = some (.bool (t n).there) := T3.out.cell n 0 hn (by omega)
  have c1 : w3.cell? ⟨b, n * 6 + 1, none⟩ = some (.int .i64 (t n).par) := T3.out.cell n 1 hn (by omega)
  have c2 : w3.cell? ⟨b, n * 6 + 2, none⟩ = some (.int .i64 (t n).lp) := T3.out.cell n 2 hn (by omega)
  have c3 : w3.cell? ⟨b, n * 6 + 3, none⟩ = some (.int .i64 (t n).lq) := T3.out.cell n 3 hn (by omega)
  have c4 : w3.cell? ⟨b, n * 6 + 4, none⟩ = some (.int .i64 (t n).op) := T3.out.cell n 4 hn (by omega)
  have c5 : w3.cell? ⟨b, n * 6 + 5, none⟩ = some (.int .i64 (t n).oq) := T3.out.cell n 5 hn (by omega)
  have cf := T3.out.frozen
  go_wp2
  go_ret
  exact ⟨rfl, T3.out.put6 n hn noGp, ((((((Frm.of_below HB3.out).setCell _ _).setCell _ _).setCell _ _).setCell _ _).setCell _ _).setCell _ _⟩
end Go.Proofs.Ytgabceeekkcekaa

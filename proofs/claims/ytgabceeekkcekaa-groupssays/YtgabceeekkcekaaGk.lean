/- Charge, Uncharge. -/
import Derived.Test.YtgabceeekkcekaaGm
namespace Go.Proofs.Ytgabceeekkcekaa
open Go.RowKit Go.Shelf

theorem refE_pq {t : Nat → Gp} {g p q : Int} (h : refE t g p q = 0) : (0 ≤ p ∧ p ≤ 20) ∧ (0 ≤ q ∧ q ≤ 64) := by
  have hz := refE_zero h
  exact ⟨hz.choose_spec.2.2.2.1, hz.choose_spec.2.2.2.2⟩

set_option maxRecDepth 100000 in
set_option maxHeartbeats 400000 in
theorem charge_ref (b : Nat) (g p q : Int) (t : Nat → Gp) (w : World) (h : TAt w b t) (hw : refE t g p q ≠ 0) : Calls Try.prog 29 #[.pointer (some ⟨b, 0, none⟩), .int .i64 g, .int .i64 p, .int .i64 q] w fun e w' => e = .returned (errV (refE t g p q)) ∧ Below w.heap.size w w' := by
  have HT : Hid (TAt w b t) := h
  have HW : Hid (errV (refE t g p q) = .iface 81 (.int .i64 (refE t g p q))) := if_neg hw
  clear h hw
  go_enter Try.func29, Try.ntmps29
  go_wp2_with fail
  refine (refuses_any b g p q t _ (HT.out.below ((Below.refl _ _).alloc (Nat.le_refl _) _) HT.out.lt)).mono ?_
  rintro e w1 ⟨rfl, hb⟩
  have HB : Hid (Below w.heap.size w w1) := ((Below.refl _ w).alloc (Nat.le_refl _) _).trans (hb.mono (by simp))
  clear hb
  rw [HW.out]
  go_wp2
  go_ret
  exact ⟨by rw [HW.out]; rfl, HB.out⟩

/-- What Charge and Lacks know behind 'lacking'. -/
theorem al1_of {w w1 : World} {c : Array Value} {ty : TypeId} (hb : Below (w.alloc (.cells c ty)).heap.size (w.alloc (.cells c ty)) w1) : Below w.heap.size w w1 ∧ w1.heap[w.heap.size]? = some (.cells c ty (0, 0)) :=
  ⟨((Below.refl _ w).alloc (Nat.le_refl _) _).trans (hb.mono (by simp)), (hb.block _ (by simp)).trans (heap_alloc_new w _)⟩

set_option maxRecDepth 100000 in
set_option maxHeartbeats 400000 in
theorem charge_lim (b n : Nat) (p q : Int) (t : Nat → Gp) (Wy : Nat → List (Fin 10)) (w : World) (h : TAt w b t) (hW : Ways t Wy) (hS : Small t) (hn : n < 10) (hr : refE t n p q = 0) (hl : ∃ y ∈ Wy n, lackB t Wy p q y = true) : Calls Try.prog 29 #[.pointer (some ⟨b, 0, none⟩), .int .i64 n, .int .i64 p, .int .i64 q] w fun e w' => e = .returned (errV 6) ∧ Below w.heap.size w w' := by
  have H : Hid (TAt w b t ∧ Ways t Wy ∧ Small t ∧ refE t n p q = 0 ∧ ∃ y ∈ Wy n, lackB t Wy p q y = true) := ⟨h, hW, hS, hr, hl⟩
  obtain ⟨hp, hq⟩ := refE_pq hr
  have HPQ : Hid ((0 ≤ p ∧ p ≤ 1000) ∧ (0 ≤ q ∧ q ≤ 1000)) := ⟨⟨hp.1, by omega⟩, hq.1, by omega⟩
  clear h hW hS hr hl hp hq
  go_enter Try.func29, Try.ntmps29
  go_wp2_with fail
  refine (refuses_any b n p q t _ (H.out.1.below ((Below.refl _ _).alloc (Nat.le_refl _) _) H.out.1.lt)).mono ?_
  rintro e w1 ⟨rfl, hb⟩
  rw [H.out.2.2.2.1]
  obtain ⟨hb1, hx⟩ := al1_of hb
  have HB : Hid (Below w.heap.size w w1) := hb1
  have x0 : w1.cell? ⟨w.heap.size, 0, none⟩ = some (.int .i64 p) := heap_cell hx 0
  have x1 : w1.cell? ⟨w.heap.size, 1, none⟩ = some (.int .i64 q) := heap_cell hx 1
  clear hb hb1 hx
  rw [show errV 0 = .nilIface from rfl]
  go_wp2_with fail
  refine (lacking_any b n p q t Wy (Wy n) _ (H.out.1.below HB.out H.out.1.lt) H.out.2.1 H.out.2.2.1 (H.out.2.1 n hn) HPQ.out.1 HPQ.out.2).mono ?_
  rintro e w2 ⟨he, hb2⟩
  have HB2 : Hid (Below w.heap.size w w2) := HB.out.trans (hb2.mono HB.out.size)
  clear hb2
  rcases he with ⟨hno, _⟩ | ⟨pre, x, rest, _, _, _, rfl⟩
  · obtain ⟨y, hy, hyl⟩ := H.out.2.2.2.2
    rw [hno y hy] at hyl
    cases hyl
  · go_wp2
    go_ret
    exact ⟨rfl, HB2.out⟩

set_option maxRecDepth 100000 in
set_option maxHeartbeats 1000000 in
theorem charge_ok (b n : Nat) (p q : Int) (t : Nat → Gp) (Wy : Nat → List (Fin 10)) (w : World) (h : TAt w b t) (hW : Ways t Wy) (hS : Small t) (hn : n < 10) (hr : refE t n p q = 0) (hl : ∀ y ∈ Wy n, lackB t Wy p q y = false) : Calls Try.prog 29 #[.pointer (some ⟨b, 0, none⟩), .int .i64 n, .int .i64 p, .int .i64 q] w fun e w' => e = .returned (errV 0) ∧ TAt w' b (updT t n { t n with op := (t n).op + p, oq := (t n).oq + q }) ∧ Frm b w w' := by
  have H : Hid (TAt w b t ∧ Ways t Wy ∧ Small t ∧ refE t n p q = 0 ∧ ∀ y ∈ Wy n, lackB t Wy p q y = false) := ⟨h, hW, hS, hr, hl⟩
  obtain ⟨hp, hq⟩ := refE_pq hr
  have HPQ : Hid ((0 ≤ p ∧ p ≤ 1000) ∧ (0 ≤ q ∧ q ≤ 1000)) := ⟨⟨hp.1, by omega⟩, hq.1, by omega⟩
  have hnI : (n : Int) < 10 := by omega
  have sn := hS n hn
  clear h hW hS hr hl
  go_enter Try.func29, Try.ntmps29
  go_wp2_with fail
  refine (refuses_any b n p q t _ (H.out.1.below ((Below.refl _ _).alloc (Nat.le_refl _) _) H.out.1.lt)).mono ?_
  rintro e w1 ⟨rfl, hb⟩
  rw [H.out.2.2.2.1]
  obtain ⟨hb1, hx⟩ := al1_of hb
  have HB : Hid (Below w.heap.size w w1) := hb1
  have x0 : w1.cell? ⟨w.heap.size, 0, none⟩ = some (.int .i64 p) := heap_cell hx 0
  have x1 : w1.cell? ⟨w.heap.size, 1, none⟩ = some (.int .i64 q) := heap_cell hx 1
  clear hb hb1 hx
  rw [show errV 0 = .nilIface from rfl]
  go_wp2_with fail
  refine (lacking_any b n p q t Wy (Wy n) _ (H.out.1.below HB.out H.out.1.lt) H.out.2.1 H.out.2.2.1 (H.out.2.1 n hn) HPQ.out.1 HPQ.out.2).mono ?_
  rintro e w2 ⟨he, hb2⟩
  have HB2 : Hid (Below w.heap.size w w2) := HB.out.trans (hb2.mono HB.out.size)
  clear hb2 x0 x1
  rcases he with ⟨hno, rfl⟩ | ⟨pre, x, rest, hxs, _, hyl, _⟩
  · clear hno
    have T2 : Hid (TAt w2 b t) := H.out.1.below HB2.out H.out.1.lt
    have y0 : w2.cell? ⟨b, n * 6 + 4, none⟩ = some (.int .i64 (t n).op) := T2.out.cell n 4 hn (by omega)
    have y1 : w2.cell? ⟨b, n * 6 + 4 + 1, none⟩ = some (.int .i64 (t n).oq) := T2.out.cell n 5 hn (by omega)
    have yf := T2.out.frozen
    have HZ : Hid (∀ P R : Int, P = (t n).op → R = (t n).oq → TAt ((w2.setCell ⟨b, n * 6 + 4, none⟩ (.int .i64 (P + p))).drew.setCell ⟨b, n * 6 + 4 + 1, none⟩ (.int .i64 (R + q))).drew b (updT t n { t n with op := (t n).op + p, oq := (t n).oq + q })) := by
      rintro P R rfl rfl
      have Z := (((T2.out.set n 4 hn (by omega) (.int .i64 ((t n).op + p)) { t n with op := (t n).op + p } (fun i hi => by match i, hi with | 0, _ => rfl | 1, _ => rfl | 2, _ => rfl | 3, _ => rfl | 4, _ => rfl | 5, _ => rfl)).drew).set n 5 hn (by omega) (.int .i64 ((t n).oq + q)) { t n with op := (t n).op + p, oq := (t n).oq + q } (fun i hi => by rw [updT_same]; match i, hi with | 0, _ => rfl | 1, _ => rfl | 2, _ => rfl | 3, _ => rfl | 4, _ => rfl | 5, _ => rfl)).drew
      rw [updT_updT] at Z
      exact Z
    generalize hP : (t n).op = P at y0 sn
    generalize hR : (t n).oq = R at y1 sn
    have HPR : Hid (P = (t n).op ∧ R = (t n).oq) := ⟨hP.symm, hR.symm⟩
    clear hP hR
    obtain ⟨⟨s1, s2⟩, s3, s4⟩ := sn
    go_wp2_with fail
    go_region
    go_wp2_with fail
    go_region
    go_wp2
    go_ret
    refine ⟨rfl, HZ.out P R HPR.out.1 HPR.out.2, ((((Frm.of_below HB2.out).setCell _ _).drew).setCell _ _).drew⟩
  · have := H.out.2.2.2.2 x (by rw [hxs]; simp)
    rw [hyl] at this
    cases this

set_option maxRecDepth 100000 in
set_option maxHeartbeats 400000 in
theorem uncharge_ref (b : Nat) (g p q : Int) (t : Nat → Gp) (w : World) (h : TAt w b t) (hw : refE t g p q ≠ 0) : Calls Try.prog 31 #[.pointer (some ⟨b, 0, none⟩), .int .i64 g, .int .i64 p, .int .i64 q] w fun e w' => e = .returned (errV (refE t g p q)) ∧ Below w.heap.size w w' := by
  have HT : Hid (TAt w b t) := h
  have HW : Hid (errV (refE t g p q) = .iface 81 (.int .i64 (refE t g p q))) := if_neg hw
  clear h hw
  go_enter Try.func31, Try.ntmps31
  go_wp2_with fail
  refine (refuses_any b g p q t _ HT.out).mono ?_
  rintro e w1 ⟨rfl, hb⟩
  have HB : Hid (Below w.heap.size w w1) := hb
  clear hb
  rw [HW.out]
  go_wp2
  go_ret
  exact ⟨by rw [HW.out]; rfl, HB.out⟩

set_option maxRecDepth 100000 in
set_option maxHeartbeats 400000 in
theorem uncharge_state (b n : Nat) (p q : Int) (t : Nat → Gp) (w : World) (h : TAt w b t) (hn : n < 10) (hr : refE t n p q = 0) (hl : (t n).op < p ∨ (t n).oq < q) : Calls Try.prog 31 #[.pointer (some ⟨b, 0, none⟩), .int .i64 n, .int .i64 p, .int .i64 q] w fun e w' => e = .returned (errV 8) ∧ Below w.heap.size w w' := by
  have H : Hid (TAt w b t ∧ refE t n p q = 0) := ⟨h, hr⟩
  have hnI : (n : Int) < 10 := by omega
  clear h hr
  go_enter Try.func31, Try.ntmps31
  go_wp2_with fail
  refine (refuses_any b n p q t _ H.out.1).mono ?_
  rintro e w1 ⟨rfl, hb⟩
  rw [H.out.2, show errV 0 = .nilIface from rfl]
  have HB : Hid (Below w.heap.size w w1) := hb
  have T2 : Hid (TAt w1 b t) := H.out.1.below hb H.out.1.lt
  have y0 : w1.cell? ⟨b, n * 6 + 4, none⟩ = some (.int .i64 (t n).op) := T2.out.cell n 4 hn (by omega)
  have y1 : w1.cell? ⟨b, n * 6 + 4 + 1, none⟩ = some (.int .i64 (t n).oq) := T2.out.cell n 5 hn (by omega)
  clear hb
  generalize (t n).op = P at y0 hl
  generalize (t n).oq = R at y1 hl
  by_cases h1 : P < p
  · go_wp2
    go_ret
    exact ⟨rfl, HB.out⟩
  · have h2 : R < q := hl.resolve_left h1
    have d1 : decide (P < p) = false := by simp; omega
    clear hl h1
    go_wp2
    go_ret
    exact ⟨rfl, HB.out⟩

set_option maxRecDepth 100000 in
set_option maxHeartbeats 1000000 in
theorem uncharge_ok (b n : Nat) (p q : Int) (t : Nat → Gp) (w : World) (h : TAt w b t) (hS : Small t) (hn : n < 10) (hr : refE t n p q = 0) (hl : p ≤ (t n).op ∧ q ≤ (t n).oq) : Calls Try.prog 31 #[.pointer (some ⟨b, 0, none⟩), .int .i64 n, .int .i64 p, .int .i64 q] w fun e w' => e = .returned (errV 0) ∧ TAt w' b (updT t n { t n with op := (t n).op - p, oq := (t n).oq - q }) ∧ Frm b w w' := by
  have H : Hid (TAt w b t ∧ refE t n p q = 0) := ⟨h, hr⟩
  have hnI : (n : Int) < 10 := by omega
  obtain ⟨hp, hq⟩ := refE_pq hr
  have sn := hS n hn
  clear h hr hS
  go_enter Try.func31, Try.ntmps31
  go_wp2_with fail
  refine (refuses_any b n p q t _ H.out.1).mono ?_
  rintro e w1 ⟨rfl, hb⟩
  rw [H.out.2, show errV 0 = .nilIface from rfl]
  have HB : Hid (Below w.heap.size w w1) := hb
  have T2 : Hid (TAt w1 b t) := H.out.1.below hb H.out.1.lt
  have y0 : w1.cell? ⟨b, n * 6 + 4, none⟩ = some (.int .i64 (t n).op) := T2.out.cell n 4 hn (by omega)
  have y1 : w1.cell? ⟨b, n * 6 + 4 + 1, none⟩ = some (.int .i64 (t n).oq) := T2.out.cell n 5 hn (by omega)
  have yf := T2.out.frozen
  have HZ : Hid (∀ P R : Int, P = (t n).op → R = (t n).oq → TAt ((w1.setCell ⟨b, n * 6 + 4, none⟩ (.int .i64 (P - p))).setCell ⟨b, n * 6 + 4 + 1, none⟩ (.int .i64 (R - q))) b (updT t n { t n with op := (t n).op - p, oq := (t n).oq - q })) := by
    rintro P R rfl rfl
    have Z := (T2.out.set n 4 hn (by omega) (.int .i64 ((t n).op - p)) { t n with op := (t n).op - p } (fun i hi => by match i, hi with | 0, _ => rfl | 1, _ => rfl | 2, _ => rfl | 3, _ => rfl | 4, _ => rfl | 5, _ => rfl)).set n 5 hn (by omega) (.int .i64 ((t n).oq - q)) { t n with op := (t n).op - p, oq := (t n).oq - q } (fun i hi => by rw [updT_same]; match i, hi with | 0, _ => rfl | 1, _ => rfl | 2, _ => rfl | 3, _ => rfl | 4, _ => rfl | 5, _ => rfl)
    rw [updT_updT] at Z
    exact Z
  clear hb
  generalize hP : (t n).op = P at y0 sn hl
  generalize hR : (t n).oq = R at y1 sn hl
  have HPR : Hid (P = (t n).op ∧ R = (t n).oq) := ⟨hP.symm, hR.symm⟩
  clear hP hR
  obtain ⟨⟨s1, s2⟩, s3, s4⟩ := sn
  obtain ⟨h1, h2⟩ := hl
  have d1 : decide (P < p) = false := by simp; omega
  have d2 : decide (R < q) = false := by simp; omega
  go_wp2
  go_ret
  exact ⟨rfl, HZ.out P R HPR.out.1 HPR.out.2, ((Frm.of_below HB.out).setCell _ _).setCell _ _⟩
end Go.Proofs.Ytgabceeekkcekaa

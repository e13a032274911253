import Derived.Test.YtghogbngmcolmaaGreatSab
namespace Go.Proofs.YtghogbngmcolmaaGreat.Gr
open Go.RowKit Go.Shelf
theorem refE_pq {t : Nat → Gp} {g p q : Int} (h : refE t g p q = 0) : (0 ≤ p ∧ p ≤ 20) ∧ (0 ≤ q ∧ q ≤ 64) := by
  have hz := refE_zero h
  exact ⟨hz.choose_spec.2.2.2.1, hz.choose_spec.2.2.2.2⟩
set_option maxRecDepth 100000 in
set_option maxHeartbeats 400000 in
theorem charge_ref (b : Nat) (g p q : Int) (t : Nat → Gp) (w : World) (h : TAt w b t) (hw : refE t g p q ≠ 0) : Calls Tryz.prog 31 #[.pointer (some ⟨b, 0, none⟩), .int .i64 g, .int .i64 p, .int .i64 q] w fun e w' => e = .returned (errV (refE t g p q)) ∧ Below w.heap.size w w' := by
  have HT : Hid (TAt w b t) := h
  have HW : Hid (errV (refE t g p q) = .iface 60 (.int .i64 (refE t g p q))) := if_neg hw
  clear h hw
  go_enter Tryz.func31, Tryz.ntmps31
  go_wp2_with fail
  refine (refuses_any b g p q t _ (HT.out.below ((Below.refl _ _).alloc (Nat.le_refl _) _) HT.out.lt)).mono ?_
  rintro e w1 ⟨rfl, hb⟩
  have HB : Hid (Below w.heap.size w w1) := ((Below.refl _ w).alloc (Nat.le_refl _) _).trans (hb.mono (by simp))
  clear hb
  rw [HW.out]
  go_wp2
  go_ret
  exact ⟨by rw [HW.out]; rfl, HB.out⟩
theorem al1_of {w w1 : World} {c : Array Value} {ty : TypeId} (hb : Below (w.alloc (.cells c ty)).heap.size (w.alloc (.cells c ty)) w1) : Below w.heap.size w w1 ∧ w1.heap[w.heap.size]? = some (.cells c ty (0, 0)) :=
  ⟨((Below.refl _ w).alloc (Nat.le_refl _) _).trans (hb.mono (by simp)), (hb.block _ (by simp)).trans (heap_alloc_new w _)⟩
set_option maxRecDepth 100000 in
set_option maxHeartbeats 400000 in
theorem charge_lim (b n : Nat) (p q : Int) (t : Nat → Gp) (Wy : Nat → List (Fin 10)) (w : World) (h : TAt w b t) (hW : Ways t Wy) (hS : Small t) (hn : n < 10) (hr : refE t n p q = 0) (hl : ∃ y ∈ Wy n, lackB t Wy p q y = true) : Calls Tryz.prog 31 #[.pointer (some ⟨b, 0, none⟩), .int .i64 n, .int .i64 p, .int .i64 q] w fun e w' => e = .returned (errV 6) ∧ Below w.heap.size w w' := by
  have H : Hid (TAt w b t ∧ Ways t Wy ∧ Small t ∧ refE t n p q = 0 ∧ ∃ y ∈ Wy n, lackB t Wy p q y = true) := ⟨h, hW, hS, hr, hl⟩
  obtain ⟨hp, hq⟩ := refE_pq hr
  have HPQ : Hid ((0 ≤ p ∧ p ≤ 1000) ∧ (0 ≤ q ∧ q ≤ 1000)) := ⟨⟨hp.1, by omega⟩, hq.1, by omega⟩
  clear h hW hS hr hl hp hq
  go_enter Tryz.func31, Tryz.ntmps31
  go_wp2_with fail
  refine (refuses_any b n p q t _ (H.out.1.below ((Below.refl _ _).alloc (Nat.le_refl _) _) H.out.1.lt)).mono ?_
  rintro e w1 ⟨rfl, hb⟩
  rw [H.out.2.2.2.1]
  obtain ⟨hb1, hx⟩ := al1_of hb
  have HB : Hid (Below w.heap.size w w1) := hb1
  have x0 : w1.cell? ⟨w.heap.size, 0, none⟩ = some (.int .i64 p) := heap_cell hx 0
  have x1 : w1.cell? ⟨w.heap.size, 1, none⟩ = some (.int .i64 q) := heap_cell hx 1
  clear hb hb1 hx
  rw [show errV 0 = .nilIface from rfl]
  go_wp2_with fail
  refine (lacking_any b n p q t Wy (Wy n) _ (H.out.1.below HB.out H.out.1.lt) H.out.2.1 H.out.2.2.1 (H.out.2.1 n hn) HPQ.out.1 HPQ.out.2).mono ?_
  rintro e w2 ⟨he, hb2⟩
  have HB2 : Hid (Below w.heap.size w w2) := HB.out.trans (hb2.mono HB.out.size)
  clear hb2
  rcases he with ⟨hno, _⟩ | ⟨pre, x, rest, _, _, _, rfl⟩
  · obtain ⟨y, hy, hyl⟩ := H.out.2.2.2.2
    rw [hno y hy] at hyl
    cases hyl
  · go_wp2
    go_ret
    exact ⟨rfl, HB2.out⟩
set_option maxRecDepth 100000 in
set_option maxHeartbeats 1000000 in
theorem charge_ok (b n : Nat) (p q : Int) (t : Nat → Gp) (Wy : Nat → List (Fin 10)) (w : World) (h : TAt w b t) (hW : Ways t Wy) (hS : Small t) (hn : n < 10) (hr : refE t n p q = 0) (hl : ∀ y ∈ Wy n, lackB t Wy p q y = false) : Calls Tryz.prog 31 #[.pointer (some ⟨b, 0, none⟩), .int .i64 n, .int .i64 p, .int .i64 q] w fun e w' => e = .returned (errV 0) ∧ TAt w' b (updT t n { t n with op := (t n).op + p, oq := (t n).oq + q }) ∧ Frm b w w' := by
  have H : Hid (TAt w b t ∧ Ways t Wy ∧ Small t ∧ refE t n p q = 0 ∧ ∀ y ∈ Wy n, lackB t Wy p q y = false) := ⟨h, hW, hS, hr, hl⟩
  obtain ⟨hp, hq⟩ := refE_pq hr
  have HPQ : Hid ((0 ≤ p ∧ p ≤ 1000) ∧ (0 ≤ q ∧ q ≤ 1000)) := ⟨⟨hp.1, by omega⟩, hq.1, by omega⟩
  have hnI : (n : Int) < 10 := by omega
  have sn := hS n hn
  clear h hW hS hr hl
  go_enter Tryz.func31, Tryz.ntmps31
  go_wp2_with fail
  refine (refuses_any b n p q t _ (H.out.1.below ((Below.refl _ _).alloc (Nat.le_refl _) _) H.out.1.lt)).mono ?_
  rintro e w1 ⟨rfl, hb⟩
  rw [H.out.2.2.2.1]
  obtain ⟨hb1, hx⟩ := al1_of hb
  have HB : Hid (Below w.heap.size w w1) := hb1
  have x0 : w1.cell? ⟨w.heap.size, 0, none⟩ = some (.int .i64 p) := heap_cell hx 0
  have x1 : w1.cell? ⟨w.heap.size, 1, none⟩ = some (.int .i64 q) := heap_cell hx 1
  clear hb hb1 hx
  rw [show errV 0 = .nilIface from rfl]
  go_wp2_with fail
  refine (lacking_any b n p q t Wy (Wy n) _ (H.out.1.below HB.out H.out.1.lt) H.out.2.1 H.out.2.2.1 (H.out.2.1 n hn) HPQ.out.1 HPQ.out.2).mono ?_
  rintro e w2 ⟨he, hb2⟩
  have HB2 : Hid (Below w.heap.size w w2) := HB.out.trans (hb2.mono HB.out.size)
  clear hb2 x0 x1
  rcases he with ⟨hno, rfl⟩ | ⟨pre, x, rest, hxs, _, hyl, _⟩
  · clear hno
    have T2 : Hid (TAt w2 b t) := H.out.1.below HB2.out H.out.1.lt
    have y0 : w2.cell? ⟨b, n * 6 + 4, none⟩ = some (.int .i64 (t n).op) := T2.out.cell n 4 hn (by omega)
    have y1 : w2.cell? ⟨b, n * 6 + 4 + 1, none⟩ = some (.int .i64 (t n).oq) := T2.out.cell n 5 hn (by omega)
    have yf := T2.out.frozen
    have HZ : Hid (∀ P R : Int, P = (t n).op → R = (t n).oq → TAt ((w2.setCell ⟨b, n * 6 + 4, none⟩ (.int .i64 (P + p))).drew.setCell ⟨b, n * 6 + 4 + 1, none⟩ (.int .i64 (R + q))).drew b (updT t n { t n with op := (t n).op + p, oq := (t n).oq + q })) := by
      rintro P R rfl rfl
      have Z := (((T2.out.set n 4 hn (by omega) (.int .i64 ((t n).op + p)) { t n with op := (t n).op + p } (fun i hi => by match i, hi with | 0, _ => rfl | 1, _ => rfl | 2, _ => rfl | 3, _ => rfl | 4, _ => rfl | 5, _ => rfl)).drew).set n 5 hn (by omega) (.int .i64 ((t n).oq + q)) { t n with op := (t n).op + p, oq := (t n).oq + q } (fun i hi => by rw [updT_same]; match i, hi with | 0, _ => rfl | 1, _ => rfl | 2, _ => rfl | 3, _ => rfl | 4, _ => rfl | 5, _ => rfl)).drew
      rw [updT_updT] at Z
      exact Z
    generalize hP : (t n).op = P at y0 sn
    generalize hR : (t n).oq = R at y1 sn
    have HPR : Hid (P = (t n).op ∧ R = (t n).oq) := ⟨hP.symm, hR.symm⟩
    clear hP hR
    obtain ⟨⟨s1, s2⟩, s3, s4⟩ := sn
    go_wp2_with fail
    go_region
    go_wp2_with fail
    go_region
    go_wp2
    go_ret
    refine ⟨rfl, HZ.out P R HPR.out.1 HPR.out.2, ((((Frm.of_below HB2.out).setCell _ _).drew).setCell _ _).drew⟩
  · have := H.out.2.2.2.2 x (by rw [hxs]; simp)
    rw [hyl] at this
    cases this
set_option maxRecDepth 100000 in
set_option maxHeartbeats 400000 in
theorem uncharge_ref (b : Nat) (g p q : Int) (t : Nat → Gp) (w : World) (h : TAt w b t) (hw : refE t g p q ≠ 0) : Calls Tryz.prog 33 #[.pointer (some ⟨b, 0, none⟩), .int .i64 g, .int .i64 p, .int .i64 q] w fun e w' => e = .returned (errV (refE t g p q)) ∧ Below w.heap.size w w' := by
  have HT : Hid (TAt w b t) := h
  have HW : Hid (errV (refE t g p q) = .iface 60 (.int .i64 (refE t g p q))) := if_neg hw
  clear h hw
  go_enter Tryz.func33, Tryz.ntmps33
  go_wp2_with fail
  refine (refuses_any b g p q t _ HT.out).mono ?_
  rintro e w1 ⟨rfl, hb⟩
  have HB : Hid (Below w.heap.size w w1) := hb
  clear hb
  rw [HW.out]
  go_wp2
  go_ret
  exact ⟨by rw [HW.out]; rfl, HB.out⟩
set_option maxRecDepth 100000 in
set_option maxHeartbeats 400000 in
theorem uncharge_state (b n : Nat) (p q : Int) (t : Nat → Gp) (w : World) (h : TAt w b t) (hn : n < 10) (hr : refE t n p q = 0) (hl : (t n).op < p ∨ (t n).oq < q) : Calls Tryz.prog 33 #[.pointer (some ⟨b, 0, none⟩), .int .i64 n, .int .i64 p, .int .i64 q] w fun e w' => e = .returned (errV 8) ∧ Below w.heap.size w w' := by
  have H : Hid (TAt w b t ∧ refE t n p q = 0) := ⟨h, hr⟩
  have hnI : (n : Int) < 10 := by omega
  clear h hr
  go_enter Tryz.func33, Tryz.ntmps33
  go_wp2_with fail
  refine (refuses_any b n p q t _ H.out.1).mono ?_
  rintro e w1 ⟨rfl, hb⟩
  rw [H.out.2, show errV 0 = .nilIface from rfl]
  have HB : Hid (Below w.heap.size w w1) := hb
  have T2 : Hid (TAt w1 b t) := H.out.1.below hb H.out.1.lt
  have y0 : w1.cell? ⟨b, n * 6 + 4, none⟩ = some (.int .i64 (t n).op) := T2.out.cell n 4 hn (by omega)
  have y1 : w1.cell? ⟨b, n * 6 + 4 + 1, none⟩ = some (.int .i64 (t n).oq) := T2.out.cell n 5 hn (by omega)
  clear hb
  generalize (t n).op = P at y0 hl
  generalize (t n).oq = R at y1 hl
  by_cases h1 : P < p
  · go_wp2
    go_ret
    exact ⟨rfl, HB.out⟩
  · have h2 : R < q := hl.resolve_left h1
    have d1 : decide (P < p) = false := by simp; omega
    clear hl h1
    go_wp2
    go_ret
    exact ⟨rfl, HB.out⟩
set_option maxRecDepth 100000 in
set_option maxHeartbeats 1000000 in
theorem uncharge_ok (b n : Nat) (p q : Int) (t : Nat → Gp) (w : World) (h : TAt w b t) (hS : Small t) (hn : n < 10) (hr : refE t n p q = 0) (hl : p ≤ (t n).op ∧ q ≤ (t n).oq) : Calls Tryz.prog 33 #[.pointer (some ⟨b, 0, none⟩), .int .i64 n, .int .i64 p, .int .i64 q] w fun e w' => e = .returned (errV 0) ∧ TAt w' b (updT t n { t n with op := (t n).op - p, oq := (t n).oq - q }) ∧ Frm b w w' := by
  have H : Hid (TAt w b t ∧ refE t n p q = 0) := ⟨h, hr⟩
  have hnI : (n : Int) < 10 := by omega
  obtain ⟨hp, hq⟩ := refE_pq hr
  have sn := hS n hn
  clear h hr hS
  go_enter Tryz.func33, Tryz.ntmps33
  go_wp2_with fail
  refine (refuses_any b n p q t _ H.out.1).mono ?_
  rintro e w1 ⟨rfl, hb⟩
  rw [H.out.2, show errV 0 = .nilIface from rfl]
  have HB : Hid (Below w.heap.size w w1) := hb
  have T2 : Hid (TAt w1 b t) := H.out.1.below hb H.out.1.lt
  have y0 : w1.cell? ⟨b, n * 6 + 4, none⟩ = some (.int .i64 (t n).op) := T2.out.cell n 4 hn (by omega)
  have y1 : w1.cell? ⟨b, n * 6 + 4 + 1, none⟩ = some (.int .i64 (t n).oq) := T2.out.cell n 5 hn (by omega)
  have yf := T2.out.frozen
  have HZ : Hid (∀ P R : Int, P = (t n).op → R = (t n).oq → TAt ((w1.setCell ⟨b, n * 6 + 4, none⟩ (.int .i64 (P - p))).setCell ⟨b, n * 6 + 4 + 1, none⟩ (.int .i64 (R - q))) b (updT t n { t n with op := (t n).op - p, oq := (t n).oq - q })) := by
    rintro P R rfl rfl
    have Z := (T2.out.set n 4 hn (by omega) (.int .i64 ((t n).op - p)) { t n with op := (t n).op - p } (fun i hi => by match i, hi with | 0, _ => rfl | 1, _ => rfl | 2, _ => rfl | 3, _ => rfl | 4, _ => rfl | 5, _ => rfl)).set n 5 hn (by omega) (.int .i64 ((t n).oq - q)) { t n with op := (t n).op - p, oq := (t n).oq - q } (fun i hi => by rw [updT_same]; match i, hi with | 0, _ => rfl | 1, _ => rfl | 2, _ => rfl | 3, _ => rfl | 4, _ => rfl | 5, _ => rfl)
    rw [updT_updT] at Z
    exact Z
  clear hb
  generalize hP : (t n).op = P at y0 sn hl
  generalize hR : (t n).oq = R at y1 sn hl
  have HPR : Hid (P = (t n).op ∧ R = (t n).oq) := ⟨hP.symm, hR.symm⟩
  clear hP hR
  obtain ⟨⟨s1, s2⟩, s3, s4⟩ := sn
  obtain ⟨h1, h2⟩ := hl
  have d1 : decide (P < p) = false := by simp; omega
  have d2 : decide (R < q) = false := by simp; omega
  go_wp2
  go_ret
  exact ⟨rfl, HZ.out P R HPR.out.1 HPR.out.2, ((Frm.of_below HB.out).setCell _ _).setCell _ _⟩
end Go.Proofs.YtghogbngmcolmaaGreat.Gr
namespace Go.Proofs.YtghogbngmcolmaaGreat.Gr
open Go.RowKit Go.Shelf
def lackA (t : Nat → Gp) (Wy : Nat → List (Fin 10)) (n : Nat) (p q : Int) : Bool := (Wy n).any (lackB t Wy p q)
def chgE (t : Nat → Gp) (Wy : Nat → List (Fin 10)) (g p q : Int) : Int := if refE t g p q = 0 then (if lackA t Wy g.toNat p q = true then 6 else 0) else refE t g p q
def addO (t : Nat → Gp) (n : Nat) (p q : Int) : Nat → Gp := updT t n { t n with op := (t n).op + p, oq := (t n).oq + q }
def chgT (t : Nat → Gp) (Wy : Nat → List (Fin 10)) (g p q : Int) : Nat → Gp := if chgE t Wy g p q = 0 then addO t g.toNat p q else t
def uncE (t : Nat → Gp) (g p q : Int) : Int := if refE t g p q = 0 then (if p ≤ (t g.toNat).op ∧ q ≤ (t g.toNat).oq then 0 else 8) else refE t g p q
def uncT (t : Nat → Gp) (g p q : Int) : Nat → Gp := if uncE t g p q = 0 then addO t g.toNat (-p) (-q) else t
theorem charge_any (b : Nat) (g p q : Int) (t : Nat → Gp) (Wy : Nat → List (Fin 10)) (w : World) (h : TAt w b t) (hW : Ways t Wy) (hS : Small t) :
    Calls Tryz.prog 31 #[.pointer (some ⟨b, 0, none⟩), .int .i64 g, .int .i64 p, .int .i64 q] w fun e w' => e = .returned (errV (chgE t Wy g p q)) ∧ TAt w' b (chgT t Wy g p q) ∧ Frm b w w' := by
  by_cases hr : refE t g p q = 0
  · obtain ⟨n, rfl, hn, hh, _, _⟩ := refE_zero hr
    cases hl : lackA t Wy n p q
    · have e : chgE t Wy n p q = 0 := by unfold chgE; rw [if_pos hr, Int.toNat_natCast, hl]; rfl
      unfold chgT
      rw [e, if_pos rfl, Int.toNat_natCast]
      refine charge_ok b n p q t Wy w h hW hS hn hr (fun y hy => ?_)
      unfold lackA at hl
      rw [List.any_eq_false] at hl
      have := hl y hy
      cases hb : lackB t Wy p q y
      · rfl
      · exact absurd hb this
    · have e : chgE t Wy n p q = 6 := by unfold chgE; rw [if_pos hr, Int.toNat_natCast, hl]; rfl
      unfold chgT
      rw [e, if_neg (by decide)]
      refine (charge_lim b n p q t Wy w h hW hS hn hr ?_).mono fun e w' ⟨h1, h2⟩ => ⟨h1, h.below h2 h.lt, Frm.of_below h2⟩
      unfold lackA at hl
      exact List.any_eq_true.1 hl
  · have e : chgE t Wy g p q = refE t g p q := by unfold chgE; rw [if_neg hr]
    unfold chgT
    rw [e, if_neg hr]
    exact (charge_ref b g p q t w h hr).mono fun e w' ⟨h1, h2⟩ => ⟨h1, h.below h2 h.lt, Frm.of_below h2⟩
theorem uncharge_any (b : Nat) (g p q : Int) (t : Nat → Gp) (w : World) (h : TAt w b t) (hS : Small t) :
    Calls Tryz.prog 33 #[.pointer (some ⟨b, 0, none⟩), .int .i64 g, .int .i64 p, .int .i64 q] w fun e w' => e = .returned (errV (uncE t g p q)) ∧ TAt w' b (uncT t g p q) ∧ Frm b w w' := by
  by_cases hr : refE t g p q = 0
  · obtain ⟨n, rfl, hn, hh, _, _⟩ := refE_zero hr
    by_cases hl : p ≤ (t n).op ∧ q ≤ (t n).oq
    · have e : uncE t n p q = 0 := by unfold uncE; rw [if_pos hr, Int.toNat_natCast, if_pos hl]
      unfold uncT
      rw [e, if_pos rfl, Int.toNat_natCast]
      refine (uncharge_ok b n p q t w h hS hn hr hl).mono fun e w' ⟨h1, h2, h3⟩ => ⟨h1, ?_, h3⟩
      unfold addO
      rw [← Int.sub_eq_add_neg, ← Int.sub_eq_add_neg]
      exact h2
    · have e : uncE t n p q = 8 := by unfold uncE; rw [if_pos hr, Int.toNat_natCast, if_neg hl]
      unfold uncT
      rw [e, if_neg (by decide)]
      exact (uncharge_state b n p q t w h hn hr (by omega)).mono fun e w' ⟨h1, h2⟩ => ⟨h1, h.below h2 h.lt, Frm.of_below h2⟩
  · have e : uncE t g p q = refE t g p q := by unfold uncE; rw [if_neg hr]
    unfold uncT
    rw [e, if_neg hr]
    exact (uncharge_ref b g p q t w h hr).mono fun e w' ⟨h1, h2⟩ => ⟨h1, h.below h2 h.lt, Frm.of_below h2⟩
theorem Hid.intro {p : Prop} (h : p) : Hid p := h
theorem way_same {t t' : Nat → Gp} (h : ∀ k, (t' k).there = (t k).there ∧ (t' k).par = (t k).par) : ∀ {g : Int} {L : List Nat}, Way t g L → Way t' g L
  | g, [], hw => fun hv => hw ⟨hv.1, hv.2.1, by rw [← (h _).1]; exact hv.2.2⟩
  | g, x :: L, ⟨e, hx, hh, hr⟩ => ⟨e, hx, by rw [(h x).1]; exact hh, by rw [(h x).2]; exact way_same h hr⟩
theorem Ways.same {t t' : Nat → Gp} {Wy : Nat → List (Fin 10)} (h : ∀ k, (t' k).there = (t k).there ∧ (t' k).par = (t k).par) (hW : Ways t Wy) : Ways t' Wy := fun k hk => way_same h (hW k hk)
theorem addO_same (t : Nat → Gp) (n : Nat) (p q : Int) (k : Nat) : (addO t n p q k).there = (t k).there ∧ (addO t n p q k).par = (t k).par := by
  unfold addO updT
  split
  · rename_i e; subst e; exact ⟨rfl, rfl⟩
  · exact ⟨rfl, rfl⟩
end Go.Proofs.YtghogbngmcolmaaGreat.Gr
namespace Go.Proofs.YtghogbngmcolmaaGreat.Gr
structure Tree (t : Nat → Gp) (Wy : Nat → List (Fin 10)) (c : Nat) : Prop where
  ways : Ways t Wy
  deep : ∀ k, k < 10 → (Wy k).length ≤ 4
  root : (t 0).there = true ∧ (t 0).par = -1
  par : ∀ k, k < 10 → (t k).there = true → k ≠ 0 → ∃ m : Nat, (t k).par = m ∧ m < 10 ∧ (t m).there = true
  own : ∀ k, k < 10 → (0 ≤ (t k).op ∧ (t k).op ≤ 64 * c) ∧ (0 ≤ (t k).oq ∧ (t k).oq ≤ 64 * c)
section
variable {t : Nat → Gp} {Wy : Nat → List (Fin 10)} {c : Nat}
theorem Tree.small (h : Tree t Wy c) (hc : c ≤ 1000) : Small t := fun k hk => by have := h.own k hk; omega
theorem Tree.mono (h : Tree t Wy c) {c' : Nat} (hc : c ≤ c') : Tree t Wy c' := ⟨h.ways, h.deep, h.root, h.par, fun k hk => by have := h.own k hk; omega⟩
theorem way_cons (h : Ways t Wy) {k : Nat} (hk : k < 10) (hh : (t k).there = true) : ∃ r, Wy k = ⟨k, hk⟩ :: r ∧ Way t (t k).par (vals r) := by
  have := h k hk
  cases hw : Wy k with
  | nil =>
    rw [hw] at this
    exact absurd ⟨by omega, by omega, hh⟩ this
  | cons x r =>
    rw [hw] at this
    obtain ⟨e, _, _, h4⟩ := this
    have e2 : k = x.val := by exact Int.ofNat_inj.1 e
    subst e2
    exact ⟨r, rfl, h4⟩
theorem way_root (h : Tree t Wy c) : Wy 0 = [⟨0, by omega⟩] := by
  obtain ⟨r, hr, hw⟩ := way_cons h.ways (show 0 < 10 by omega) h.root.1
  rw [h.root.2] at hw
  cases r with
  | nil => exact hr
  | cons x r => obtain ⟨e, _⟩ := hw; omega
end
section
variable {t : Nat → Gp} {Wy : Nat → List (Fin 10)} {c : Nat}
def t0 : Nat → Gp := updT (fun _ => noGp) 0 (newGp (-1))
def W0 : Nat → List (Fin 10) := fun k => if k = 0 then [⟨0, by omega⟩] else []
theorem tree0 : Tree t0 W0 0 := by
  have hn : ∀ k, k ≠ 0 → t0 k = noGp := fun k hk => updT_ne _ _ _ _ hk
  have h0 : t0 0 = newGp (-1) := updT_same _ _ _
  refine ⟨fun k hk => ?_, fun k hk => ?_, ⟨by rw [h0]; rfl, by rw [h0]; rfl⟩, fun k hk hh hne => ?_, fun k hk => ?_⟩
  · by_cases e : k = 0
    · subst e
      exact ⟨rfl, by decide, by show (t0 0).there = true; rw [h0]; rfl, by show ¬ valid t0 (t0 0).par; rw [h0]; rintro ⟨a, _⟩; exact absurd a (by decide)⟩
    · have : W0 k = [] := if_neg e
      rw [this]
      rintro ⟨_, _, h⟩
      rw [Int.toNat_natCast, hn k e] at h
      cases h
  · unfold W0
    split <;> simp
  · rw [hn k hne] at hh; cases hh
  · by_cases e : k = 0
    · subst e; rw [h0]; simp [newGp]
    · rw [hn k e]; simp [noGp]
theorem Tree.sameW (h : Tree t Wy c) {t' : Nat → Gp} {c' : Nat} (hs : ∀ k, (t' k).there = (t k).there ∧ (t' k).par = (t k).par) (ho : ∀ k, k < 10 → (0 ≤ (t' k).op ∧ (t' k).op ≤ 64 * c') ∧ (0 ≤ (t' k).oq ∧ (t' k).oq ≤ 64 * c')) : Tree t' Wy c' :=
  ⟨h.ways.same hs, h.deep, ⟨by rw [(hs 0).1]; exact h.root.1, by rw [(hs 0).2]; exact h.root.2⟩, fun k hk hh hne => by
    rw [(hs k).1] at hh
    obtain ⟨m, e, hm, hhm⟩ := h.par k hk hh hne
    exact ⟨m, by rw [(hs k).2]; exact e, hm, by rw [(hs m).1]; exact hhm⟩, ho⟩
theorem Tree.addO (h : Tree t Wy c) {n : Nat} {p q : Int} {c' : Nat} (hc : c ≤ c') (hp : 0 ≤ (t n).op + p ∧ (t n).op + p ≤ 64 * c') (hq : 0 ≤ (t n).oq + q ∧ (t n).oq + q ≤ 64 * c') : Tree (addO t n p q) Wy c' := by
  refine h.sameW (addO_same t n p q) fun k hk => ?_
  by_cases e : k = n
  · subst e
    rw [show YtghogbngmcolmaaGreat.Gr.addO t k p q k = _ from updT_same _ _ _]
    exact ⟨hp, hq⟩
  · rw [show YtghogbngmcolmaaGreat.Gr.addO t n p q k = _ from updT_ne _ _ _ _ e]
    have := h.own k hk
    omega
end
end Go.Proofs.YtghogbngmcolmaaGreat.Gr

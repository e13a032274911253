/- The code's table: what it holds. -/
import Derived.Test.YthdadmbpnoofoaaGreatDoorMf
import Derived.Test.YthdadmbpnoofoaaGreatDoorWa
import Derived.Deep.RegionHeld3
namespace Go.Proofs.YthdadmbpnoofoaaGreatDoor
open Go.RowKit
open Tr (Fo Nd)
open Mo (Wh Mt Tb)

namespace Mo
def hoM (F : Fo) (m : Mt) : Fo := Tr.hol (Tr.hol F m.1.2) m.2.2
def leM (F : Fo) (m : Mt) : Fo := Tr.letT (Tr.letT F m.1.2) m.2.2
/-- All to which a table leads is held; is let go. -/
def hoA (F : Fo) (T : Tb) : Fo := T.ms.foldl hoM (Tr.hol F T.rt.2)
def leA (F : Fo) (T : Tb) : Fo := T.ms.foldl leM (Tr.letT F T.rt.2)
theorem hb_ho {F : Fo} {k : Nat} (h : Tr.Hb F k) (m : Mt) : Tr.Hb (hoM F m) (k + 2) := (h.hol _).hol _
theorem hb_le {F : Fo} {k : Nat} (h : Tr.Hb F k) (m : Mt) : Tr.Hb (leM F m) (k + 2) := ((h.letT _).letT _).mono (by omega)
theorem hb_hos : ∀ (L : List Mt) {F : Fo} {k : Nat}, Tr.Hb F k → Tr.Hb (L.foldl hoM F) (k + 2 * L.length)
  | [], _, _, h => h
  | m :: L, _, k, h => by
    have := hb_hos L (hb_ho h m)
    rw [List.foldl_cons, List.length_cons, show k + 2 * (L.length + 1) = k + 2 + 2 * L.length by omega]
    exact this
theorem hb_les : ∀ (L : List Mt) {F : Fo} {k : Nat}, Tr.Hb F k → Tr.Hb (L.foldl leM F) (k + 2 * L.length)
  | [], _, _, h => h
  | m :: L, _, k, h => by
    have := hb_les L (hb_le h m)
    rw [List.foldl_cons, List.length_cons, show k + 2 * (L.length + 1) = k + 2 + 2 * L.length by omega]
    exact this
theorem hb_hoA {F : Fo} {T : Tb} {k : Nat} (h : Tr.Hb F k) (h6 : T.ms.length ≤ 6) : Tr.Hb (hoA F T) (k + 13) := (hb_hos T.ms (h.hol T.rt.2)).mono (by omega)
theorem hb_leA {F : Fo} {T : Tb} {k : Nat} (h : Tr.Hb F k) : Tr.Hb (leA F T) k := by
  have : ∀ (L : List Mt) {G : Fo}, Tr.Hb G k → Tr.Hb (L.foldl leM G) k := fun L => by
    induction L with
    | nil => exact fun h => h
    | cons m L ih => exact fun h => ih ((h.letT _).letT _)
  exact this _ (h.letT _)
theorem foldl_snoc {α β : Type} (f : α → β → α) (L : List β) (j : Nat) (m : β) (a : α) (h : L[j]? = some m) : (L.take (j + 1)).foldl f a = f ((L.take j).foldl f a) m := by
  obtain ⟨hl, e⟩ := List.getElem?_eq_some_iff.1 h
  rw [List.take_succ_eq_append_getElem hl, List.foldl_append, e]
  rfl
end Mo
section
variable {w w' : World} {base b f : Nat} {T : Tb} {v : Value} {F : Fo}
theorem TAt.ne (h : TAt w base b f T v) (hF : FAt w f F) : b ≠ f ∧ ∀ g, v.ownBlock = some g → g ≠ f := by
  obtain ⟨C, hC, _⟩ := hF.blk
  exact ⟨blk_ne h.blk hC (by decide), h.row.ne_of hC (by decide)⟩
theorem TAt.ofF (h : TAt w base b f T v) (hF : FAt w f F) (k : Frm f w w') : TAt w' base b f T v :=
  h.same (k.block b h.lt (h.ne hF).1) (fun g e => k.block g (h.row.lt g e).2 ((h.ne hF).2 g e))
end
/-- A mount, boxed. -/
def MB (w : World) (c : Nat) (m : Mt) : Prop := w.heap[c]? = some (.cells #[.int .i64 m.1.1, .int .i64 m.1.2, .int .i64 m.2.1, .int .i64 m.2.2] 105 (0, 0))
section
variable {w w' : World} {c f : Nat} {m : Mt} {F : Fo}
theorem MB.c0 (h : MB w c m) : w.cell? ⟨c, 0, none⟩ = some (.int .i64 m.1.1) := by rw [cell_blk h]; rfl
theorem MB.c1 (h : MB w c m) : w.cell? ⟨c, 1, none⟩ = some (.int .i64 m.1.2) := by rw [cell_blk h]; rfl
theorem MB.c2 (h : MB w c m) : w.cell? ⟨c, 2, none⟩ = some (.int .i64 m.2.1) := by rw [cell_blk h]; rfl
theorem MB.c3 (h : MB w c m) : w.cell? ⟨c, 3, none⟩ = some (.int .i64 m.2.2) := by rw [cell_blk h]; rfl
theorem MB.lt (h : MB w c m) : c < w.heap.size := (Array.getElem?_eq_some_iff.1 h).1
theorem MB.ofF (h : MB w c m) (hF : FAt w f F) (k : Frm f w w') : MB w' c m := by
  obtain ⟨C, hC, _⟩ := hF.blk
  exact (k.block c h.lt (blk_ne h hC (by decide))).trans h
theorem MB.below (h : MB w c m) (k : Below w.heap.size w w') : MB w' c m := (k.block c h.lt).trans h
end
set_option maxRecDepth 100000 in
set_option maxHeartbeats 2000000 in
theorem holdMount_any (base b f K : Nat) (T : Tb) (v : Value) (F : Fo) (m : Mt) (w : World) (h : TAt w base b f T v) (hF : FAt w f F) (hb : Tr.Hb F K) (hK : K < 900) :
    Calls Tryz.prog 75 #[.pointer (some ⟨b, 0, none⟩), .agg #[.int .i64 m.1.1, .int .i64 m.1.2, .int .i64 m.2.1, .int .i64 m.2.2]] w fun e w' => e = .returned (.tuple #[]) ∧ FAt w' f (Mo.hoM F m) ∧ Frm f w w' := by
  have HT := Hid.intro (And.intro h hF)
  have HB := Hid.intro hb
  clear h hF hb
  go_enter Tryz.func75, Tryz.ntmps75
  go_upto_region 1 with fail
  refine wp_gen (fun W' => MB W' w.heap.size m ∧ Below w.heap.size w W') ⟨heap_alloc_new w _, (Below.refl _ _).alloc (Nat.le_refl _) _⟩ ?_
  rintro W1 ⟨m1, b1⟩
  have S1 : Hid (MB W1 w.heap.size m ∧ TAt W1 base b f T v ∧ FAt W1 f F ∧ Frm f w W1) := Hid.intro ⟨m1, HT.out.1.below b1, HT.out.2.below b1, Frm.of_below b1⟩
  clear m1 b1 HT
  generalize w.heap.size = mx at *
  have K0 : Hid (W1.cell? ⟨b, 0, none⟩ = some (.pointer (some ⟨f, 0, none⟩)) ∧ W1.cell? ⟨mx, 1, none⟩ = some (.int .i64 m.1.2)) := Hid.intro ⟨S1.out.2.1.c0, S1.out.1.c1⟩
  have KF : Hid (∀ w' : World, Frm f W1 w' → w'.cell? ⟨b, 0, none⟩ = some (.pointer (some ⟨f, 0, none⟩)) ∧ w'.cell? ⟨mx, 1, none⟩ = some (.int .i64 m.1.2)) := Hid.intro (fun w' k => ⟨(S1.out.2.1.ofF S1.out.2.2.1 k).c0, (S1.out.1.ofF S1.out.2.2.1 k).c1⟩)
  go_upto_region 1 with fail
  go_region_held3 (fun w' => w'.cell? ⟨b, 0, none⟩ = some (.pointer (some ⟨f, 0, none⟩)) ∧ w'.cell? ⟨mx, 1, none⟩ = some (.int .i64 m.1.2)) (first | exact K0.out | exact K4.out) ((go_at_call 37; refine (thold_any f m.1.2 F _ S1.out.2.2.1.drew (HB.out.lt (by omega))).mono ?_; rintro e w4 ⟨rfl, t4, f4⟩; have f5 : Frm f W1 w4 := ⟨f4.os, f4.tape, f4.output, f4.size, f4.block⟩; have K4 := Hid.intro (KF.out w4 f5); have P4 : Hid (FAt w4 f (Tr.hol F m.1.2) ∧ Frm f W1 w4) := Hid.intro ⟨t4, f5⟩; clear t4 f4 f5))
  have S2 : Hid (MB w4 mx m ∧ TAt w4 base b f T v ∧ FAt w4 f (Tr.hol F m.1.2) ∧ Frm f w w4) := Hid.intro ⟨S1.out.1.ofF S1.out.2.2.1 P4.out.2, S1.out.2.1.ofF S1.out.2.2.1 P4.out.2, P4.out.1, S1.out.2.2.2.trans P4.out.2⟩
  have HB2 : Hid (Tr.Hb (Tr.hol F m.1.2) (K + 1)) := Hid.intro (HB.out.hol _)
  clear K4 K0 KF P4 S1
  have K0 : Hid (w4.cell? ⟨b, 0, none⟩ = some (.pointer (some ⟨f, 0, none⟩)) ∧ w4.cell? ⟨mx, 3, none⟩ = some (.int .i64 m.2.2)) := Hid.intro ⟨S2.out.2.1.c0, S2.out.1.c3⟩
  have KF : Hid (∀ w' : World, Frm f w4 w' → w'.cell? ⟨b, 0, none⟩ = some (.pointer (some ⟨f, 0, none⟩)) ∧ w'.cell? ⟨mx, 3, none⟩ = some (.int .i64 m.2.2)) := Hid.intro (fun w' k => ⟨(S2.out.2.1.ofF S2.out.2.2.1 k).c0, (S2.out.1.ofF S2.out.2.2.1 k).c3⟩)
  go_upto_region 2 with fail
  go_region_held3 (fun w' => w'.cell? ⟨b, 0, none⟩ = some (.pointer (some ⟨f, 0, none⟩)) ∧ w'.cell? ⟨mx, 3, none⟩ = some (.int .i64 m.2.2)) (first | exact K0.out | exact K5.out) ((go_at_call 37; refine (thold_any f m.2.2 _ _ S2.out.2.2.1.drew (HB2.out.lt (by omega))).mono ?_; rintro e w5 ⟨rfl, t5, f4⟩; have f5 : Frm f w4 w5 := ⟨f4.os, f4.tape, f4.output, f4.size, f4.block⟩; have K5 := Hid.intro (KF.out w5 f5); have P5 : Hid (FAt w5 f (Mo.hoM F m) ∧ Frm f w w5) := Hid.intro ⟨t5, S2.out.2.2.2.trans f5⟩; clear t5 f4 f5))
  go_wp2_with fail
  go_end0
  exact ⟨rfl, P5.out⟩
set_option maxRecDepth 100000 in
set_option maxHeartbeats 2000000 in
theorem hold_any (base b f K : Nat) (T : Tb) (v : Value) (F : Fo) (w : World) (h : TAt w base b f T v) (hF : FAt w f F) (hb : Tr.Hb F K) (hK : K < 800) :
    Calls Tryz.prog 25 #[.pointer (some ⟨b, 0, none⟩)] w fun e w' => e = .returned (.tuple #[]) ∧ FAt w' f (Mo.hoA F T) ∧ Frm f w w' := by
  have S1 : Hid (TAt w base b f T v ∧ FAt w f F) := Hid.intro ⟨h, hF⟩
  have HB := Hid.intro hb
  have h6 := h.six
  obtain ⟨va, vc, hv⟩ := h.row.sl
  have HV := Hid.intro hv
  clear h hF hb hv
  have K0 : Hid (w.cell? ⟨b, 0, none⟩ = some (.pointer (some ⟨f, 0, none⟩)) ∧ w.cell? ⟨b, 2, none⟩ = some (.int .i64 T.rt.2)) := Hid.intro ⟨S1.out.1.c0, S1.out.1.c2⟩
  have KF : Hid (∀ w' : World, Frm f w w' → w'.cell? ⟨b, 0, none⟩ = some (.pointer (some ⟨f, 0, none⟩)) ∧ w'.cell? ⟨b, 2, none⟩ = some (.int .i64 T.rt.2)) := Hid.intro (fun w' k => ⟨(S1.out.1.ofF S1.out.2 k).c0, (S1.out.1.ofF S1.out.2 k).c2⟩)
  go_enter Tryz.func25, Tryz.ntmps25
  go_upto_region 0 with fail
  go_region_held3 (fun w' => w'.cell? ⟨b, 0, none⟩ = some (.pointer (some ⟨f, 0, none⟩)) ∧ w'.cell? ⟨b, 2, none⟩ = some (.int .i64 T.rt.2)) (first | exact K0.out | exact K4.out) ((go_at_call 37; refine (thold_any f T.rt.2 F _ S1.out.2.drew (HB.out.lt (by omega))).mono ?_; rintro e w4 ⟨rfl, t4, f4⟩; have f5 : Frm f w w4 := ⟨f4.os, f4.tape, f4.output, f4.size, f4.block⟩; have K4 := Hid.intro (KF.out w4 f5); have P4 : Hid (FAt w4 f (Tr.hol F T.rt.2) ∧ Frm f w w4) := Hid.intro ⟨t4, f5⟩; clear t4 f4 f5))
  have HB2 : Hid (Tr.Hb (Tr.hol F T.rt.2) (K + 1)) := Hid.intro (HB.out.hol _)
  have T4 := Hid.intro (S1.out.1.ofF S1.out.2 P4.out.2)
  have c3 := T4.out.c3
  rw [HV.out] at c3
  obtain ⟨N, hN⟩ : ∃ N, T.ms.length = N := ⟨_, rfl⟩
  have HN := Hid.intro hN
  rw [hN] at c3 h6
  clear K4 K0 KF hN
  go_wp2_with fail
  clear c3
  go_loopw [3, 19] (fun _ i wr => ∃ (j : Nat), i = .int .i64 j ∧ j ≤ N ∧ Hid (FAt wr f ((T.ms.take j).foldl Mo.hoM (Tr.hol F T.rt.2)) ∧ Frm f w wr)) (fun _ i _ => N - (intOf i).toNat)
  case atStart => exact ⟨0, rfl, by omega, P4⟩
  case round =>
    obtain ⟨j, rfl, hj, R⟩ := hrel
    by_cases hlt : j < N
    · have hltI : (j : Int) < (N : Int) := by omega
      obtain ⟨m, hm⟩ : ∃ m, T.ms[j]? = some m := ⟨T.ms[j]'(by rw [HN.out]; exact hlt), List.getElem?_eq_getElem _⟩
      have TW := Hid.intro (S1.out.1.ofF S1.out.2 R.out.2)
      rcases TW.out.row.form with ⟨_, e⟩ | ⟨g, cap, hv, _, _, _⟩
      · rw [e] at hm; simp at hm
      · have r := TW.out.row
        rw [hv] at r
        have hv2 := HV.out
        rw [hv] at hv2
        rw [HN.out] at hv2
        injection hv2 with e1 e2 e3
        subst e1
        have d0 : wr.cell? ⟨g, j * 4, none⟩ = some (.int .i64 m.1.1) := r.cell j 0 m hm (by omega)
        have d1 : wr.cell? ⟨g, j * 4 + 1, none⟩ = some (.int .i64 m.1.2) := r.cell j 1 m hm (by omega)
        have d2 : wr.cell? ⟨g, j * 4 + 2, none⟩ = some (.int .i64 m.2.1) := r.cell j 2 m hm (by omega)
        have d3 : wr.cell? ⟨g, j * 4 + 3, none⟩ = some (.int .i64 m.2.2) := r.cell j 3 m hm (by omega)
        have NX : Hid ((T.ms.take (j + 1)).foldl Mo.hoM (Tr.hol F T.rt.2) = Mo.hoM ((T.ms.take j).foldl Mo.hoM (Tr.hol F T.rt.2)) m) := Hid.intro (Mo.foldl_snoc _ _ _ _ _ hm)
        have HBJ : Hid (Tr.Hb ((T.ms.take j).foldl Mo.hoM (Tr.hol F T.rt.2)) (K + 1 + 2 * 6)) := Hid.intro ((Mo.hb_hos _ HB2.out).mono (by rw [List.length_take]; omega))
        clear hm r hv e2 e3
        go_upto_region 4 with fail
        refine wp_gen (fun W' => MB W' wr.heap.size m ∧ Below wr.heap.size wr W') ⟨heap_alloc_new wr _, (Below.refl _ _).alloc (Nat.le_refl _) _⟩ ?_
        rintro W5 ⟨m5, b5⟩
        have S5 : Hid (TAt W5 base b f T v ∧ FAt W5 f ((T.ms.take j).foldl Mo.hoM (Tr.hol F T.rt.2)) ∧ Frm f w W5) := Hid.intro ⟨TW.out.below b5, R.out.1.below b5, R.out.2.trans (Frm.of_below b5)⟩
        have n0 := m5.c0
        have n1 := m5.c1
        have n2 := m5.c2
        have n3 := m5.c3
        clear m5 b5 d0 d1 d2 d3
        generalize wr.heap.size = mx at *
        go_wp2_with fail
        refine (holdMount_any base b f _ T v _ m _ S5.out.1 S5.out.2.1 HBJ.out (by omega)).mono ?_
        rintro e W6 ⟨rfl, t6, f6⟩
        have S6 : Hid (FAt W6 f ((T.ms.take (j + 1)).foldl Mo.hoM (Tr.hol F T.rt.2)) ∧ Frm f w W6) := Hid.intro ⟨by rw [NX.out]; exact t6, S5.out.2.2.trans f6⟩
        clear t6 f6
        go_wp2_with fail
        go_roundw
        case rel => exact ⟨j + 1, by go_num, by omega, S6⟩
        case measure => simp [intOf]; omega
    · have hltI : ¬ (j : Int) < (N : Int) := by omega
      have FIN : Hid (FAt wr f (Mo.hoA F T) ∧ Frm f w wr) := Hid.intro ⟨by
        have := R.out.1
        rw [List.take_of_length_le (by rw [HN.out]; omega)] at this
        exact this, R.out.2⟩
      go_wp2_with fail
      go_end0
      exact ⟨rfl, FIN.out⟩
set_option maxRecDepth 100000 in
set_option maxHeartbeats 2000000 in
theorem letMount_any (base b f K : Nat) (T : Tb) (v : Value) (F : Fo) (m : Mt) (w : World) (h : TAt w base b f T v) (hF : FAt w f F) (hb : Tr.Hb F K) (hK : K < 900) :
    Calls Tryz.prog 89 #[.pointer (some ⟨b, 0, none⟩), .agg #[.int .i64 m.1.1, .int .i64 m.1.2, .int .i64 m.2.1, .int .i64 m.2.2]] w fun e w' => e = .returned (.tuple #[]) ∧ FAt w' f (Mo.leM F m) ∧ Frm f w w' := by
  have HT := Hid.intro (And.intro h hF)
  have HB := Hid.intro hb
  clear h hF hb
  go_enter Tryz.func89, Tryz.ntmps89
  go_upto_region 1 with fail
  refine wp_gen (fun W' => MB W' w.heap.size m ∧ Below w.heap.size w W') ⟨heap_alloc_new w _, (Below.refl _ _).alloc (Nat.le_refl _) _⟩ ?_
  rintro W1 ⟨m1, b1⟩
  have S1 : Hid (MB W1 w.heap.size m ∧ TAt W1 base b f T v ∧ FAt W1 f F ∧ Frm f w W1) := Hid.intro ⟨m1, HT.out.1.below b1, HT.out.2.below b1, Frm.of_below b1⟩
  clear m1 b1 HT
  generalize w.heap.size = mx at *
  have K0 : Hid (W1.cell? ⟨b, 0, none⟩ = some (.pointer (some ⟨f, 0, none⟩)) ∧ W1.cell? ⟨mx, 1, none⟩ = some (.int .i64 m.1.2)) := Hid.intro ⟨S1.out.2.1.c0, S1.out.1.c1⟩
  have KF : Hid (∀ w' : World, Frm f W1 w' → w'.cell? ⟨b, 0, none⟩ = some (.pointer (some ⟨f, 0, none⟩)) ∧ w'.cell? ⟨mx, 1, none⟩ = some (.int .i64 m.1.2)) := Hid.intro (fun w' k => ⟨(S1.out.2.1.ofF S1.out.2.2.1 k).c0, (S1.out.1.ofF S1.out.2.2.1 k).c1⟩)
  go_upto_region 1 with fail
  go_region_held3 (fun w' => w'.cell? ⟨b, 0, none⟩ = some (.pointer (some ⟨f, 0, none⟩)) ∧ w'.cell? ⟨mx, 1, none⟩ = some (.int .i64 m.1.2)) (first | exact K0.out | exact K4.out) ((go_at_call 38; refine (tlet_any f m.1.2 F _ S1.out.2.2.1.drew (HB.out.lt (by omega))).mono ?_; rintro e w4 ⟨rfl, t4, f4⟩; have f5 : Frm f W1 w4 := ⟨f4.os, f4.tape, f4.output, f4.size, f4.block⟩; have K4 := Hid.intro (KF.out w4 f5); have P4 : Hid (FAt w4 f (Tr.letT F m.1.2) ∧ Frm f W1 w4) := Hid.intro ⟨t4, f5⟩; clear t4 f4 f5))
  have S2 : Hid (MB w4 mx m ∧ TAt w4 base b f T v ∧ FAt w4 f (Tr.letT F m.1.2) ∧ Frm f w w4) := Hid.intro ⟨S1.out.1.ofF S1.out.2.2.1 P4.out.2, S1.out.2.1.ofF S1.out.2.2.1 P4.out.2, P4.out.1, S1.out.2.2.2.trans P4.out.2⟩
  have HB2 : Hid (Tr.Hb (Tr.letT F m.1.2) (K + 1)) := Hid.intro ((HB.out.letT _).mono (by omega : K ≤ K + 1))
  clear K4 K0 KF P4 S1
  have K0 : Hid (w4.cell? ⟨b, 0, none⟩ = some (.pointer (some ⟨f, 0, none⟩)) ∧ w4.cell? ⟨mx, 3, none⟩ = some (.int .i64 m.2.2)) := Hid.intro ⟨S2.out.2.1.c0, S2.out.1.c3⟩
  have KF : Hid (∀ w' : World, Frm f w4 w' → w'.cell? ⟨b, 0, none⟩ = some (.pointer (some ⟨f, 0, none⟩)) ∧ w'.cell? ⟨mx, 3, none⟩ = some (.int .i64 m.2.2)) := Hid.intro (fun w' k => ⟨(S2.out.2.1.ofF S2.out.2.2.1 k).c0, (S2.out.1.ofF S2.out.2.2.1 k).c3⟩)
  go_upto_region 2 with fail
  go_region_held3 (fun w' => w'.cell? ⟨b, 0, none⟩ = some (.pointer (some ⟨f, 0, none⟩)) ∧ w'.cell? ⟨mx, 3, none⟩ = some (.int .i64 m.2.2)) (first | exact K0.out | exact K5.out) ((go_at_call 38; refine (tlet_any f m.2.2 _ _ S2.out.2.2.1.drew (HB2.out.lt (by omega))).mono ?_; rintro e w5 ⟨rfl, t5, f4⟩; have f5 : Frm f w4 w5 := ⟨f4.os, f4.tape, f4.output, f4.size, f4.block⟩; have K5 := Hid.intro (KF.out w5 f5); have P5 : Hid (FAt w5 f (Mo.leM F m) ∧ Frm f w w5) := Hid.intro ⟨t5, S2.out.2.2.2.trans f5⟩; clear t5 f4 f5))
  go_wp2_with fail
  go_end0
  exact ⟨rfl, P5.out⟩
set_option maxRecDepth 100000 in
set_option maxHeartbeats 2000000 in
theorem let_any (base b f K : Nat) (T : Tb) (v : Value) (F : Fo) (w : World) (h : TAt w base b f T v) (hF : FAt w f F) (hb : Tr.Hb F K) (hK : K < 800) :
    Calls Tryz.prog 48 #[.pointer (some ⟨b, 0, none⟩)] w fun e w' => e = .returned (.tuple #[]) ∧ FAt w' f (Mo.leA F T) ∧ Frm f w w' := by
  have S1 : Hid (TAt w base b f T v ∧ FAt w f F) := Hid.intro ⟨h, hF⟩
  have HB := Hid.intro hb
  have h6 := h.six
  obtain ⟨va, vc, hv⟩ := h.row.sl
  have HV := Hid.intro hv
  clear h hF hb hv
  have K0 : Hid (w.cell? ⟨b, 0, none⟩ = some (.pointer (some ⟨f, 0, none⟩)) ∧ w.cell? ⟨b, 2, none⟩ = some (.int .i64 T.rt.2)) := Hid.intro ⟨S1.out.1.c0, S1.out.1.c2⟩
  have KF : Hid (∀ w' : World, Frm f w w' → w'.cell? ⟨b, 0, none⟩ = some (.pointer (some ⟨f, 0, none⟩)) ∧ w'.cell? ⟨b, 2, none⟩ = some (.int .i64 T.rt.2)) := Hid.intro (fun w' k => ⟨(S1.out.1.ofF S1.out.2 k).c0, (S1.out.1.ofF S1.out.2 k).c2⟩)
  go_enter Tryz.func48, Tryz.ntmps48
  go_upto_region 0 with fail
  go_region_held3 (fun w' => w'.cell? ⟨b, 0, none⟩ = some (.pointer (some ⟨f, 0, none⟩)) ∧ w'.cell? ⟨b, 2, none⟩ = some (.int .i64 T.rt.2)) (first | exact K0.out | exact K4.out) ((go_at_call 38; refine (tlet_any f T.rt.2 F _ S1.out.2.drew (HB.out.lt (by omega))).mono ?_; rintro e w4 ⟨rfl, t4, f4⟩; have f5 : Frm f w w4 := ⟨f4.os, f4.tape, f4.output, f4.size, f4.block⟩; have K4 := Hid.intro (KF.out w4 f5); have P4 : Hid (FAt w4 f (Tr.letT F T.rt.2) ∧ Frm f w w4) := Hid.intro ⟨t4, f5⟩; clear t4 f4 f5))
  have HB2 : Hid (Tr.Hb (Tr.letT F T.rt.2) (K + 1)) := Hid.intro ((HB.out.letT _).mono (by omega : K ≤ K + 1))
  have T4 := Hid.intro (S1.out.1.ofF S1.out.2 P4.out.2)
  have c3 := T4.out.c3
  rw [HV.out] at c3
  obtain ⟨N, hN⟩ : ∃ N, T.ms.length = N := ⟨_, rfl⟩
  have HN := Hid.intro hN
  rw [hN] at c3 h6
  clear K4 K0 KF hN
  go_wp2_with fail
  clear c3
  go_loopw [3, 19] (fun _ i wr => ∃ (j : Nat), i = .int .i64 j ∧ j ≤ N ∧ Hid (FAt wr f ((T.ms.take j).foldl Mo.leM (Tr.letT F T.rt.2)) ∧ Frm f w wr)) (fun _ i _ => N - (intOf i).toNat)
  case atStart => exact ⟨0, rfl, by omega, P4⟩
  case round =>
    obtain ⟨j, rfl, hj, R⟩ := hrel
    by_cases hlt : j < N
    · have hltI : (j : Int) < (N : Int) := by omega
      obtain ⟨m, hm⟩ : ∃ m, T.ms[j]? = some m := ⟨T.ms[j]'(by rw [HN.out]; exact hlt), List.getElem?_eq_getElem _⟩
      have TW := Hid.intro (S1.out.1.ofF S1.out.2 R.out.2)
      rcases TW.out.row.form with ⟨_, e⟩ | ⟨g, cap, hv, _, _, _⟩
      · rw [e] at hm; simp at hm
      · have r := TW.out.row
        rw [hv] at r
        have hv2 := HV.out
        rw [hv] at hv2
        rw [HN.out] at hv2
        injection hv2 with e1 e2 e3
        subst e1
        have d0 : wr.cell? ⟨g, j * 4, none⟩ = some (.int .i64 m.1.1) := r.cell j 0 m hm (by omega)
        have d1 : wr.cell? ⟨g, j * 4 + 1, none⟩ = some (.int .i64 m.1.2) := r.cell j 1 m hm (by omega)
        have d2 : wr.cell? ⟨g, j * 4 + 2, none⟩ = some (.int .i64 m.2.1) := r.cell j 2 m hm (by omega)
        have d3 : wr.cell? ⟨g, j * 4 + 3, none⟩ = some (.int .i64 m.2.2) := r.cell j 3 m hm (by omega)
        have NX : Hid ((T.ms.take (j + 1)).foldl Mo.leM (Tr.letT F T.rt.2) = Mo.leM ((T.ms.take j).foldl Mo.leM (Tr.letT F T.rt.2)) m) := Hid.intro (Mo.foldl_snoc _ _ _ _ _ hm)
        have HBJ : Hid (Tr.Hb ((T.ms.take j).foldl Mo.leM (Tr.letT F T.rt.2)) (K + 1 + 2 * 6)) := Hid.intro ((Mo.hb_les _ HB2.out).mono (by rw [List.length_take]; omega))
        clear hm r hv e2 e3
        go_upto_region 4 with fail
        refine wp_gen (fun W' => MB W' wr.heap.size m ∧ Below wr.heap.size wr W') ⟨heap_alloc_new wr _, (Below.refl _ _).alloc (Nat.le_refl _) _⟩ ?_
        rintro W5 ⟨m5, b5⟩
        have S5 : Hid (TAt W5 base b f T v ∧ FAt W5 f ((T.ms.take j).foldl Mo.leM (Tr.letT F T.rt.2)) ∧ Frm f w W5) := Hid.intro ⟨TW.out.below b5, R.out.1.below b5, R.out.2.trans (Frm.of_below b5)⟩
        have n0 := m5.c0
        have n1 := m5.c1
        have n2 := m5.c2
        have n3 := m5.c3
        clear m5 b5 d0 d1 d2 d3
        generalize wr.heap.size = mx at *
        go_wp2_with fail
        refine (letMount_any base b f _ T v _ m _ S5.out.1 S5.out.2.1 HBJ.out (by omega)).mono ?_
        rintro e W6 ⟨rfl, t6, f6⟩
        have S6 : Hid (FAt W6 f ((T.ms.take (j + 1)).foldl Mo.leM (Tr.letT F T.rt.2)) ∧ Frm f w W6) := Hid.intro ⟨by rw [NX.out]; exact t6, S5.out.2.2.trans f6⟩
        clear t6 f6
        go_wp2_with fail
        go_roundw
        case rel => exact ⟨j + 1, by go_num, by omega, S6⟩
        case measure => simp [intOf]; omega
    · have hltI : ¬ (j : Int) < (N : Int) := by omega
      have FIN : Hid (FAt wr f (Mo.leA F T) ∧ Frm f w wr) := Hid.intro ⟨by
        have := R.out.1
        rw [List.take_of_length_le (by rw [HN.out]; omega)] at this
        exact this, R.out.2⟩
      go_wp2_with fail
      go_end0
      exact ⟨rfl, FIN.out⟩
end Go.Proofs.YthdadmbpnoofoaaGreatDoor

import Derived.Deep.RegionHeld3
import Derived.Deep.RegionLaw
import Derived.Test.YtghogbngmcolmaaGreatSam
import Derived.Test.YtghogbngmcolmaaGreatSaa
import Derived.Test.YtghogbngmcolmaaGreatSaq
namespace Go.Proofs.YtghogbngmcolmaaGreat
open Go.RowKit
theorem SO.cells {u w : World} {L : List ByteArray} {v : Value} (h : SO u L v w) (hl : 0 < L.length) : ∃ gg cap, v = .slice (some ⟨gg, 0, none⟩) L.length cap ∧ gg < w.heap.size ∧ ∀ i, i < L.length → w.cell? ⟨gg, i, none⟩ = some (.string (L.getD i ⟨#[]⟩)) := by
  have ho := h.own
  obtain ⟨gg, cap, hv, _, hg⟩ := ho.form hl
  refine ⟨gg, cap, hv, hg, fun i hi => ?_⟩
  rw [hv] at ho
  rw [ho.cellAt i (by omega)]
  simp [stC, hi]
end Go.Proofs.YtghogbngmcolmaaGreat
namespace Go.Proofs.YtghogbngmcolmaaGreat
open Go.RowKit
open Tr (Fo Nd)
def TM (w W : World) (b : Nat) (F : Fo) : Prop := Below w.heap.size w W ∧ FAt W b F ∧ Tr.Ok F ∧ w.heap.size ≤ b
theorem TM.links {w W : World} {b : Nat} {F : Fo} (h : TM w W b F) : ∀ n, n < 40 → (F.nd n).kind ≠ 0 → (F.nd n).links < 2 ^ 60 := fun n hn k0 => by
  have := h.2.2.1.links_lt n hn k0
  omega
def Tr.g1 : Fo := Tr.plaF Tr.f0 0
theorem Tr.pla_first {T : Nat} {E : Int} {G : Fo} (h : Tr.PlaTo Tr.f0 T E G) : T = 0 ∧ E = 0 ∧ G = Tr.g1 := by
  have f : Tr.FreeTo Tr.f0 0 0 := .inl ⟨rfl, by omega, rfl, fun m hm => by omega⟩
  rcases h with ⟨a, _⟩ | ⟨_, n, e, hf, hm⟩
  · exact absurd a (by decide)
  · obtain ⟨rfl, rfl⟩ := hf.unique f
    rcases hm with ⟨a, _⟩ | ⟨_, b, c, d⟩
    · exact absurd rfl a
    · exact ⟨b, c, d⟩
theorem Tr.ok_g1 : Tr.Ok Tr.g1 := Tr.ok0.pla (T := 0) (E := 0) (.inr ⟨by decide, 0, 0, .inl ⟨rfl, by omega, rfl, fun m hm => by omega⟩, .inr ⟨rfl, rfl, rfl, rfl⟩⟩)
end Go.Proofs.YtghogbngmcolmaaGreat
namespace Go.Proofs.YtghogbngmcolmaaGreat
open Go.RowKit
open Tr (Fo Nd)
def TL (b : Nat) (L : List ByteArray) (v : Value) (W : World) : Prop := ∃ a c, v = .slice a L.length c ∧ (0 < L.length → ∃ g, a = some ⟨g, 0, none⟩ ∧ g ≠ b ∧ g < W.heap.size ∧ ∀ i, i < L.length → W.cell? ⟨g, i, none⟩ = some (.string (L.getD i ⟨#[]⟩)))
end Go.Proofs.YtghogbngmcolmaaGreat
namespace Go.Proofs.YtghogbngmcolmaaGreat
open Go.RowKit
open Tr (Fo Nd)
def Tr.Hb (F : Fo) (k : Nat) : Prop := ∀ n, n < 40 → (F.nd n).held ≤ k
theorem Tr.Hb.mono {F : Fo} {k l : Nat} (h : Tr.Hb F k) (hl : k ≤ l) : Tr.Hb F l := fun n hn => Nat.le_trans (h n hn) hl
theorem Tr.Hb.put {F : Fo} {k n : Nat} {x : Nd} (h : Tr.Hb F k) (hx : x.held ≤ k) : Tr.Hb (F.put n x) k := fun m hm => by
  by_cases c : m = n
  · subst c; rw [Tr.put_same]; exact hx
  · rw [Tr.put_ne _ _ _ _ c]; exact h m hm
theorem Tr.Hb.swe {F : Fo} {k n : Nat} (h : Tr.Hb F k) : Tr.Hb (Tr.swe F n) k := by
  unfold Tr.swe
  split
  · exact h.put (Nat.zero_le _)
  · exact h
end Go.Proofs.YtghogbngmcolmaaGreat
namespace Go.Proofs.YtghogbngmcolmaaGreat
open Go.RowKit
open Tr (Fo Nd)
theorem Tr.Hb.hol {F : Fo} {k : Nat} (h : Tr.Hb F k) (z : Int) : Tr.Hb (Tr.hol F z) (k + 1) := by
  unfold Tr.hol
  split
  · rename_i c
    obtain ⟨n, rfl, n40, _⟩ := Tr.nodeE_ok c
    rw [Int.toNat_natCast]
    refine (h.mono (Nat.le_succ k)).put ?_
    exact Nat.succ_le_succ (h n n40)
  · exact h.mono (Nat.le_succ k)
theorem Tr.Hb.letT {F : Fo} {k : Nat} (h : Tr.Hb F k) (z : Int) : Tr.Hb (Tr.letT F z) k := by
  unfold Tr.letT
  split
  · rename_i c
    have c' : Tr.nodeE F z = 0 := by
      unfold Tr.letE at c
      by_cases d : Tr.nodeE F z = 0
      · exact d
      · rw [if_neg d] at c; exact c
    obtain ⟨n, rfl, n40, _⟩ := Tr.nodeE_ok c'
    rw [Int.toNat_natCast]
    refine Tr.Hb.swe (h.put ?_)
    exact Nat.le_trans (Nat.sub_le _ _) (h n n40)
  · exact h
theorem Tr.Hb.lt {F : Fo} {k : Nat} (h : Tr.Hb F k) (hk : k < 1000) : ∀ n, n < 40 → (F.nd n).held < 2 ^ 60 := fun n hn => by have := h n hn; omega
end Go.Proofs.YtghogbngmcolmaaGreat
namespace Go.Proofs.YtghogbngmcolmaaGreat
open Go.RowKit
open Tr (Fo Nd)
open Mo (Wh Mt Tb)
namespace Mo
def hoM (F : Fo) (m : Mt) : Fo := Tr.hol (Tr.hol F m.1.2) m.2.2
def leM (F : Fo) (m : Mt) : Fo := Tr.letT (Tr.letT F m.1.2) m.2.2
def hoA (F : Fo) (T : Tb) : Fo := T.ms.foldl hoM (Tr.hol F T.rt.2)
def leA (F : Fo) (T : Tb) : Fo := T.ms.foldl leM (Tr.letT F T.rt.2)
theorem hb_ho {F : Fo} {k : Nat} (h : Tr.Hb F k) (m : Mt) : Tr.Hb (hoM F m) (k + 2) := (h.hol _).hol _
theorem hb_le {F : Fo} {k : Nat} (h : Tr.Hb F k) (m : Mt) : Tr.Hb (leM F m) (k + 2) := ((h.letT _).letT _).mono (by omega)
theorem hb_hos : ∀ (L : List Mt) {F : Fo} {k : Nat}, Tr.Hb F k → Tr.Hb (L.foldl hoM F) (k + 2 * L.length)
  | [], _, _, h => h
  | m :: L, _, k, h => by
    have := hb_hos L (hb_ho h m)
    rw [List.foldl_cons, List.length_cons, show k + 2 * (L.length + 1) = k + 2 + 2 * L.length by omega]
    exact this
theorem hb_les : ∀ (L : List Mt) {F : Fo} {k : Nat}, Tr.Hb F k → Tr.Hb (L.foldl leM F) (k + 2 * L.length)
  | [], _, _, h => h
  | m :: L, _, k, h => by
    have := hb_les L (hb_le h m)
    rw [List.foldl_cons, List.length_cons, show k + 2 * (L.length + 1) = k + 2 + 2 * L.length by omega]
    exact this
theorem foldl_snoc {α β : Type} (f : α → β → α) (L : List β) (j : Nat) (m : β) (a : α) (h : L[j]? = some m) : (L.take (j + 1)).foldl f a = f ((L.take j).foldl f a) m := by
  obtain ⟨hl, e⟩ := List.getElem?_eq_some_iff.1 h
  rw [List.take_succ_eq_append_getElem hl, List.foldl_append, e]
  rfl
end Mo
section
variable {w w' : World} {base b f : Nat} {T : Tb} {v : Value} {F : Fo}
theorem TAt.ne (h : TAt w base b f T v) (hF : FAt w f F) : b ≠ f ∧ ∀ g, v.ownBlock = some g → g ≠ f := by
  obtain ⟨C, hC, _⟩ := hF.blk
  exact ⟨blk_ne h.blk hC (by decide), h.row.ne_of hC (by decide)⟩
theorem TAt.ofF (h : TAt w base b f T v) (hF : FAt w f F) (k : Frm f w w') : TAt w' base b f T v :=
  h.same (k.block b h.lt (h.ne hF).1) (fun g e => k.block g (h.row.lt g e).2 ((h.ne hF).2 g e))
end
def MB (w : World) (c : Nat) (m : Mt) : Prop := w.heap[c]? = some (.cells #[.int .i64 m.1.1, .int .i64 m.1.2, .int .i64 m.2.1, .int .i64 m.2.2] 211 (0, 0))
section
variable {w w' : World} {c f : Nat} {m : Mt} {F : Fo}
theorem MB.c0 (h : MB w c m) : w.cell? ⟨c, 0, none⟩ = some (.int .i64 m.1.1) := by rw [cell_blk h]; rfl
theorem MB.c1 (h : MB w c m) : w.cell? ⟨c, 1, none⟩ = some (.int .i64 m.1.2) := by rw [cell_blk h]; rfl
theorem MB.c2 (h : MB w c m) : w.cell? ⟨c, 2, none⟩ = some (.int .i64 m.2.1) := by rw [cell_blk h]; rfl
theorem MB.c3 (h : MB w c m) : w.cell? ⟨c, 3, none⟩ = some (.int .i64 m.2.2) := by rw [cell_blk h]; rfl
theorem MB.lt (h : MB w c m) : c < w.heap.size := (Array.getElem?_eq_some_iff.1 h).1
theorem MB.ofF (h : MB w c m) (hF : FAt w f F) (k : Frm f w w') : MB w' c m := by
  obtain ⟨C, hC, _⟩ := hF.blk
  exact (k.block c h.lt (blk_ne h hC (by decide))).trans h
end
set_option maxRecDepth 100000 in
set_option maxHeartbeats 2000000 in
theorem holdMount_any (base b f K : Nat) (T : Tb) (v : Value) (F : Fo) (m : Mt) (w : World) (h : TAt w base b f T v) (hF : FAt w f F) (hb : Tr.Hb F K) (hK : K < 900) :
    Calls Tryz.prog 136 #[.pointer (some ⟨b, 0, none⟩), .agg #[.int .i64 m.1.1, .int .i64 m.1.2, .int .i64 m.2.1, .int .i64 m.2.2]] w fun e w' => e = .returned (.tuple #[]) ∧ FAt w' f (Mo.hoM F m) ∧ Frm f w w' := by
  have HT := Hid.intro (And.intro h hF)
  have HB := Hid.intro hb
  clear h hF hb
  go_enter Tryz.func136, Tryz.ntmps136
  go_upto_region 1 with fail
  refine wp_gen (fun W' => MB W' w.heap.size m ∧ Below w.heap.size w W') ⟨heap_alloc_new w _, (Below.refl _ _).alloc (Nat.le_refl _) _⟩ ?_
  rintro W1 ⟨m1, b1⟩
  have S1 : Hid (MB W1 w.heap.size m ∧ TAt W1 base b f T v ∧ FAt W1 f F ∧ Frm f w W1) := Hid.intro ⟨m1, HT.out.1.below b1, HT.out.2.below b1, Frm.of_below b1⟩
  clear m1 b1 HT
  generalize w.heap.size = mx at *
  have K0 : Hid (W1.cell? ⟨b, 0, none⟩ = some (.pointer (some ⟨f, 0, none⟩)) ∧ W1.cell? ⟨mx, 1, none⟩ = some (.int .i64 m.1.2)) := Hid.intro ⟨S1.out.2.1.c0, S1.out.1.c1⟩
  have KF : Hid (∀ w' : World, Frm f W1 w' → w'.cell? ⟨b, 0, none⟩ = some (.pointer (some ⟨f, 0, none⟩)) ∧ w'.cell? ⟨mx, 1, none⟩ = some (.int .i64 m.1.2)) := Hid.intro (fun w' k => ⟨(S1.out.2.1.ofF S1.out.2.2.1 k).c0, (S1.out.1.ofF S1.out.2.2.1 k).c1⟩)
  go_upto_region 1 with fail
  go_region_held3 (fun w' => w'.cell? ⟨b, 0, none⟩ = some (.pointer (some ⟨f, 0, none⟩)) ∧ w'.cell? ⟨mx, 1, none⟩ = some (.int .i64 m.1.2)) (first | exact K0.out | exact K4.out) ((go_at_call 135; refine (thold_any f m.1.2 F _ S1.out.2.2.1.drew (HB.out.lt (by omega))).mono ?_; rintro e w4 ⟨rfl, t4, f4⟩; have f5 : Frm f W1 w4 := ⟨f4.os, f4.tape, f4.output, f4.size, f4.block⟩; have K4 := Hid.intro (KF.out w4 f5); have P4 : Hid (FAt w4 f (Tr.hol F m.1.2) ∧ Frm f W1 w4) := Hid.intro ⟨t4, f5⟩; clear t4 f4 f5))
  have S2 : Hid (MB w4 mx m ∧ TAt w4 base b f T v ∧ FAt w4 f (Tr.hol F m.1.2) ∧ Frm f w w4) := Hid.intro ⟨S1.out.1.ofF S1.out.2.2.1 P4.out.2, S1.out.2.1.ofF S1.out.2.2.1 P4.out.2, P4.out.1, S1.out.2.2.2.trans P4.out.2⟩
  have HB2 : Hid (Tr.Hb (Tr.hol F m.1.2) (K + 1)) := Hid.intro (HB.out.hol _)
  clear K4 K0 KF P4 S1
  have K0 : Hid (w4.cell? ⟨b, 0, none⟩ = some (.pointer (some ⟨f, 0, none⟩)) ∧ w4.cell? ⟨mx, 3, none⟩ = some (.int .i64 m.2.2)) := Hid.intro ⟨S2.out.2.1.c0, S2.out.1.c3⟩
  have KF : Hid (∀ w' : World, Frm f w4 w' → w'.cell? ⟨b, 0, none⟩ = some (.pointer (some ⟨f, 0, none⟩)) ∧ w'.cell? ⟨mx, 3, none⟩ = some (.int .i64 m.2.2)) := Hid.intro (fun w' k => ⟨(S2.out.2.1.ofF S2.out.2.2.1 k).c0, (S2.out.1.ofF S2.out.2.2.1 k).c3⟩)
  go_upto_region 2 with fail
  go_region_held3 (fun w' => w'.cell? ⟨b, 0, none⟩ = some (.pointer (some ⟨f, 0, none⟩)) ∧ w'.cell? ⟨mx, 3, none⟩ = some (.int .i64 m.2.2)) (first | exact K0.out | exact K5.out) ((go_at_call 135; refine (thold_any f m.2.2 _ _ S2.out.2.2.1.drew (HB2.out.lt (by omega))).mono ?_; rintro e w5 ⟨rfl, t5, f4⟩; have f5 : Frm f w4 w5 := ⟨f4.os, f4.tape, f4.output, f4.size, f4.block⟩; have K5 := Hid.intro (KF.out w5 f5); have P5 : Hid (FAt w5 f (Mo.hoM F m) ∧ Frm f w w5) := Hid.intro ⟨t5, S2.out.2.2.2.trans f5⟩; clear t5 f4 f5))
  go_wp2_with fail
  go_end0
  exact ⟨rfl, P5.out⟩
set_option maxRecDepth 100000 in
set_option maxHeartbeats 2000000 in
theorem hold_any (base b f K : Nat) (T : Tb) (v : Value) (F : Fo) (w : World) (h : TAt w base b f T v) (hF : FAt w f F) (hb : Tr.Hb F K) (hK : K < 800) :
    Calls Tryz.prog 102 #[.pointer (some ⟨b, 0, none⟩)] w fun e w' => e = .returned (.tuple #[]) ∧ FAt w' f (Mo.hoA F T) ∧ Frm f w w' := by
  have S1 : Hid (TAt w base b f T v ∧ FAt w f F) := Hid.intro ⟨h, hF⟩
  have HB := Hid.intro hb
  have h6 := h.six
  obtain ⟨va, vc, hv⟩ := h.row.sl
  have HV := Hid.intro hv
  clear h hF hb hv
  have K0 : Hid (w.cell? ⟨b, 0, none⟩ = some (.pointer (some ⟨f, 0, none⟩)) ∧ w.cell? ⟨b, 2, none⟩ = some (.int .i64 T.rt.2)) := Hid.intro ⟨S1.out.1.c0, S1.out.1.c2⟩
  have KF : Hid (∀ w' : World, Frm f w w' → w'.cell? ⟨b, 0, none⟩ = some (.pointer (some ⟨f, 0, none⟩)) ∧ w'.cell? ⟨b, 2, none⟩ = some (.int .i64 T.rt.2)) := Hid.intro (fun w' k => ⟨(S1.out.1.ofF S1.out.2 k).c0, (S1.out.1.ofF S1.out.2 k).c2⟩)
  go_enter Tryz.func102, Tryz.ntmps102
  go_upto_region 0 with fail
  go_region_held3 (fun w' => w'.cell? ⟨b, 0, none⟩ = some (.pointer (some ⟨f, 0, none⟩)) ∧ w'.cell? ⟨b, 2, none⟩ = some (.int .i64 T.rt.2)) (first | exact K0.out | exact K4.out) ((go_at_call 135; refine (thold_any f T.rt.2 F _ S1.out.2.drew (HB.out.lt (by omega))).mono ?_; rintro e w4 ⟨rfl, t4, f4⟩; have f5 : Frm f w w4 := ⟨f4.os, f4.tape, f4.output, f4.size, f4.block⟩; have K4 := Hid.intro (KF.out w4 f5); have P4 : Hid (FAt w4 f (Tr.hol F T.rt.2) ∧ Frm f w w4) := Hid.intro ⟨t4, f5⟩; clear t4 f4 f5))
  have HB2 : Hid (Tr.Hb (Tr.hol F T.rt.2) (K + 1)) := Hid.intro (HB.out.hol _)
  have T4 := Hid.intro (S1.out.1.ofF S1.out.2 P4.out.2)
  have c3 := T4.out.c3
  rw [HV.out] at c3
  obtain ⟨N, hN⟩ : ∃ N, T.ms.length = N := ⟨_, rfl⟩
  have HN := Hid.intro hN
  rw [hN] at c3 h6
  clear K4 K0 KF hN
  go_wp2_with fail
  clear c3
  go_loopw [3, 19] (fun _ i wr => ∃ (j : Nat), i = .int .i64 j ∧ j ≤ N ∧ Hid (FAt wr f ((T.ms.take j).foldl Mo.hoM (Tr.hol F T.rt.2)) ∧ Frm f w wr)) (fun _ i _ => N - (intOf i).toNat)
  case atStart => exact ⟨0, rfl, by omega, P4⟩
  case round =>
    obtain ⟨j, rfl, hj, R⟩ := hrel
    by_cases hlt : j < N
    · have hltI : (j : Int) < (N : Int) := by omega
      obtain ⟨m, hm⟩ : ∃ m, T.ms[j]? = some m := ⟨T.ms[j]'(by rw [HN.out]; exact hlt), List.getElem?_eq_getElem _⟩
      have TW := Hid.intro (S1.out.1.ofF S1.out.2 R.out.2)
      rcases TW.out.row.form with ⟨_, e⟩ | ⟨g, cap, hv, _, _, _⟩
      · rw [e] at hm; simp at hm
      · have r := TW.out.row
        rw [hv] at r
        have hv2 := HV.out
        rw [hv] at hv2
        rw [HN.out] at hv2
        injection hv2 with e1 e2 e3
        subst e1
        have d0 : wr.cell? ⟨g, j * 4, none⟩ = some (.int .i64 m.1.1) := r.cell j 0 m hm (by omega)
        have d1 : wr.cell? ⟨g, j * 4 + 1, none⟩ = some (.int .i64 m.1.2) := r.cell j 1 m hm (by omega)
        have d2 : wr.cell? ⟨g, j * 4 + 2, none⟩ = some (.int .i64 m.2.1) := r.cell j 2 m hm (by omega)
        have d3 : wr.cell? ⟨g, j * 4 + 3, none⟩ = some (.int .i64 m.2.2) := r.cell j 3 m hm (by omega)
        have NX : Hid ((T.ms.take (j + 1)).foldl Mo.hoM (Tr.hol F T.rt.2) = Mo.hoM ((T.ms.take j).foldl Mo.hoM (Tr.hol F T.rt.2)) m) := Hid.intro (Mo.foldl_snoc _ _ _ _ _ hm)
        have HBJ : Hid (Tr.Hb ((T.ms.take j).foldl Mo.hoM (Tr.hol F T.rt.2)) (K + 1 + 2 * 6)) := Hid.intro ((Mo.hb_hos _ HB2.out).mono (by rw [List.length_take]; omega))
        clear hm r hv e2 e3
        go_upto_region 4 with fail
        refine wp_gen (fun W' => MB W' wr.heap.size m ∧ Below wr.heap.size wr W') ⟨heap_alloc_new wr _, (Below.refl _ _).alloc (Nat.le_refl _) _⟩ ?_
        rintro W5 ⟨m5, b5⟩
        have S5 : Hid (TAt W5 base b f T v ∧ FAt W5 f ((T.ms.take j).foldl Mo.hoM (Tr.hol F T.rt.2)) ∧ Frm f w W5) := Hid.intro ⟨TW.out.below b5, R.out.1.below b5, R.out.2.trans (Frm.of_below b5)⟩
        have n0 := m5.c0
        have n1 := m5.c1
        have n2 := m5.c2
        have n3 := m5.c3
        clear m5 b5 d0 d1 d2 d3
        generalize wr.heap.size = mx at *
        go_wp2_with fail
        refine (holdMount_any base b f _ T v _ m _ S5.out.1 S5.out.2.1 HBJ.out (by omega)).mono ?_
        rintro e W6 ⟨rfl, t6, f6⟩
        have S6 : Hid (FAt W6 f ((T.ms.take (j + 1)).foldl Mo.hoM (Tr.hol F T.rt.2)) ∧ Frm f w W6) := Hid.intro ⟨by rw [NX.out]; exact t6, S5.out.2.2.trans f6⟩
        clear t6 f6
        go_wp2_with fail
        go_roundw
        case rel => exact ⟨j + 1, by go_num, by omega, S6⟩
        case measure => simp [intOf]; omega
    · have hltI : ¬ (j : Int) < (N : Int) := by omega
      have FIN : Hid (FAt wr f (Mo.hoA F T) ∧ Frm f w wr) := Hid.intro ⟨by
        have := R.out.1
        rw [List.take_of_length_le (by rw [HN.out]; omega)] at this
        exact this, R.out.2⟩
      go_wp2_with fail
      go_end0
      exact ⟨rfl, FIN.out⟩
set_option maxRecDepth 100000 in
set_option maxHeartbeats 2000000 in
theorem letMount_any (base b f K : Nat) (T : Tb) (v : Value) (F : Fo) (m : Mt) (w : World) (h : TAt w base b f T v) (hF : FAt w f F) (hb : Tr.Hb F K) (hK : K < 900) :
    Calls Tryz.prog 146 #[.pointer (some ⟨b, 0, none⟩), .agg #[.int .i64 m.1.1, .int .i64 m.1.2, .int .i64 m.2.1, .int .i64 m.2.2]] w fun e w' => e = .returned (.tuple #[]) ∧ FAt w' f (Mo.leM F m) ∧ Frm f w w' := by
  have HT := Hid.intro (And.intro h hF)
  have HB := Hid.intro hb
  clear h hF hb
  go_enter Tryz.func146, Tryz.ntmps146
  go_upto_region 1 with fail
  refine wp_gen (fun W' => MB W' w.heap.size m ∧ Below w.heap.size w W') ⟨heap_alloc_new w _, (Below.refl _ _).alloc (Nat.le_refl _) _⟩ ?_
  rintro W1 ⟨m1, b1⟩
  have S1 : Hid (MB W1 w.heap.size m ∧ TAt W1 base b f T v ∧ FAt W1 f F ∧ Frm f w W1) := Hid.intro ⟨m1, HT.out.1.below b1, HT.out.2.below b1, Frm.of_below b1⟩
  clear m1 b1 HT
  generalize w.heap.size = mx at *
  have K0 : Hid (W1.cell? ⟨b, 0, none⟩ = some (.pointer (some ⟨f, 0, none⟩)) ∧ W1.cell? ⟨mx, 1, none⟩ = some (.int .i64 m.1.2)) := Hid.intro ⟨S1.out.2.1.c0, S1.out.1.c1⟩
  have KF : Hid (∀ w' : World, Frm f W1 w' → w'.cell? ⟨b, 0, none⟩ = some (.pointer (some ⟨f, 0, none⟩)) ∧ w'.cell? ⟨mx, 1, none⟩ = some (.int .i64 m.1.2)) := Hid.intro (fun w' k => ⟨(S1.out.2.1.ofF S1.out.2.2.1 k).c0, (S1.out.1.ofF S1.out.2.2.1 k).c1⟩)
  go_upto_region 1 with fail
  go_region_held3 (fun w' => w'.cell? ⟨b, 0, none⟩ = some (.pointer (some ⟨f, 0, none⟩)) ∧ w'.cell? ⟨mx, 1, none⟩ = some (.int .i64 m.1.2)) (first | exact K0.out | exact K4.out) ((go_at_call 132; refine (tlet_any f m.1.2 F _ S1.out.2.2.1.drew (HB.out.lt (by omega))).mono ?_; rintro e w4 ⟨rfl, t4, f4⟩; have f5 : Frm f W1 w4 := ⟨f4.os, f4.tape, f4.output, f4.size, f4.block⟩; have K4 := Hid.intro (KF.out w4 f5); have P4 : Hid (FAt w4 f (Tr.letT F m.1.2) ∧ Frm f W1 w4) := Hid.intro ⟨t4, f5⟩; clear t4 f4 f5))
  have S2 : Hid (MB w4 mx m ∧ TAt w4 base b f T v ∧ FAt w4 f (Tr.letT F m.1.2) ∧ Frm f w w4) := Hid.intro ⟨S1.out.1.ofF S1.out.2.2.1 P4.out.2, S1.out.2.1.ofF S1.out.2.2.1 P4.out.2, P4.out.1, S1.out.2.2.2.trans P4.out.2⟩
  have HB2 : Hid (Tr.Hb (Tr.letT F m.1.2) (K + 1)) := Hid.intro ((HB.out.letT _).mono (by omega : K ≤ K + 1))
  clear K4 K0 KF P4 S1
  have K0 : Hid (w4.cell? ⟨b, 0, none⟩ = some (.pointer (some ⟨f, 0, none⟩)) ∧ w4.cell? ⟨mx, 3, none⟩ = some (.int .i64 m.2.2)) := Hid.intro ⟨S2.out.2.1.c0, S2.out.1.c3⟩
  have KF : Hid (∀ w' : World, Frm f w4 w' → w'.cell? ⟨b, 0, none⟩ = some (.pointer (some ⟨f, 0, none⟩)) ∧ w'.cell? ⟨mx, 3, none⟩ = some (.int .i64 m.2.2)) := Hid.intro (fun w' k => ⟨(S2.out.2.1.ofF S2.out.2.2.1 k).c0, (S2.out.1.ofF S2.out.2.2.1 k).c3⟩)
  go_upto_region 2 with fail
  go_region_held3 (fun w' => w'.cell? ⟨b, 0, none⟩ = some (.pointer (some ⟨f, 0, none⟩)) ∧ w'.cell? ⟨mx, 3, none⟩ = some (.int .i64 m.2.2)) (first | exact K0.out | exact K5.out) ((go_at_call 132; refine (tlet_any f m.2.2 _ _ S2.out.2.2.1.drew (HB2.out.lt (by omega))).mono ?_; rintro e w5 ⟨rfl, t5, f4⟩; have f5 : Frm f w4 w5 := ⟨f4.os, f4.tape, f4.output, f4.size, f4.block⟩; have K5 := Hid.intro (KF.out w5 f5); have P5 : Hid (FAt w5 f (Mo.leM F m) ∧ Frm f w w5) := Hid.intro ⟨t5, S2.out.2.2.2.trans f5⟩; clear t5 f4 f5))
  go_wp2_with fail
  go_end0
  exact ⟨rfl, P5.out⟩
set_option maxRecDepth 100000 in
set_option maxHeartbeats 2000000 in
theorem let_any (base b f K : Nat) (T : Tb) (v : Value) (F : Fo) (w : World) (h : TAt w base b f T v) (hF : FAt w f F) (hb : Tr.Hb F K) (hK : K < 800) :
    Calls Tryz.prog 128 #[.pointer (some ⟨b, 0, none⟩)] w fun e w' => e = .returned (.tuple #[]) ∧ FAt w' f (Mo.leA F T) ∧ Frm f w w' := by
  have S1 : Hid (TAt w base b f T v ∧ FAt w f F) := Hid.intro ⟨h, hF⟩
  have HB := Hid.intro hb
  have h6 := h.six
  obtain ⟨va, vc, hv⟩ := h.row.sl
  have HV := Hid.intro hv
  clear h hF hb hv
  have K0 : Hid (w.cell? ⟨b, 0, none⟩ = some (.pointer (some ⟨f, 0, none⟩)) ∧ w.cell? ⟨b, 2, none⟩ = some (.int .i64 T.rt.2)) := Hid.intro ⟨S1.out.1.c0, S1.out.1.c2⟩
  have KF : Hid (∀ w' : World, Frm f w w' → w'.cell? ⟨b, 0, none⟩ = some (.pointer (some ⟨f, 0, none⟩)) ∧ w'.cell? ⟨b, 2, none⟩ = some (.int .i64 T.rt.2)) := Hid.intro (fun w' k => ⟨(S1.out.1.ofF S1.out.2 k).c0, (S1.out.1.ofF S1.out.2 k).c2⟩)
  go_enter Tryz.func128, Tryz.ntmps128
  go_upto_region 0 with fail
  go_region_held3 (fun w' => w'.cell? ⟨b, 0, none⟩ = some (.pointer (some ⟨f, 0, none⟩)) ∧ w'.cell? ⟨b, 2, none⟩ = some (.int .i64 T.rt.2)) (first | exact K0.out | exact K4.out) ((go_at_call 132; refine (tlet_any f T.rt.2 F _ S1.out.2.drew (HB.out.lt (by omega))).mono ?_; rintro e w4 ⟨rfl, t4, f4⟩; have f5 : Frm f w w4 := ⟨f4.os, f4.tape, f4.output, f4.size, f4.block⟩; have K4 := Hid.intro (KF.out w4 f5); have P4 : Hid (FAt w4 f (Tr.letT F T.rt.2) ∧ Frm f w w4) := Hid.intro ⟨t4, f5⟩; clear t4 f4 f5))
  have HB2 : Hid (Tr.Hb (Tr.letT F T.rt.2) (K + 1)) := Hid.intro ((HB.out.letT _).mono (by omega : K ≤ K + 1))
  have T4 := Hid.intro (S1.out.1.ofF S1.out.2 P4.out.2)
  have c3 := T4.out.c3
  rw [HV.out] at c3
  obtain ⟨N, hN⟩ : ∃ N, T.ms.length = N := ⟨_, rfl⟩
  have HN := Hid.intro hN
  rw [hN] at c3 h6
  clear K4 K0 KF hN
  go_wp2_with fail
  clear c3
  go_loopw [3, 19] (fun _ i wr => ∃ (j : Nat), i = .int .i64 j ∧ j ≤ N ∧ Hid (FAt wr f ((T.ms.take j).foldl Mo.leM (Tr.letT F T.rt.2)) ∧ Frm f w wr)) (fun _ i _ => N - (intOf i).toNat)
  case atStart => exact ⟨0, rfl, by omega, P4⟩
  case round =>
    obtain ⟨j, rfl, hj, R⟩ := hrel
    by_cases hlt : j < N
    · have hltI : (j : Int) < (N : Int) := by omega
      obtain ⟨m, hm⟩ : ∃ m, T.ms[j]? = some m := ⟨T.ms[j]'(by rw [HN.out]; exact hlt), List.getElem?_eq_getElem _⟩
      have TW := Hid.intro (S1.out.1.ofF S1.out.2 R.out.2)
      rcases TW.out.row.form with ⟨_, e⟩ | ⟨g, cap, hv, _, _, _⟩
      · rw [e] at hm; simp at hm
      · have r := TW.out.row
        rw [hv] at r
        have hv2 := HV.out
        rw [hv] at hv2
        rw [HN.out] at hv2
        injection hv2 with e1 e2 e3
        subst e1
        have d0 : wr.cell? ⟨g, j * 4, none⟩ = some (.int .i64 m.1.1) := r.cell j 0 m hm (by omega)
        have d1 : wr.cell? ⟨g, j * 4 + 1, none⟩ = some (.int .i64 m.1.2) := r.cell j 1 m hm (by omega)
        have d2 : wr.cell? ⟨g, j * 4 + 2, none⟩ = some (.int .i64 m.2.1) := r.cell j 2 m hm (by omega)
        have d3 : wr.cell? ⟨g, j * 4 + 3, none⟩ = some (.int .i64 m.2.2) := r.cell j 3 m hm (by omega)
        have NX : Hid ((T.ms.take (j + 1)).foldl Mo.leM (Tr.letT F T.rt.2) = Mo.leM ((T.ms.take j).foldl Mo.leM (Tr.letT F T.rt.2)) m) := Hid.intro (Mo.foldl_snoc _ _ _ _ _ hm)
        have HBJ : Hid (Tr.Hb ((T.ms.take j).foldl Mo.leM (Tr.letT F T.rt.2)) (K + 1 + 2 * 6)) := Hid.intro ((Mo.hb_les _ HB2.out).mono (by rw [List.length_take]; omega))
        clear hm r hv e2 e3
        go_upto_region 4 with fail
        refine wp_gen (fun W' => MB W' wr.heap.size m ∧ Below wr.heap.size wr W') ⟨heap_alloc_new wr _, (Below.refl _ _).alloc (Nat.le_refl _) _⟩ ?_
        rintro W5 ⟨m5, b5⟩
        have S5 : Hid (TAt W5 base b f T v ∧ FAt W5 f ((T.ms.take j).foldl Mo.leM (Tr.letT F T.rt.2)) ∧ Frm f w W5) := Hid.intro ⟨TW.out.below b5, R.out.1.below b5, R.out.2.trans (Frm.of_below b5)⟩
        have n0 := m5.c0
        have n1 := m5.c1
        have n2 := m5.c2
        have n3 := m5.c3
        clear m5 b5 d0 d1 d2 d3
        generalize wr.heap.size = mx at *
        go_wp2_with fail
        refine (letMount_any base b f _ T v _ m _ S5.out.1 S5.out.2.1 HBJ.out (by omega)).mono ?_
        rintro e W6 ⟨rfl, t6, f6⟩
        have S6 : Hid (FAt W6 f ((T.ms.take (j + 1)).foldl Mo.leM (Tr.letT F T.rt.2)) ∧ Frm f w W6) := Hid.intro ⟨by rw [NX.out]; exact t6, S5.out.2.2.trans f6⟩
        clear t6 f6
        go_wp2_with fail
        go_roundw
        case rel => exact ⟨j + 1, by go_num, by omega, S6⟩
        case measure => simp [intOf]; omega
    · have hltI : ¬ (j : Int) < (N : Int) := by omega
      have FIN : Hid (FAt wr f (Mo.leA F T) ∧ Frm f w wr) := Hid.intro ⟨by
        have := R.out.1
        rw [List.take_of_length_le (by rw [HN.out]; omega)] at this
        exact this, R.out.2⟩
      go_wp2_with fail
      go_end0
      exact ⟨rfl, FIN.out⟩
end Go.Proofs.YtghogbngmcolmaaGreat
namespace Go.Proofs.YtghogbngmcolmaaGreat
open Go.RowKit
open Tr (Fo Nd)
open Mo (Wh Mt Tb)
def Mo.rtP (F : Fo) (t : Int) : Wh := if Tr.rootE F t = 0 then (t, (Tr.rootN F t : Int)) else (0, 0)
set_option maxRecDepth 100000 in
set_option maxHeartbeats 1000000 in
theorem rootOf_any (f : Nat) (F : Fo) (t : Int) (w : World) (hF : FAt w f F) :
    Calls Tryz.prog 101 #[.pointer (some ⟨f, 0, none⟩), .int .i64 t] w fun e w' => e = .returned (.tuple #[.agg #[.int .i64 (Mo.rtP F t).1, .int .i64 (Mo.rtP F t).2], errV (Tr.rootE F t)]) ∧ Below w.heap.size w w' := by
  have HF := Hid.intro hF
  clear hF
  go_enter Tryz.func101, Tryz.ntmps101
  go_upto_region 1 with fail
  refine wp_gen (fun W' => WB W' w.heap.size (0, 0) ∧ Below w.heap.size w W') (box1 w) ?_
  rintro W1 h1
  have S1 := Hid.intro h1
  clear h1
  go_wp2_with fail
  refine (troot_any f t F _ (HF.out.below S1.out.2)).mono ?_
  rintro e W2 ⟨rfl, hW⟩
  subst W2
  obtain ⟨rx, hrx⟩ : ∃ rx, w.heap.size = rx := ⟨_, rfl⟩
  have HRX := Hid.intro hrx
  rw [hrx] at S1 ⊢
  clear hrx
  have y0 := S1.out.1.c0
  have y1 := S1.out.1.c1
  have yf := S1.out.1.fz
  by_cases e0 : Tr.rootE F t = 0
  · have P : Hid (Mo.rtP F t = (t, (Tr.rootN F t : Int))) := Hid.intro (if_pos e0)
    have E0 := Hid.intro e0
    rw [e0, errV_zero]
    obtain ⟨rn, hrn⟩ : ∃ rn : Int, (Tr.rootN F t : Int) = rn := ⟨_, rfl⟩
    rw [hrn] at P ⊢
    have R := Hid.intro (S1.out.1.fin S1.out.2 HRX.out (t, rn))
    clear e0 hrn
    go_wp2_with fail
    generalize hWF : (W1.setCell ⟨rx, 0, none⟩ (.int .i64 t)).setCell ⟨rx, 1, none⟩ (.int .i64 rn) = WF at R ⊢
    have z0 := R.out.1.c0
    have z1 := R.out.1.c1
    refine bodyPost_ret (v := .tuple #[.agg #[.int .i64 t, .int .i64 rn], .nilIface]) (by simp [results, Tryz.f101, go_sem, z0, z1]) rfl ?_
    rw [P.out, E0.out]
    refine ⟨rfl, by rw [HRX.out]; exact R.out.2⟩
  · have P : Hid (Mo.rtP F t = (0, 0)) := Hid.intro (if_neg e0)
    have E0 := Hid.intro (errV_ne e0)
    rw [E0.out]
    have R := Hid.intro (S1.out.1.fin S1.out.2 HRX.out (0, 0))
    clear e0
    go_wp2_with fail
    generalize hWF : (W1.setCell ⟨rx, 0, none⟩ (.int .i64 0)).setCell ⟨rx, 1, none⟩ (.int .i64 0) = WF at R ⊢
    have z0 := R.out.1.c0
    have z1 := R.out.1.c1
    refine bodyPost_ret (v := .tuple #[.agg #[.int .i64 0, .int .i64 0], .iface 60 (.int .i64 (Tr.rootE F t))]) (by simp [results, Tryz.f101, go_sem, z0, z1]) rfl ?_
    rw [P.out, E0.out]
    refine ⟨rfl, by rw [HRX.out]; exact R.out.2⟩
set_option maxRecDepth 100000 in
set_option maxHeartbeats 1000000 in
theorem new_yes (f K : Nat) (F : Fo) (t : Int) (w : World) (hF : FAt w f F) (e0 : Tr.rootE F t = 0) (hb : Tr.Hb F K) (hK : K < 800) :
    Calls Tryz.prog 59 #[.pointer (some ⟨f, 0, none⟩), .int .i64 t] w fun e w' => ∃ b, e = .returned (.tuple #[.pointer (some ⟨b, 0, none⟩), .nilIface]) ∧ w.heap.size ≤ b ∧ (∀ base, TAt w' base b f ⟨(t, (Tr.rootN F t : Int)), []⟩ (.slice none 0 0)) ∧ FAt w' f (Tr.hol F (Tr.rootN F t)) ∧ Frm f w w' := by
  have HF := Hid.intro hF
  have HB := Hid.intro hb
  have P : Hid (Mo.rtP F t = (t, (Tr.rootN F t : Int))) := Hid.intro (if_pos e0)
  have E0 := Hid.intro e0
  clear hF hb e0
  go_enter Tryz.func59, Tryz.ntmps59
  go_wp2_with fail
  refine (rootOf_any f F t _ HF.out).mono ?_
  rintro e W1 ⟨rfl, b1⟩
  rw [P.out, E0.out, errV_zero]
  obtain ⟨rn, hrn⟩ : ∃ rn : Int, (Tr.rootN F t : Int) = rn := ⟨_, rfl⟩
  rw [hrn]
  have S1 : Hid (∀ o o', FAt ((W1.alloc o).alloc o') f F ∧ Below w.heap.size w ((W1.alloc o).alloc o')) := Hid.intro (fun o o' => by
    have a : Below w.heap.size w ((W1.alloc o).alloc o') := (b1.alloc b1.size o).alloc (by have := b1.size; simp; omega) o'
    exact ⟨HF.out.below a, a⟩)
  have BZ := Hid.intro b1.size
  clear b1 E0 P
  go_upto_region 5 with fail
  refine wp_gen (fun W' => (∀ base, TAt W' base (W1.heap.size + 1) f ⟨(t, rn), []⟩ (.slice none 0 0)) ∧ FAt W' f F ∧ Below w.heap.size w W') ⟨fun base => ⟨by
    show ((W1.heap.push _).push _)[W1.heap.size + 1]? = _
    simp only [Array.getElem?_push, Array.size_push]
    rw [if_pos trivial], World.ownsRow_nil _ _ _ _, by simp⟩, S1.out _ _⟩ ?_
  rintro W2 ⟨t2, f2, b2⟩
  have S2 := Hid.intro (And.intro t2 (And.intro f2 b2))
  have LB : Hid (w.heap.size ≤ W1.heap.size + 1) := Hid.intro (by have := BZ.out; omega)
  clear t2 f2 b2 S1 BZ
  generalize W1.heap.size + 1 = b at *
  generalize W1.heap.size = b' at *
  go_wp2_with fail
  refine (hold_any 0 b f K ⟨(t, rn), []⟩ _ F _ (S2.out.1 0) S2.out.2.1 HB.out hK).mono ?_
  rintro e W3 ⟨rfl, f3, k3⟩
  have FIN : Hid ((∀ base, TAt W3 base b f ⟨(t, rn), []⟩ (.slice none 0 0)) ∧ FAt W3 f (Tr.hol F rn) ∧ Frm f w W3) := Hid.intro ⟨fun base => (S2.out.1 base).ofF S2.out.2.1 k3, f3, (Frm.of_below S2.out.2.2).trans k3⟩
  clear f3 k3
  go_wp2_with fail
  go_ret2
  subst hrn
  exact ⟨b, rfl, LB.out, FIN.out⟩
section
variable {ops : Array Oper} {rest : List Oper} {o : Oper} {a : Act} {w : World} {Q : Exit → Act → World → Prop}
theorem run_append_zero {P : Program} (t ty e : TypeId) (i : TypeInfo) (ht : P.underlying t = some (.slice e)) (hi : P.info? e = some i) (g : Nat) (ad : Addr) (n cap c : Nat) (hn : n ≤ cap) :
    (Builtin.append_ #[t, t] ty #[.slice (some ⟨g, 0, none⟩) n cap, .slice (some ad) 0 c]).run P w = .ok (.slice (some ⟨g, 0, none⟩) n cap) w := by
  simp [Builtin.append_, run_underlying ht, sizeOf, typeInfo, hi, Builtin.lenOf, Builtin.firstCells, hn, storeCells, loadCells, loadCellsFrom]
theorem wpList_append_zero (hgd : o.guard = none) (s x : Operand) (t : TypeId) (ho : o.op = .call { callee := .builtin .append, args := #[s, x], argTypes := #[t, t] }) (e : TypeId) (i : TypeInfo) (ht : Tryz.prog.underlying t = some (.slice e)) (hi : Tryz.prog.info? e = some i)
    (g : Nat) (ad : Addr) (n cap c : Nat) (hn : n ≤ cap) (hs : a.eval s = .slice (some ⟨g, 0, none⟩) n cap) (hx : a.eval x = .slice (some ad) 0 c) (h : wpList Tryz.prog ops Q rest (a.put o.dst (.slice (some ⟨g, 0, none⟩) n cap)) w) : wpList Tryz.prog ops Q (o :: rest) a w :=
  wpList_plain hgd fun _ hK => by
    unfold Oper.wp execOp
    simp only [ho, resolve, invoke, builtin, Sem.run_bind, Sem.run_pure, Result.andThen_ok, List.map_toArray, List.map_cons, List.map_nil, hs, hx, run_append_zero (P := Tryz.prog) (w := w) t o.type e i ht hi g ad n cap c hn]
    exact hK _ _ h
end
theorem Mo.mcs_one_cell : ∀ (L : List Mt), ∀ u ∈ Mo.mcs L, u.oneCell' = true := fun L u hu => by
  unfold Mo.mcs at hu
  obtain ⟨m, _, hm⟩ := List.mem_flatMap.1 hu
  simp only [Mo.mtC, List.mem_cons, List.not_mem_nil, or_false] at hm
  rcases hm with rfl | rfl | rfl | rfl <;> rfl
theorem MRow.news {w : World} {base g n cap : Nat} {L : List Mt} (h : MRow w base L (.slice (some ⟨g, 0, none⟩) n cap)) : ∀ j u, (Mo.mcs L)[j]? = some u → w.cell? ((⟨g, 0, none⟩ : Addr).add j) = some u := World.ownsRow.cells h rfl
theorem nil_nil (w : World) : Sem.run Tryz.prog (binOp BinOp.eql 199 (.slice none 0 0) (.slice none 0 0)) w = .ok (.bool true) w := by kernel_rfl
theorem nil_not (ad : Addr) (n c : Nat) (w : World) : Sem.run Tryz.prog (binOp BinOp.eql 199 (.slice (some ad) n c) (.slice none 0 0)) w = .ok (.bool false) w := by kernel_rfl
set_option maxRecDepth 100000 in
set_option maxHeartbeats 1000000 in
theorem mclone_any (base : Nat) (L : List Mt) (v : Value) (w : World) (h : MRow w base L v) (h6 : L.length ≤ 6) :
    Calls Tryz.prog 115 #[v] w fun e w' => ∃ v', e = .returned v' ∧ MRow w' w.heap.size L v' ∧ Below w.heap.size w w' := by
  obtain ⟨i0, z0, hi0, hz0, hz1, hz2, hz3⟩ := infoMt
  rcases h.form with ⟨rfl, rfl⟩ | ⟨g, cap, rfl, hb, hg, hc⟩
  · clear h
    have cm := nil_nil w
    go_enter Tryz.func115, Tryz.ntmps115
    go_wp2_with fail
    go_ret
    exact ⟨_, rfl, World.ownsRow_nil _ _ _ _, Below.refl _ _⟩
  · have HR := Hid.intro h
    obtain ⟨N, hN⟩ : ∃ N, L.length = N := ⟨_, rfl⟩
    have HN := Hid.intro hN
    rw [hN] at h6 HR hc ⊢
    have A1 : Hid ((w.alloc (.cells #[] 211)).ownsRow w.heap.size 211 4 (.slice (some ⟨w.heap.size, 0, none⟩) 0 0) 0 [] ∧ Below w.heap.size w (w.alloc (.cells #[] 211))) := Hid.intro ⟨⟨rfl, .inr ⟨w.heap.size, 0, #[], rfl, Nat.le_refl _, heap_alloc_new w _, Nat.le_refl _, by decide, rfl, rfl⟩⟩, (Below.refl _ _).alloc (Nat.le_refl _) _⟩
    by_cases n0 : N = 0
    · subst n0
      have L0 : Hid (L = []) := Hid.intro (List.eq_nil_of_length_eq_zero hN)
      clear h hN hb hg
      have cm := nil_not ⟨g, 0, none⟩ 0 cap w
      go_enter Tryz.func115, Tryz.ntmps115
      go_wp2_with (at_builtin; refine wpList_append_zero rfl _ _ 199 rfl 211 i0 Tryz.underlying199 hi0 w.heap.size ⟨g, 0, none⟩ 0 0 cap (Nat.le_refl _) (by rfl) (by rfl) ?_)
      go_ret
      refine ⟨_, rfl, ?_, A1.out.2⟩
      rw [L0.out]
      exact A1.out.1
    · have HG := Hid.intro hg
      clear h hN hb hg
      have MORE : Hid (∀ g2 cap2 W7, W7.ownsRow w.heap.size 211 4 (.slice (some ⟨g2, 0, none⟩) (0 + N) cap2) (0 + N) ([] ++ Mo.mcs L) → (w.alloc (.cells #[] 211)).grownBy W7 (some w.heap.size) → MRow W7 w.heap.size L (.slice (some ⟨g2, 0, none⟩) (0 + N) cap2) ∧ Below w.heap.size w W7) := Hid.intro (fun g2 cap2 W7 ho hgr => by
        refine ⟨?_, A1.out.2.trans ⟨hgr.os, hgr.tape, hgr.output, hgr.size, fun n hn => hgr.block n (by simp; omega) (fun e => by cases e; omega)⟩⟩
        unfold MRow
        rw [HN.out]
        rw [Nat.zero_add, List.nil_append] at ho
        rw [Nat.zero_add]
        exact ho)
      have cm := nil_not ⟨g, 0, none⟩ N cap w
      go_enter Tryz.func115, Tryz.ntmps115
      go_wp2_with (at_builtin; refine wpList_append_lies _ rfl _ _ 199 (by rfl) w.heap.size 211 i0 z0 4 32 Tryz.underlying199 hi0 hz0 hz1 hz2 hz3 (by decide) (.slice (some ⟨w.heap.size, 0, none⟩) 0 0) 0 [] (by rfl) A1.out.1 ⟨g, 0, none⟩ N cap (Mo.mcs L) (by rfl) (by rw [Mo.mcs_len, HN.out]) (HR.out.below A1.out.2).news (Mo.mcs_one_cell L) (by omega) (by unfold maxLen; omega) (by omega) (by simp) (w.heap.size + 1) (by simp) ?_; intro gg cap2 W7 hown hgrow hat hlt2; have Q1 := Hid.intro (MORE.out gg cap2 W7 hown hgrow); clear hown hgrow hat hlt2)
      go_ret
      have Q2 := Q1.out
      rw [Nat.zero_add] at Q2
      exact ⟨_, rfl, Q2⟩
end Go.Proofs.YtghogbngmcolmaaGreat
namespace Go.Proofs.YtghogbngmcolmaaGreat
open Go.RowKit
open Tr (Fo Nd)
open Mo (Wh Mt Tb)
set_option maxRecDepth 100000 in
set_option maxHeartbeats 2000000 in
theorem copy_any (base b f K : Nat) (T : Tb) (v : Value) (F : Fo) (w : World) (h : TAt w base b f T v) (hF : FAt w f F) (hb : Tr.Hb F K) (hK : K < 800) :
    Calls Tryz.prog 68 #[.pointer (some ⟨b, 0, none⟩)] w fun e w' => ∃ c v', e = .returned (.pointer (some ⟨c, 0, none⟩)) ∧ w.heap.size ≤ c ∧ TAt w' w.heap.size c f T v' ∧ FAt w' f (Mo.hoA F T) ∧ Frm f w w' := by
  have HT := Hid.intro (And.intro h hF)
  have HB := Hid.intro hb
  obtain ⟨va, vc, hv⟩ := h.row.sl
  have HV := Hid.intro hv
  have c0 := h.c0
  have c1 := h.c1
  have c2 := h.c2
  have c3 := h.c3
  rw [hv] at c3
  have KF : Hid (∀ w' : World, Below w.heap.size w w' → w'.cell? ⟨b, 0, none⟩ = some (.pointer (some ⟨f, 0, none⟩)) ∧ w'.cell? ⟨b, 1, none⟩ = some (.int .i64 T.rt.1) ∧ w'.cell? ⟨b, 2, none⟩ = some (.int .i64 T.rt.2) ∧ w'.cell? ⟨b, 3, none⟩ = some (.slice va T.ms.length vc)) := Hid.intro (fun w' k => ⟨(h.below k).c0, (h.below k).c1, (h.below k).c2, by rw [← hv]; exact (h.below k).c3⟩)
  have K0 := Hid.intro (KF.out w (Below.refl _ _))
  clear h hF hb hv c0 c1 c2 c3
  go_enter Tryz.func68, Tryz.ntmps68
  go_upto_region 1 with fail
  go_region_held3 (fun w' => w'.cell? ⟨b, 0, none⟩ = some (.pointer (some ⟨f, 0, none⟩)) ∧ w'.cell? ⟨b, 1, none⟩ = some (.int .i64 T.rt.1) ∧ w'.cell? ⟨b, 2, none⟩ = some (.int .i64 T.rt.2) ∧ w'.cell? ⟨b, 3, none⟩ = some (.slice va T.ms.length vc)) (first | exact K0.out | exact K4.out | exact (K5.out _)) ((go_at_call 115; rw [← HV.out]; refine (mclone_any base T.ms v _ HT.out.1.drew.row HT.out.1.six).mono ?_; rintro e w4 ⟨v', rfl, r4, b4⟩; have b5 : Below w.heap.size w w4 := ⟨b4.os, b4.tape, b4.output, b4.size, b4.block⟩; have K4 := Hid.intro (KF.out w4 b5); have K5 : Hid (∀ o, (w4.alloc o).cell? ⟨b, 0, none⟩ = some (.pointer (some ⟨f, 0, none⟩)) ∧ (w4.alloc o).cell? ⟨b, 1, none⟩ = some (.int .i64 T.rt.1) ∧ (w4.alloc o).cell? ⟨b, 2, none⟩ = some (.int .i64 T.rt.2) ∧ (w4.alloc o).cell? ⟨b, 3, none⟩ = some (.slice va T.ms.length vc)) := Hid.intro (fun o => KF.out _ (b5.alloc b5.size o)); have P4 : Hid (MRow w4 w.heap.size T.ms v' ∧ Below w.heap.size w w4) := Hid.intro ⟨r4, b5⟩; obtain ⟨va', vc', hv'⟩ := r4.sl; have HV' := Hid.intro hv'; subst hv'; clear r4 b4 b5))
  have S5 : Hid (TAt (w4.alloc (.cells #[.pointer (some ⟨f, 0, none⟩), .int .i64 T.rt.1, .int .i64 T.rt.2, .slice va' T.ms.length vc'] 201)) w.heap.size w4.heap.size f T (.slice va' T.ms.length vc') ∧ FAt (w4.alloc (.cells #[.pointer (some ⟨f, 0, none⟩), .int .i64 T.rt.1, .int .i64 T.rt.2, .slice va' T.ms.length vc'] 201)) f F ∧ Below w.heap.size w (w4.alloc (.cells #[.pointer (some ⟨f, 0, none⟩), .int .i64 T.rt.1, .int .i64 T.rt.2, .slice va' T.ms.length vc'] 201)) ∧ w.heap.size ≤ w4.heap.size) := Hid.intro (by
    have b5 := P4.out.2.alloc P4.out.2.size (.cells #[.pointer (some ⟨f, 0, none⟩), .int .i64 T.rt.1, .int .i64 T.rt.2, .slice va' T.ms.length vc'] 201)
    exact ⟨⟨heap_alloc_new w4 _, P4.out.1.below ((Below.refl _ _).alloc (Nat.le_refl _) _), HT.out.1.six⟩, HT.out.2.below b5, b5, P4.out.2.size⟩)
  generalize (w4.alloc (.cells #[.pointer (some ⟨f, 0, none⟩), .int .i64 T.rt.1, .int .i64 T.rt.2, .slice va' T.ms.length vc'] 201)) = W5 at *
  generalize w4.heap.size = c at *
  clear K0 K4 K5 KF P4
  go_wp2_with fail
  refine (hold_any w.heap.size c f K T _ F _ S5.out.1 S5.out.2.1 HB.out hK).mono ?_
  rintro e W6 ⟨rfl, f6, k6⟩
  have FIN : Hid (TAt W6 w.heap.size c f T (.slice va' T.ms.length vc') ∧ FAt W6 f (Mo.hoA F T) ∧ Frm f w W6) := Hid.intro ⟨S5.out.1.ofF S5.out.2.1 k6, f6, (Frm.of_below S5.out.2.2.1).trans k6⟩
  clear f6 k6
  go_wp2_with fail
  go_ret
  exact ⟨c, _, rfl, S5.out.2.2.2, FIN.out⟩
def BF (b f : Nat) : Nat → Prop := fun k => k = b ∨ k = f
set_option maxRecDepth 100000 in
set_option maxHeartbeats 1000000 in
theorem close_any (base b f K : Nat) (T : Tb) (v : Value) (F : Fo) (w : World) (h : TAt w base b f T v) (hF : FAt w f F) (hb : Tr.Hb F K) (hK : K < 800) :
    Calls Tryz.prog 84 #[.pointer (some ⟨b, 0, none⟩)] w fun e w' => e = .returned (.tuple #[]) ∧ FAt w' f (Mo.leA F T) ∧ Onl (BF b f) w w' := by
  have HT := Hid.intro (And.intro h hF)
  have HB := Hid.intro hb
  clear h hF hb
  go_enter Tryz.func84, Tryz.ntmps84
  go_wp2_with fail
  refine (let_any base b f K T v F _ HT.out.1 HT.out.2 HB.out hK).mono ?_
  rintro e W1 ⟨rfl, f1, k1⟩
  have T1 := HT.out.1.ofF HT.out.2 k1
  obtain ⟨va, vc, hv⟩ := T1.row.sl
  have c3 := T1.c3
  rw [hv] at c3
  have cf := T1.frozen
  have FIN : Hid (FAt (W1.setCell ⟨b, 3, none⟩ (.slice none 0 0)) f (Mo.leA F T) ∧ Onl (BF b f) w (W1.setCell ⟨b, 3, none⟩ (.slice none 0 0))) := Hid.intro ⟨f1.same (setBlk _ _ _ _ (Ne.symm (HT.out.1.ne HT.out.2).1)), (Onl.of_frm k1 (.inr rfl)).setCell (.inl rfl) _ _⟩
  clear f1 k1 T1 hv
  go_wp2_with fail
  go_end0
  exact ⟨rfl, FIN.out⟩
end Go.Proofs.YtghogbngmcolmaaGreat
namespace Go.Proofs.YtghogbngmcolmaaGreat
open Go.RowKit
open Tr (Fo Nd)
open Mo (Wh Mt Tb)
theorem TAt.neb {w : World} {base b f : Nat} {T : Tb} {v : Value} (h : TAt w base b f T v) : ∀ g, v.ownBlock = some g → g ≠ b := h.row.ne_of h.blk (by decide)
end Go.Proofs.YtghogbngmcolmaaGreat
namespace Go.Proofs.YtghogbngmcolmaaGreat
open Go.RowKit
open Tr (Fo Nd)
open Mo (Wh Mt Tb)
namespace Mo
def oneI (z : Int) (n : Nat) : Nat := if z = (n : Int) then 1 else 0
theorem oneI_same (n : Nat) : oneI (n : Int) n = 1 := if_pos rfl
theorem oneI_ne {z : Int} {n : Nat} (h : z ≠ (n : Int)) : oneI z n = 0 := if_neg h
theorem oneI_le (z : Int) (n : Nat) : oneI z n ≤ 1 := by unfold oneI; split <;> omega
def mc (L : List Mt) (n : Nat) : Nat := (L.map fun m => oneI m.1.2 n + oneI m.2.2 n).sum
def tc (T : Tb) (n : Nat) : Nat := oneI T.rt.2 n + mc T.ms n
theorem mc_nil (n : Nat) : mc [] n = 0 := rfl
theorem mc_cons (m : Mt) (L : List Mt) (n : Nat) : mc (m :: L) n = oneI m.1.2 n + oneI m.2.2 n + mc L n := by simp [mc]
theorem mc_le (L : List Mt) (n : Nat) : mc L n ≤ 2 * L.length := by
  induction L with
  | nil => simp [mc]
  | cons m L ih =>
    rw [mc_cons, List.length_cons]
    have := oneI_le m.1.2 n
    have := oneI_le m.2.2 n
    omega
structure HI (F : Fo) (f : Nat → Nat) : Prop where
  hd : ∀ n, n < 40 → (F.nd n).held = f n
  lv : ∀ n, n < 40 → 0 < f n → (F.nd n).kind ≠ 0
def isN (z : Int) : Prop := ∃ n : Nat, z = n ∧ n < 40
theorem HI.congr {F : Fo} {f g : Nat → Nat} (h : HI F f) (e : ∀ n, n < 40 → f n = g n) : HI F g := ⟨fun n hn => (h.hd n hn).trans (e n hn), fun n hn h0 => h.lv n hn (by rw [e n hn]; exact h0)⟩
theorem HI.hol {F : Fo} {f : Nat → Nat} (h : HI F f) {z : Int} (hz : Tr.nodeE F z = 0) : HI (Tr.hol F z) (fun n => f n + oneI z n) := by
  obtain ⟨k, rfl, k40, kk⟩ := Tr.nodeE_ok hz
  unfold Tr.hol
  rw [if_pos hz, Int.toNat_natCast]
  refine ⟨fun n hn => ?_, fun n hn h0 => ?_⟩
  · by_cases e : n = k
    · subst e
      rw [Tr.put_same, oneI_same]
      show (F.nd n).held + 1 = _
      rw [h.hd n hn]
    · rw [Tr.put_ne _ _ _ _ e, oneI_ne (by omega)]
      exact h.hd n hn
  · by_cases e : n = k
    · subst e
      rw [Tr.put_same]
      exact kk
    · rw [Tr.put_ne _ _ _ _ e]
      rw [oneI_ne (by omega)] at h0
      exact h.lv n hn h0
theorem swe_held (F : Fo) (k n : Nat) : ((Tr.swe F k).nd n).held = (F.nd n).held := by
  unfold Tr.swe
  split
  · rename_i c
    by_cases e : n = k
    · subst e
      rw [Tr.put_same]
      exact c.2.symm
    · rw [Tr.put_ne _ _ _ _ e]
  · rfl
theorem swe_kind (F : Fo) (k n : Nat) (h : 0 < (F.nd n).held) : ((Tr.swe F k).nd n).kind = (F.nd n).kind := by
  unfold Tr.swe
  split
  · rename_i c
    by_cases e : n = k
    · subst e; omega
    · rw [Tr.put_ne _ _ _ _ e]
  · rfl
theorem HI.letT {F : Fo} {f : Nat → Nat} {z : Int} (h : HI F (fun n => f n + oneI z n)) (hz : isN z) : HI (Tr.letT F z) f := by
  obtain ⟨k, rfl, k40⟩ := hz
  have hk := h.hd k k40
  rw [oneI_same] at hk
  have e0 : Tr.letE F (k : Int) = 0 := by
    unfold Tr.letE
    have : Tr.nodeE F (k : Int) = 0 := by
      unfold Tr.nodeE
      rw [if_neg (by omega), Int.toNat_natCast, if_neg (h.lv k k40 (by rw [oneI_same]; omega))]
    rw [if_pos this, Int.toNat_natCast, if_neg (by omega)]
  unfold Tr.letT
  rw [if_pos e0, Int.toNat_natCast]
  have hd : ∀ n, n < 40 → ((F.put k { F.nd k with held := (F.nd k).held - 1 }).nd n).held = f n := fun n hn => by
    by_cases e : n = k
    · subst e
      rw [Tr.put_same]
      show (F.nd n).held - 1 = f n
      omega
    · rw [Tr.put_ne _ _ _ _ e, h.hd n hn, oneI_ne (by omega)]
      rfl
  refine ⟨fun n hn => by rw [swe_held]; exact hd n hn, fun n hn h0 => ?_⟩
  rw [swe_kind _ _ _ (by rw [hd n hn]; exact h0)]
  by_cases e : n = k
  · subst e
    rw [Tr.put_same]
    exact h.lv n hn (by omega)
  · rw [Tr.put_ne _ _ _ _ e]
    exact h.lv n hn (by omega)
def Rg (T : Tb) : Prop := isN T.rt.2 ∧ ∀ m ∈ T.ms, isN m.1.2 ∧ isN m.2.2
theorem hoM_HI {F : Fo} {f : Nat → Nat} {m : Mt} (h : HI F f) (h1 : Tr.nodeE F m.1.2 = 0) (h2 : Tr.nodeE F m.2.2 = 0) : HI (hoM F m) (fun n => f n + oneI m.1.2 n + oneI m.2.2 n) := by
  have a := h.hol h1
  refine a.hol ?_
  obtain ⟨k, e, k40, kk⟩ := Tr.nodeE_ok h2
  rw [e]
  unfold Tr.nodeE
  rw [if_neg (by omega), Int.toNat_natCast, if_neg]
  unfold Tr.hol
  rw [if_pos h1]
  by_cases c : k = m.1.2.toNat
  · rw [c, Tr.put_same]
    rw [← c]
    exact kk
  · rw [Tr.put_ne _ _ _ _ c]
    exact kk
theorem leM_HI {F : Fo} {f : Nat → Nat} {m : Mt} (h : HI F (fun n => f n + oneI m.1.2 n + oneI m.2.2 n)) (h1 : isN m.1.2) (h2 : isN m.2.2) : HI (leM F m) f :=
  HI.letT (HI.letT (f := fun n => f n + oneI m.2.2 n) (h.congr (fun n _ => by omega)) h1) h2
theorem leA_HI {F : Fo} {f : Nat → Nat} {T : Tb} (h : HI F (fun n => f n + tc T n)) (hr : Rg T) : HI (leA F T) f := by
  have a : HI (Tr.letT F T.rt.2) (fun n => f n + mc T.ms n) := HI.letT (h.congr (fun n _ => by unfold tc; omega)) hr.1
  have b : ∀ (L : List Mt) (G : Fo), HI G (fun n => f n + mc L n) → (∀ m ∈ L, isN m.1.2 ∧ isN m.2.2) → HI (L.foldl leM G) f := fun L => by
    induction L with
    | nil => exact fun G hG _ => hG.congr (fun n _ => by rw [mc_nil]; omega)
    | cons m L ih =>
      intro G hG hm
      refine ih (leM G m) (leM_HI (hG.congr (fun n _ => by rw [mc_cons]; omega)) (hm m (by simp)).1 (hm m (by simp)).2) (fun x hx => hm x (by simp [hx]))
  exact b _ _ a hr.2
theorem hol_nodeE {F : Fo} {z y : Int} (h : Tr.nodeE F y = 0) : Tr.nodeE (Tr.hol F z) y = 0 := by
  obtain ⟨k, rfl, k40, kk⟩ := Tr.nodeE_ok h
  unfold Tr.nodeE
  rw [if_neg (by omega), Int.toNat_natCast, if_neg]
  unfold Tr.hol
  split
  · by_cases c : k = z.toNat
    · rw [c, Tr.put_same]
      rw [← c]
      exact kk
    · rw [Tr.put_ne _ _ _ _ c]
      exact kk
  · exact kk
theorem hoA_HI {F : Fo} {f : Nat → Nat} {T : Tb} (h : HI F f) (hr : Tr.nodeE F T.rt.2 = 0) (hm : ∀ m ∈ T.ms, Tr.nodeE F m.1.2 = 0 ∧ Tr.nodeE F m.2.2 = 0) : HI (hoA F T) (fun n => f n + tc T n) := by
  have b : ∀ (L : List Mt) (G : Fo) (g : Nat → Nat), HI G g → (∀ m ∈ L, Tr.nodeE G m.1.2 = 0 ∧ Tr.nodeE G m.2.2 = 0) → HI (L.foldl hoM G) (fun n => g n + mc L n) := fun L => by
    induction L with
    | nil => exact fun G g hG _ => hG.congr (fun n _ => by rw [mc_nil]; omega)
    | cons m L ih =>
      intro G g hG hm
      refine (ih (hoM G m) _ (hoM_HI hG (hm m (by simp)).1 (hm m (by simp)).2) (fun x hx => ?_)).congr (fun n _ => by rw [mc_cons]; omega)
      exact ⟨hol_nodeE (hol_nodeE (hm x (by simp [hx])).1), hol_nodeE (hol_nodeE (hm x (by simp [hx])).2)⟩
  exact (b T.ms _ _ (h.hol hr) (fun m hx => ⟨hol_nodeE (hm m hx).1, hol_nodeE (hm m hx).2⟩)).congr (fun n _ => by unfold tc; omega)
theorem tc_le (T : Tb) (h6 : T.ms.length ≤ 6) (n : Nat) : tc T n ≤ 13 := by
  have := oneI_le T.rt.2 n
  have := mc_le T.ms n
  unfold tc
  omega
theorem leA_ok {F : Fo} {T : Tb} (h : Tr.Ok F) : Tr.Ok (leA F T) := by
  have : ∀ (L : List Mt) (G : Fo), Tr.Ok G → Tr.Ok (L.foldl leM G) := fun L => by
    induction L with
    | nil => exact fun _ h => h
    | cons m L ih => exact fun G h => ih _ ((h.letT _).letT _)
  exact this _ _ (h.letT _)
end Mo
end Go.Proofs.YtghogbngmcolmaaGreat

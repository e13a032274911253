import Derived.Deep.RegionHeld3
import Derived.Test.YtghogbngmcolmaaGreatQaa
import Derived.Test.YtghogbngmcolmaaGreatQap
import Derived.Test.YtghogbngmcolmaaGreatQar
namespace Go.Proofs.YtghogbngmcolmaaGreat
open Go.RowKit
set_option maxRecDepth 100000 in
set_option maxHeartbeats 1000000 in
theorem lightT_none (a : Option Addr) (c : Nat) (m : Int) (w : World) : Calls Tryz.prog 28 #[.slice a 0 c, .int .i64 m] w fun e w' => e = .returned (.bool true) ∧ w' = w := by
  go_enter Tryz.func28, Tryz.ntmps28
  go_wp2_with fail
  go_loopw [5] (fun i wr => i = .int .i64 0 ∧ wr = w) (fun _ _ => 0)
  case atStart => exact ⟨rfl, rfl⟩
  case round =>
    obtain ⟨rfl, rfl⟩ := hrel
    go_wp2_with fail
    go_ret
    exact ⟨rfl, rfl⟩
def LightTo (ax : Nat → Act8) (n : Nat) (m : Int) (v : Value) : Prop := v = .bool false ∨ (v = .bool true ∧ ∀ i, i < n → ((ax i).s.size : Int) ≤ m ∧ ((ax i).t.size : Int) ≤ m)
set_option maxRecDepth 100000 in
set_option maxHeartbeats 1000000 in
theorem lightT_some (b o n c : Nat) (m : Int) (ax : Nat → Act8) (w : World) (hn : n ≤ 1000) (h : ∀ i, i < n → ∀ j, j < 8 → w.cell? ⟨b, o + i * 8 + j, none⟩ = some ((ax i).cell j)) :
    Calls Tryz.prog 28 #[.slice (some ⟨b, o, none⟩) n c, .int .i64 m] w fun e w' => ∃ v, e = .returned v ∧ LightTo ax n m v ∧ w' = w := by
  have H := Hid.intro h
  clear h
  go_enter Tryz.func28, Tryz.ntmps28
  go_wp2_with fail
  go_loopw [5] (fun i wr => ∃ j : Nat, i = .int .i64 j ∧ j ≤ n ∧ Hid (∀ i, i < j → ((ax i).s.size : Int) ≤ m ∧ ((ax i).t.size : Int) ≤ m) ∧ wr = w) (fun i _ => n - (intOf i).toNat)
  case atStart => exact ⟨0, rfl, by omega, Hid.intro (fun i hi => by omega), rfl⟩
  case round =>
    obtain ⟨j, rfl, hj, R, hwr⟩ := hrel
    subst wr
    by_cases hlt : j < n
    · have hltI : (j : Int) < (n : Int) := by omega
      have c6 : w.cell? ⟨b, o + j * 8 + 6, none⟩ = some (.string (ax j).s) := H.out j hlt 6 (by omega)
      have c7 : w.cell? ⟨b, o + j * 8 + 7, none⟩ = some (.string (ax j).t) := H.out j hlt 7 (by omega)
      have NX : Hid (((ax j).s.size : Int) ≤ m → ((ax j).t.size : Int) ≤ m → ∀ i, i < j + 1 → ((ax i).s.size : Int) ≤ m ∧ ((ax i).t.size : Int) ≤ m) := Hid.intro (fun h1 h2 i hi => by
        by_cases d : i = j
        · subst d; exact ⟨h1, h2⟩
        · exact R.out i (by omega))
      generalize (ax j).s = s1 at c6 NX
      generalize (ax j).t = s2 at c7 NX
      by_cases d1 : m < (s1.size : Int)
      · go_wp2_with fail
        go_ret
        exact ⟨_, rfl, .inl rfl, rfl⟩
      · by_cases d2 : m < (s2.size : Int)
        · go_wp2_with fail
          go_ret
          exact ⟨_, rfl, .inl rfl, rfl⟩
        · have N2 := Hid.intro (NX.out (by omega) (by omega))
          go_wp2_with fail
          go_roundw
          case rel => exact ⟨j + 1, by go_num, by omega, N2, by first | rfl | trivial⟩
          case measure => simp [intOf]; omega
    · have hltI : ¬ (j : Int) < (n : Int) := by omega
      obtain rfl : j = n := by omega
      go_wp2_with fail
      go_ret
      exact ⟨_, rfl, .inr ⟨rfl, R.out⟩, rfl⟩
theorem lightT_any (a : Option Addr) (b o n c : Nat) (m : Int) (ax : Nat → Act8) (w : World) (hn : n ≤ 1000) (ha : 0 < n → a = some ⟨b, o, none⟩) (h : ∀ i, i < n → ∀ j, j < 8 → w.cell? ⟨b, o + i * 8 + j, none⟩ = some ((ax i).cell j)) :
    Calls Tryz.prog 28 #[.slice a n c, .int .i64 m] w fun e w' => ∃ v, e = .returned v ∧ LightTo ax n m v ∧ w' = w := by
  by_cases h0 : n = 0
  · subst h0
    refine (lightT_none a c m w).mono ?_
    rintro e w' ⟨rfl, hw⟩
    exact ⟨_, rfl, .inr ⟨rfl, fun i hi => absurd hi (Nat.not_lt_zero i)⟩, hw⟩
  · rw [ha (by omega)]
    exact lightT_some b o n c m ax w hn h
end Go.Proofs.YtghogbngmcolmaaGreat
namespace Go.Proofs.YtghogbngmcolmaaGreat
open Go.RowKit
theorem SO.cells {u w : World} {L : List ByteArray} {v : Value} (h : SO u L v w) (hl : 0 < L.length) : ∃ gg cap, v = .slice (some ⟨gg, 0, none⟩) L.length cap ∧ gg < w.heap.size ∧ ∀ i, i < L.length → w.cell? ⟨gg, i, none⟩ = some (.string (L.getD i ⟨#[]⟩)) := by
  have ho := h.own
  obtain ⟨gg, cap, hv, _, hg⟩ := ho.form hl
  refine ⟨gg, cap, hv, hg, fun i hi => ?_⟩
  rw [hv] at ho
  rw [ho.cellAt i (by omega)]
  simp [stC, hi]
end Go.Proofs.YtghogbngmcolmaaGreat
namespace Go.Proofs.YtghogbngmcolmaaGreat
open Go.RowKit
open Tr (Fo Nd)
def TM (w W : World) (b : Nat) (F : Fo) : Prop := Below w.heap.size w W ∧ FAt W b F ∧ Tr.Ok F ∧ w.heap.size ≤ b
theorem TM.links {w W : World} {b : Nat} {F : Fo} (h : TM w W b F) : ∀ n, n < 40 → (F.nd n).kind ≠ 0 → (F.nd n).links < 2 ^ 60 := fun n hn k0 => by
  have := h.2.2.1.links_lt n hn k0
  omega
def Tr.g1 : Fo := Tr.plaF Tr.f0 0
theorem Tr.pla_first {T : Nat} {E : Int} {G : Fo} (h : Tr.PlaTo Tr.f0 T E G) : T = 0 ∧ E = 0 ∧ G = Tr.g1 := by
  have f : Tr.FreeTo Tr.f0 0 0 := .inl ⟨rfl, by omega, rfl, fun m hm => by omega⟩
  rcases h with ⟨a, _⟩ | ⟨_, n, e, hf, hm⟩
  · exact absurd a (by decide)
  · obtain ⟨rfl, rfl⟩ := hf.unique f
    rcases hm with ⟨a, _⟩ | ⟨_, b, c, d⟩
    · exact absurd rfl a
    · exact ⟨b, c, d⟩
theorem Tr.ok_g1 : Tr.Ok Tr.g1 := Tr.ok0.pla (T := 0) (E := 0) (.inr ⟨by decide, 0, 0, .inl ⟨rfl, by omega, rfl, fun m hm => by omega⟩, .inr ⟨rfl, rfl, rfl, rfl⟩⟩)
end Go.Proofs.YtghogbngmcolmaaGreat
namespace Go.Proofs.YtghogbngmcolmaaGreat
open Go.RowKit
open Tr (Fo Nd)
def TL (b : Nat) (L : List ByteArray) (v : Value) (W : World) : Prop := ∃ a c, v = .slice a L.length c ∧ (0 < L.length → ∃ g, a = some ⟨g, 0, none⟩ ∧ g ≠ b ∧ g < W.heap.size ∧ ∀ i, i < L.length → W.cell? ⟨g, i, none⟩ = some (.string (L.getD i ⟨#[]⟩)))
end Go.Proofs.YtghogbngmcolmaaGreat
namespace Go.Proofs.YtghogbngmcolmaaGreat
open Go.RowKit
open Tr (Fo Nd)
def Tr.Hb (F : Fo) (k : Nat) : Prop := ∀ n, n < 40 → (F.nd n).held ≤ k
theorem Tr.Hb.mono {F : Fo} {k l : Nat} (h : Tr.Hb F k) (hl : k ≤ l) : Tr.Hb F l := fun n hn => Nat.le_trans (h n hn) hl
theorem Tr.Hb.put {F : Fo} {k n : Nat} {x : Nd} (h : Tr.Hb F k) (hx : x.held ≤ k) : Tr.Hb (F.put n x) k := fun m hm => by
  by_cases c : m = n
  · subst c; rw [Tr.put_same]; exact hx
  · rw [Tr.put_ne _ _ _ _ c]; exact h m hm
theorem Tr.Hb.swe {F : Fo} {k n : Nat} (h : Tr.Hb F k) : Tr.Hb (Tr.swe F n) k := by
  unfold Tr.swe
  split
  · exact h.put (Nat.zero_le _)
  · exact h
end Go.Proofs.YtghogbngmcolmaaGreat
namespace Go.Proofs.YtghogbngmcolmaaGreat
open Go.RowKit
open Tr (Fo Nd)
theorem Tr.Hb.hol {F : Fo} {k : Nat} (h : Tr.Hb F k) (z : Int) : Tr.Hb (Tr.hol F z) (k + 1) := by
  unfold Tr.hol
  split
  · rename_i c
    obtain ⟨n, rfl, n40, _⟩ := Tr.nodeE_ok c
    rw [Int.toNat_natCast]
    refine (h.mono (Nat.le_succ k)).put ?_
    exact Nat.succ_le_succ (h n n40)
  · exact h.mono (Nat.le_succ k)
theorem Tr.Hb.letT {F : Fo} {k : Nat} (h : Tr.Hb F k) (z : Int) : Tr.Hb (Tr.letT F z) k := by
  unfold Tr.letT
  split
  · rename_i c
    have c' : Tr.nodeE F z = 0 := by
      unfold Tr.letE at c
      by_cases d : Tr.nodeE F z = 0
      · exact d
      · rw [if_neg d] at c; exact c
    obtain ⟨n, rfl, n40, _⟩ := Tr.nodeE_ok c'
    rw [Int.toNat_natCast]
    refine Tr.Hb.swe (h.put ?_)
    exact Nat.le_trans (Nat.sub_le _ _) (h n n40)
  · exact h
theorem Tr.Hb.lt {F : Fo} {k : Nat} (h : Tr.Hb F k) (hk : k < 1000) : ∀ n, n < 40 → (F.nd n).held < 2 ^ 60 := fun n hn => by have := h n hn; omega
end Go.Proofs.YtghogbngmcolmaaGreat
namespace Go.Proofs.YtghogbngmcolmaaGreat
open Go.RowKit
open Tr (Fo Nd)
open Mo (Wh Mt Tb)
namespace Mo
def hoM (F : Fo) (m : Mt) : Fo := Tr.hol (Tr.hol F m.1.2) m.2.2
def leM (F : Fo) (m : Mt) : Fo := Tr.letT (Tr.letT F m.1.2) m.2.2
def hoA (F : Fo) (T : Tb) : Fo := T.ms.foldl hoM (Tr.hol F T.rt.2)
def leA (F : Fo) (T : Tb) : Fo := T.ms.foldl leM (Tr.letT F T.rt.2)
theorem hb_ho {F : Fo} {k : Nat} (h : Tr.Hb F k) (m : Mt) : Tr.Hb (hoM F m) (k + 2) := (h.hol _).hol _
theorem hb_le {F : Fo} {k : Nat} (h : Tr.Hb F k) (m : Mt) : Tr.Hb (leM F m) (k + 2) := ((h.letT _).letT _).mono (by omega)
theorem hb_hos : ∀ (L : List Mt) {F : Fo} {k : Nat}, Tr.Hb F k → Tr.Hb (L.foldl hoM F) (k + 2 * L.length)
  | [], _, _, h => h
  | m :: L, _, k, h => by
    have := hb_hos L (hb_ho h m)
    rw [List.foldl_cons, List.length_cons, show k + 2 * (L.length + 1) = k + 2 + 2 * L.length by omega]
    exact this
theorem hb_les : ∀ (L : List Mt) {F : Fo} {k : Nat}, Tr.Hb F k → Tr.Hb (L.foldl leM F) (k + 2 * L.length)
  | [], _, _, h => h
  | m :: L, _, k, h => by
    have := hb_les L (hb_le h m)
    rw [List.foldl_cons, List.length_cons, show k + 2 * (L.length + 1) = k + 2 + 2 * L.length by omega]
    exact this
theorem foldl_snoc {α β : Type} (f : α → β → α) (L : List β) (j : Nat) (m : β) (a : α) (h : L[j]? = some m) : (L.take (j + 1)).foldl f a = f ((L.take j).foldl f a) m := by
  obtain ⟨hl, e⟩ := List.getElem?_eq_some_iff.1 h
  rw [List.take_succ_eq_append_getElem hl, List.foldl_append, e]
  rfl
end Mo
section
variable {w w' : World} {base b f : Nat} {T : Tb} {v : Value} {F : Fo}
theorem TAt.ne (h : TAt w base b f T v) (hF : FAt w f F) : b ≠ f ∧ ∀ g, v.ownBlock = some g → g ≠ f := by
  obtain ⟨C, hC, _⟩ := hF.blk
  exact ⟨blk_ne h.blk hC (by decide), h.row.ne_of hC (by decide)⟩
theorem TAt.ofF (h : TAt w base b f T v) (hF : FAt w f F) (k : Frm f w w') : TAt w' base b f T v :=
  h.same (k.block b h.lt (h.ne hF).1) (fun g e => k.block g (h.row.lt g e).2 ((h.ne hF).2 g e))
end
def MB (w : World) (c : Nat) (m : Mt) : Prop := w.heap[c]? = some (.cells #[.int .i64 m.1.1, .int .i64 m.1.2, .int .i64 m.2.1, .int .i64 m.2.2] 211 (0, 0))
section
variable {w w' : World} {c f : Nat} {m : Mt} {F : Fo}
theorem MB.c0 (h : MB w c m) : w.cell? ⟨c, 0, none⟩ = some (.int .i64 m.1.1) := by rw [cell_blk h]; rfl
theorem MB.c1 (h : MB w c m) : w.cell? ⟨c, 1, none⟩ = some (.int .i64 m.1.2) := by rw [cell_blk h]; rfl
theorem MB.c2 (h : MB w c m) : w.cell? ⟨c, 2, none⟩ = some (.int .i64 m.2.1) := by rw [cell_blk h]; rfl
theorem MB.c3 (h : MB w c m) : w.cell? ⟨c, 3, none⟩ = some (.int .i64 m.2.2) := by rw [cell_blk h]; rfl
theorem MB.lt (h : MB w c m) : c < w.heap.size := (Array.getElem?_eq_some_iff.1 h).1
theorem MB.ofF (h : MB w c m) (hF : FAt w f F) (k : Frm f w w') : MB w' c m := by
  obtain ⟨C, hC, _⟩ := hF.blk
  exact (k.block c h.lt (blk_ne h hC (by decide))).trans h
end
set_option maxRecDepth 100000 in
set_option maxHeartbeats 2000000 in
theorem holdMount_any (base b f K : Nat) (T : Tb) (v : Value) (F : Fo) (m : Mt) (w : World) (h : TAt w base b f T v) (hF : FAt w f F) (hb : Tr.Hb F K) (hK : K < 900) :
    Calls Tryz.prog 136 #[.pointer (some ⟨b, 0, none⟩), .agg #[.int .i64 m.1.1, .int .i64 m.1.2, .int .i64 m.2.1, .int .i64 m.2.2]] w fun e w' => e = .returned (.tuple #[]) ∧ FAt w' f (Mo.hoM F m) ∧ Frm f w w' := by
  have HT := Hid.intro (And.intro h hF)
  have HB := Hid.intro hb
  clear h hF hb
  go_enter Tryz.func136, Tryz.ntmps136
  go_upto_region 1 with fail
  refine wp_gen (fun W' => MB W' w.heap.size m ∧ Below w.heap.size w W') ⟨heap_alloc_new w _, (Below.refl _ _).alloc (Nat.le_refl _) _⟩ ?_
  rintro W1 ⟨m1, b1⟩
  have S1 : Hid (MB W1 w.heap.size m ∧ TAt W1 base b f T v ∧ FAt W1 f F ∧ Frm f w W1) := Hid.intro ⟨m1, HT.out.1.below b1, HT.out.2.below b1, Frm.of_below b1⟩
  clear m1 b1 HT
  generalize w.heap.size = mx at *
  have K0 : Hid (W1.cell? ⟨b, 0, none⟩ = some (.pointer (some ⟨f, 0, none⟩)) ∧ W1.cell? ⟨mx, 1, none⟩ = some (.int .i64 m.1.2)) := Hid.intro ⟨S1.out.2.1.c0, S1.out.1.c1⟩
  have KF : Hid (∀ w' : World, Frm f W1 w' → w'.cell? ⟨b, 0, none⟩ = some (.pointer (some ⟨f, 0, none⟩)) ∧ w'.cell? ⟨mx, 1, none⟩ = some (.int .i64 m.1.2)) := Hid.intro (fun w' k => ⟨(S1.out.2.1.ofF S1.out.2.2.1 k).c0, (S1.out.1.ofF S1.out.2.2.1 k).c1⟩)
  go_upto_region 1 with fail
  go_region_held3 (fun w' => w'.cell? ⟨b, 0, none⟩ = some (.pointer (some ⟨f, 0, none⟩)) ∧ w'.cell? ⟨mx, 1, none⟩ = some (.int .i64 m.1.2)) (first | exact K0.out | exact K4.out) ((go_at_call 135; refine (thold_any f m.1.2 F _ S1.out.2.2.1.drew (HB.out.lt (by omega))).mono ?_; rintro e w4 ⟨rfl, t4, f4⟩; have f5 : Frm f W1 w4 := ⟨f4.os, f4.tape, f4.output, f4.size, f4.block⟩; have K4 := Hid.intro (KF.out w4 f5); have P4 : Hid (FAt w4 f (Tr.hol F m.1.2) ∧ Frm f W1 w4) := Hid.intro ⟨t4, f5⟩; clear t4 f4 f5))
  have S2 : Hid (MB w4 mx m ∧ TAt w4 base b f T v ∧ FAt w4 f (Tr.hol F m.1.2) ∧ Frm f w w4) := Hid.intro ⟨S1.out.1.ofF S1.out.2.2.1 P4.out.2, S1.out.2.1.ofF S1.out.2.2.1 P4.out.2, P4.out.1, S1.out.2.2.2.trans P4.out.2⟩
  have HB2 : Hid (Tr.Hb (Tr.hol F m.1.2) (K + 1)) := Hid.intro (HB.out.hol _)
  clear K4 K0 KF P4 S1
  have K0 : Hid (w4.cell? ⟨b, 0, none⟩ = some (.pointer (some ⟨f, 0, none⟩)) ∧ w4.cell? ⟨mx, 3, none⟩ = some (.int .i64 m.2.2)) := Hid.intro ⟨S2.out.2.1.c0, S2.out.1.c3⟩
  have KF : Hid (∀ w' : World, Frm f w4 w' → w'.cell? ⟨b, 0, none⟩ = some (.pointer (some ⟨f, 0, none⟩)) ∧ w'.cell? ⟨mx, 3, none⟩ = some (.int .i64 m.2.2)) := Hid.intro (fun w' k => ⟨(S2.out.2.1.ofF S2.out.2.2.1 k).c0, (S2.out.1.ofF S2.out.2.2.1 k).c3⟩)
  go_upto_region 2 with fail
  go_region_held3 (fun w' => w'.cell? ⟨b, 0, none⟩ = some (.pointer (some ⟨f, 0, none⟩)) ∧ w'.cell? ⟨mx, 3, none⟩ = some (.int .i64 m.2.2)) (first | exact K0.out | exact K5.out) ((go_at_call 135; refine (thold_any f m.2.2 _ _ S2.out.2.2.1.drew (HB2.out.lt (by omega))).mono ?_; rintro e w5 ⟨rfl, t5, f4⟩; have f5 : Frm f w4 w5 := ⟨f4.os, f4.tape, f4.output, f4.size, f4.block⟩; have K5 := Hid.intro (KF.out w5 f5); have P5 : Hid (FAt w5 f (Mo.hoM F m) ∧ Frm f w w5) := Hid.intro ⟨t5, S2.out.2.2.2.trans f5⟩; clear t5 f4 f5))
  go_wp2_with fail
  go_end0
  exact ⟨rfl, P5.out⟩
set_option maxRecDepth 100000 in
set_option maxHeartbeats 2000000 in
theorem hold_any (base b f K : Nat) (T : Tb) (v : Value) (F : Fo) (w : World) (h : TAt w base b f T v) (hF : FAt w f F) (hb : Tr.Hb F K) (hK : K < 800) :
    Calls Tryz.prog 102 #[.pointer (some ⟨b, 0, none⟩)] w fun e w' => e = .returned (.tuple #[]) ∧ FAt w' f (Mo.hoA F T) ∧ Frm f w w' := by
  have S1 : Hid (TAt w base b f T v ∧ FAt w f F) := Hid.intro ⟨h, hF⟩
  have HB := Hid.intro hb
  have h6 := h.six
  obtain ⟨va, vc, hv⟩ := h.row.sl
  have HV := Hid.intro hv
  clear h hF hb hv
  have K0 : Hid (w.cell? ⟨b, 0, none⟩ = some (.pointer (some ⟨f, 0, none⟩)) ∧ w.cell? ⟨b, 2, none⟩ = some (.int .i64 T.rt.2)) := Hid.intro ⟨S1.out.1.c0, S1.out.1.c2⟩
  have KF : Hid (∀ w' : World, Frm f w w' → w'.cell? ⟨b, 0, none⟩ = some (.pointer (some ⟨f, 0, none⟩)) ∧ w'.cell? ⟨b, 2, none⟩ = some (.int .i64 T.rt.2)) := Hid.intro (fun w' k => ⟨(S1.out.1.ofF S1.out.2 k).c0, (S1.out.1.ofF S1.out.2 k).c2⟩)
  go_enter Tryz.func102, Tryz.ntmps102
  go_upto_region 0 with fail
  go_region_held3 (fun w' => w'.cell? ⟨b, 0, none⟩ = some (.pointer (some ⟨f, 0, none⟩)) ∧ w'.cell? ⟨b, 2, none⟩ = some (.int .i64 T.rt.2)) (first | exact K0.out | exact K4.out) ((go_at_call 135; refine (thold_any f T.rt.2 F _ S1.out.2.drew (HB.out.lt (by omega))).mono ?_; rintro e w4 ⟨rfl, t4, f4⟩; have f5 : Frm f w w4 := ⟨f4.os, f4.tape, f4.output, f4.size, f4.block⟩; have K4 := Hid.intro (KF.out w4 f5); have P4 : Hid (FAt w4 f (Tr.hol F T.rt.2) ∧ Frm f w w4) := Hid.intro ⟨t4, f5⟩; clear t4 f4 f5))
  have HB2 : Hid (Tr.Hb (Tr.hol F T.rt.2) (K + 1)) := Hid.intro (HB.out.hol _)
  have T4 := Hid.intro (S1.out.1.ofF S1.out.2 P4.out.2)
  have c3 := T4.out.c3
  rw [HV.out] at c3
  obtain ⟨N, hN⟩ : ∃ N, T.ms.length = N := ⟨_, rfl⟩
  have HN := Hid.intro hN
  rw [hN] at c3 h6
  clear K4 K0 KF hN
  go_wp2_with fail
  clear c3
  go_loopw [3, 19] (fun _ i wr => ∃ (j : Nat), i = .int .i64 j ∧ j ≤ N ∧ Hid (FAt wr f ((T.ms.take j).foldl Mo.hoM (Tr.hol F T.rt.2)) ∧ Frm f w wr)) (fun _ i _ => N - (intOf i).toNat)
  case atStart => exact ⟨0, rfl, by omega, P4⟩
  case round =>
    obtain ⟨j, rfl, hj, R⟩ := hrel
    by_cases hlt : j < N
    · have hltI : (j : Int) < (N : Int) := by omega
      obtain ⟨m, hm⟩ : ∃ m, T.ms[j]? = some m := ⟨T.ms[j]'(by rw [HN.out]; exact hlt), List.getElem?_eq_getElem _⟩
      have TW := Hid.intro (S1.out.1.ofF S1.out.2 R.out.2)
      rcases TW.out.row.form with ⟨_, e⟩ | ⟨g, cap, hv, _, _, _⟩
      · rw [e] at hm; simp at hm
      · have r := TW.out.row
        rw [hv] at r
        have hv2 := HV.out
        rw [hv] at hv2
        rw [HN.out] at hv2
        injection hv2 with e1 e2 e3
        subst e1
        have d0 : wr.cell? ⟨g, j * 4, none⟩ = some (.int .i64 m.1.1) := r.cell j 0 m hm (by omega)
        have d1 : wr.cell? ⟨g, j * 4 + 1, none⟩ = some (.int .i64 m.1.2) := r.cell j 1 m hm (by omega)
        have d2 : wr.cell? ⟨g, j * 4 + 2, none⟩ = some (.int .i64 m.2.1) := r.cell j 2 m hm (by omega)
        have d3 : wr.cell? ⟨g, j * 4 + 3, none⟩ = some (.int .i64 m.2.2) := r.cell j 3 m hm (by omega)
        have NX : Hid ((T.ms.take (j + 1)).foldl Mo.hoM (Tr.hol F T.rt.2) = Mo.hoM ((T.ms.take j).foldl Mo.hoM (Tr.hol F T.rt.2)) m) := Hid.intro (Mo.foldl_snoc _ _ _ _ _ hm)
        have HBJ : Hid (Tr.Hb ((T.ms.take j).foldl Mo.hoM (Tr.hol F T.rt.2)) (K + 1 + 2 * 6)) := Hid.intro ((Mo.hb_hos _ HB2.out).mono (by rw [List.length_take]; omega))
        clear hm r hv e2 e3
        go_upto_region 4 with fail
        refine wp_gen (fun W' => MB W' wr.heap.size m ∧ Below wr.heap.size wr W') ⟨heap_alloc_new wr _, (Below.refl _ _).alloc (Nat.le_refl _) _⟩ ?_
        rintro W5 ⟨m5, b5⟩
        have S5 : Hid (TAt W5 base b f T v ∧ FAt W5 f ((T.ms.take j).foldl Mo.hoM (Tr.hol F T.rt.2)) ∧ Frm f w W5) := Hid.intro ⟨TW.out.below b5, R.out.1.below b5, R.out.2.trans (Frm.of_below b5)⟩
        have n0 := m5.c0
        have n1 := m5.c1
        have n2 := m5.c2
        have n3 := m5.c3
        clear m5 b5 d0 d1 d2 d3
        generalize wr.heap.size = mx at *
        go_wp2_with fail
        refine (holdMount_any base b f _ T v _ m _ S5.out.1 S5.out.2.1 HBJ.out (by omega)).mono ?_
        rintro e W6 ⟨rfl, t6, f6⟩
        have S6 : Hid (FAt W6 f ((T.ms.take (j + 1)).foldl Mo.hoM (Tr.hol F T.rt.2)) ∧ Frm f w W6) := Hid.intro ⟨by rw [NX.out]; exact t6, S5.out.2.2.trans f6⟩
        clear t6 f6
        go_wp2_with fail
        go_roundw
        case rel => exact ⟨j + 1, by go_num, by omega, S6⟩
        case measure => simp [intOf]; omega
    · have hltI : ¬ (j : Int) < (N : Int) := by omega
      have FIN : Hid (FAt wr f (Mo.hoA F T) ∧ Frm f w wr) := Hid.intro ⟨by
        have := R.out.1
        rw [List.take_of_length_le (by rw [HN.out]; omega)] at this
        exact this, R.out.2⟩
      go_wp2_with fail
      go_end0
      exact ⟨rfl, FIN.out⟩
set_option maxRecDepth 100000 in
set_option maxHeartbeats 2000000 in
theorem letMount_any (base b f K : Nat) (T : Tb) (v : Value) (F : Fo) (m : Mt) (w : World) (h : TAt w base b f T v) (hF : FAt w f F) (hb : Tr.Hb F K) (hK : K < 900) :
    Calls Tryz.prog 146 #[.pointer (some ⟨b, 0, none⟩), .agg #[.int .i64 m.1.1, .int .i64 m.1.2, .int .i64 m.2.1, .int .i64 m.2.2]] w fun e w' => e = .returned (.tuple #[]) ∧ FAt w' f (Mo.leM F m) ∧ Frm f w w' := by
  have HT := Hid.intro (And.intro h hF)
  have HB := Hid.intro hb
  clear h hF hb
  go_enter Tryz.func146, Tryz.ntmps146
  go_upto_region 1 with fail
  refine wp_gen (fun W' => MB W' w.heap.size m ∧ Below w.heap.size w W') ⟨heap_alloc_new w _, (Below.refl _ _).alloc (Nat.le_refl _) _⟩ ?_
  rintro W1 ⟨m1, b1⟩
  have S1 : Hid (MB W1 w.heap.size m ∧ TAt W1 base b f T v ∧ FAt W1 f F ∧ Frm f w W1) := Hid.intro ⟨m1, HT.out.1.below b1, HT.out.2.below b1, Frm.of_below b1⟩
  clear m1 b1 HT
  generalize w.heap.size = mx at *
  have K0 : Hid (W1.cell? ⟨b, 0, none⟩ = some (.pointer (some ⟨f, 0, none⟩)) ∧ W1.cell? ⟨mx, 1, none⟩ = some (.int .i64 m.1.2)) := Hid.intro ⟨S1.out.2.1.c0, S1.out.1.c1⟩
  have KF : Hid (∀ w' : World, Frm f W1 w' → w'.cell? ⟨b, 0, none⟩ = some (.pointer (some ⟨f, 0, none⟩)) ∧ w'.cell? ⟨mx, 1, none⟩ = some (.int .i64 m.1.2)) := Hid.intro (fun w' k => ⟨(S1.out.2.1.ofF S1.out.2.2.1 k).c0, (S1.out.1.ofF S1.out.2.2.1 k).c1⟩)
  go_upto_region 1 with fail
  go_region_held3 (fun w' => w'.cell? ⟨b, 0, none⟩ = some (.pointer (some ⟨f, 0, none⟩)) ∧ w'.cell? ⟨mx, 1, none⟩ = some (.int .i64 m.1.2)) (first | exact K0.out | exact K4.out) ((go_at_call 132; refine (tlet_any f m.1.2 F _ S1.out.2.2.1.drew (HB.out.lt (by omega))).mono ?_; rintro e w4 ⟨rfl, t4, f4⟩; have f5 : Frm f W1 w4 := ⟨f4.os, f4.tape, f4.output, f4.size, f4.block⟩; have K4 := Hid.intro (KF.out w4 f5); have P4 : Hid (FAt w4 f (Tr.letT F m.1.2) ∧ Frm f W1 w4) := Hid.intro ⟨t4, f5⟩; clear t4 f4 f5))
  have S2 : Hid (MB w4 mx m ∧ TAt w4 base b f T v ∧ FAt w4 f (Tr.letT F m.1.2) ∧ Frm f w w4) := Hid.intro ⟨S1.out.1.ofF S1.out.2.2.1 P4.out.2, S1.out.2.1.ofF S1.out.2.2.1 P4.out.2, P4.out.1, S1.out.2.2.2.trans P4.out.2⟩
  have HB2 : Hid (Tr.Hb (Tr.letT F m.1.2) (K + 1)) := Hid.intro ((HB.out.letT _).mono (by omega : K ≤ K + 1))
  clear K4 K0 KF P4 S1
  have K0 : Hid (w4.cell? ⟨b, 0, none⟩ = some (.pointer (some ⟨f, 0, none⟩)) ∧ w4.cell? ⟨mx, 3, none⟩ = some (.int .i64 m.2.2)) := Hid.intro ⟨S2.out.2.1.c0, S2.out.1.c3⟩
  have KF : Hid (∀ w' : World, Frm f w4 w' → w'.cell? ⟨b, 0, none⟩ = some (.pointer (some ⟨f, 0, none⟩)) ∧ w'.cell? ⟨mx, 3, none⟩ = some (.int .i64 m.2.2)) := Hid.intro (fun w' k => ⟨(S2.out.2.1.ofF S2.out.2.2.1 k).c0, (S2.out.1.ofF S2.out.2.2.1 k).c3⟩)
  go_upto_region 2 with fail
  go_region_held3 (fun w' => w'.cell? ⟨b, 0, none⟩ = some (.pointer (some ⟨f, 0, none⟩)) ∧ w'.cell? ⟨mx, 3, none⟩ = some (.int .i64 m.2.2)) (first | exact K0.out | exact K5.out) ((go_at_call 132; refine (tlet_any f m.2.2 _ _ S2.out.2.2.1.drew (HB2.out.lt (by omega))).mono ?_; rintro e w5 ⟨rfl, t5, f4⟩; have f5 : Frm f w4 w5 := ⟨f4.os, f4.tape, f4.output, f4.size, f4.block⟩; have K5 := Hid.intro (KF.out w5 f5); have P5 : Hid (FAt w5 f (Mo.leM F m) ∧ Frm f w w5) := Hid.intro ⟨t5, S2.out.2.2.2.trans f5⟩; clear t5 f4 f5))
  go_wp2_with fail
  go_end0
  exact ⟨rfl, P5.out⟩
set_option maxRecDepth 100000 in
set_option maxHeartbeats 2000000 in
theorem let_any (base b f K : Nat) (T : Tb) (v : Value) (F : Fo) (w : World) (h : TAt w base b f T v) (hF : FAt w f F) (hb : Tr.Hb F K) (hK : K < 800) :
    Calls Tryz.prog 128 #[.pointer (some ⟨b, 0, none⟩)] w fun e w' => e = .returned (.tuple #[]) ∧ FAt w' f (Mo.leA F T) ∧ Frm f w w' := by
  have S1 : Hid (TAt w base b f T v ∧ FAt w f F) := Hid.intro ⟨h, hF⟩
  have HB := Hid.intro hb
  have h6 := h.six
  obtain ⟨va, vc, hv⟩ := h.row.sl
  have HV := Hid.intro hv
  clear h hF hb hv
  have K0 : Hid (w.cell? ⟨b, 0, none⟩ = some (.pointer (some ⟨f, 0, none⟩)) ∧ w.cell? ⟨b, 2, none⟩ = some (.int .i64 T.rt.2)) := Hid.intro ⟨S1.out.1.c0, S1.out.1.c2⟩
  have KF : Hid (∀ w' : World, Frm f w w' → w'.cell? ⟨b, 0, none⟩ = some (.pointer (some ⟨f, 0, none⟩)) ∧ w'.cell? ⟨b, 2, none⟩ = some (.int .i64 T.rt.2)) := Hid.intro (fun w' k => ⟨(S1.out.1.ofF S1.out.2 k).c0, (S1.out.1.ofF S1.out.2 k).c2⟩)
  go_enter Tryz.func128, Tryz.ntmps128
  go_upto_region 0 with fail
  go_region_held3 (fun w' => w'.cell? ⟨b, 0, none⟩ = some (.pointer (some ⟨f, 0, none⟩)) ∧ w'.cell? ⟨b, 2, none⟩ = some (.int .i64 T.rt.2)) (first | exact K0.out | exact K4.out) ((go_at_call 132; refine (tlet_any f T.rt.2 F _ S1.out.2.drew (HB.out.lt (by omega))).mono ?_; rintro e w4 ⟨rfl, t4, f4⟩; have f5 : Frm f w w4 := ⟨f4.os, f4.tape, f4.output, f4.size, f4.block⟩; have K4 := Hid.intro (KF.out w4 f5); have P4 : Hid (FAt w4 f (Tr.letT F T.rt.2) ∧ Frm f w w4) := Hid.intro ⟨t4, f5⟩; clear t4 f4 f5))
  have HB2 : Hid (Tr.Hb (Tr.letT F T.rt.2) (K + 1)) := Hid.intro ((HB.out.letT _).mono (by omega : K ≤ K + 1))
  have T4 := Hid.intro (S1.out.1.ofF S1.out.2 P4.out.2)
  have c3 := T4.out.c3
  rw [HV.out] at c3
  obtain ⟨N, hN⟩ : ∃ N, T.ms.length = N := ⟨_, rfl⟩
  have HN := Hid.intro hN
  rw [hN] at c3 h6
  clear K4 K0 KF hN
  go_wp2_with fail
  clear c3
  go_loopw [3, 19] (fun _ i wr => ∃ (j : Nat), i = .int .i64 j ∧ j ≤ N ∧ Hid (FAt wr f ((T.ms.take j).foldl Mo.leM (Tr.letT F T.rt.2)) ∧ Frm f w wr)) (fun _ i _ => N - (intOf i).toNat)
  case atStart => exact ⟨0, rfl, by omega, P4⟩
  case round =>
    obtain ⟨j, rfl, hj, R⟩ := hrel
    by_cases hlt : j < N
    · have hltI : (j : Int) < (N : Int) := by omega
      obtain ⟨m, hm⟩ : ∃ m, T.ms[j]? = some m := ⟨T.ms[j]'(by rw [HN.out]; exact hlt), List.getElem?_eq_getElem _⟩
      have TW := Hid.intro (S1.out.1.ofF S1.out.2 R.out.2)
      rcases TW.out.row.form with ⟨_, e⟩ | ⟨g, cap, hv, _, _, _⟩
      · rw [e] at hm; simp at hm
      · have r := TW.out.row
        rw [hv] at r
        have hv2 := HV.out
        rw [hv] at hv2
        rw [HN.out] at hv2
        injection hv2 with e1 e2 e3
        subst e1
        have d0 : wr.cell? ⟨g, j * 4, none⟩ = some (.int .i64 m.1.1) := r.cell j 0 m hm (by omega)
        have d1 : wr.cell? ⟨g, j * 4 + 1, none⟩ = some (.int .i64 m.1.2) := r.cell j 1 m hm (by omega)
        have d2 : wr.cell? ⟨g, j * 4 + 2, none⟩ = some (.int .i64 m.2.1) := r.cell j 2 m hm (by omega)
        have d3 : wr.cell? ⟨g, j * 4 + 3, none⟩ = some (.int .i64 m.2.2) := r.cell j 3 m hm (by omega)
        have NX : Hid ((T.ms.take (j + 1)).foldl Mo.leM (Tr.letT F T.rt.2) = Mo.leM ((T.ms.take j).foldl Mo.leM (Tr.letT F T.rt.2)) m) := Hid.intro (Mo.foldl_snoc _ _ _ _ _ hm)
        have HBJ : Hid (Tr.Hb ((T.ms.take j).foldl Mo.leM (Tr.letT F T.rt.2)) (K + 1 + 2 * 6)) := Hid.intro ((Mo.hb_les _ HB2.out).mono (by rw [List.length_take]; omega))
        clear hm r hv e2 e3
        go_upto_region 4 with fail
        refine wp_gen (fun W' => MB W' wr.heap.size m ∧ Below wr.heap.size wr W') ⟨heap_alloc_new wr _, (Below.refl _ _).alloc (Nat.le_refl _) _⟩ ?_
        rintro W5 ⟨m5, b5⟩
        have S5 : Hid (TAt W5 base b f T v ∧ FAt W5 f ((T.ms.take j).foldl Mo.leM (Tr.letT F T.rt.2)) ∧ Frm f w W5) := Hid.intro ⟨TW.out.below b5, R.out.1.below b5, R.out.2.trans (Frm.of_below b5)⟩
        have n0 := m5.c0
        have n1 := m5.c1
        have n2 := m5.c2
        have n3 := m5.c3
        clear m5 b5 d0 d1 d2 d3
        generalize wr.heap.size = mx at *
        go_wp2_with fail
        refine (letMount_any base b f _ T v _ m _ S5.out.1 S5.out.2.1 HBJ.out (by omega)).mono ?_
        rintro e W6 ⟨rfl, t6, f6⟩
        have S6 : Hid (FAt W6 f ((T.ms.take (j + 1)).foldl Mo.leM (Tr.letT F T.rt.2)) ∧ Frm f w W6) := Hid.intro ⟨by rw [NX.out]; exact t6, S5.out.2.2.trans f6⟩
        clear t6 f6
        go_wp2_with fail
        go_roundw
        case rel => exact ⟨j + 1, by go_num, by omega, S6⟩
        case measure => simp [intOf]; omega
    · have hltI : ¬ (j : Int) < (N : Int) := by omega
      have FIN : Hid (FAt wr f (Mo.leA F T) ∧ Frm f w wr) := Hid.intro ⟨by
        have := R.out.1
        rw [List.take_of_length_le (by rw [HN.out]; omega)] at this
        exact this, R.out.2⟩
      go_wp2_with fail
      go_end0
      exact ⟨rfl, FIN.out⟩
end Go.Proofs.YtghogbngmcolmaaGreat

/- The code's table: follow. -/
import Derived.Test.YthdadmbpnoofoaaGreatDoorMb
import Derived.Deep.Onto
import Derived.Laws.OwnMore
namespace Go.Proofs.YthdadmbpnoofoaaGreatDoor
open Go.RowKit
open Tr (Fo Nd)
open Mo (Wh Mt Tb)

namespace Mo
def wcs (L : List Wh) : List Value := L.flatMap fun x => [Value.int .i64 x.1, .int .i64 x.2]
theorem wcs_app (L M : List Wh) : wcs (L ++ M) = wcs L ++ wcs M := List.flatMap_append
theorem wcs_one (x : Wh) : wcs [x] = [.int .i64 x.1, .int .i64 x.2] := by simp [wcs]
theorem wcs_len : ∀ L : List Wh, (wcs L).length = L.length * 2
  | [] => rfl
  | x :: L => by
    show ([Value.int .i64 x.1, .int .i64 x.2] ++ wcs L).length = (L.length + 1) * 2
    rw [List.length_append, wcs_len L]
    show 2 + L.length * 2 = (L.length + 1) * 2
    omega
theorem wcs_at : ∀ (L : List Wh) (i j : Nat) (x : Wh), L[i]? = some x → j < 2 → (wcs L)[i * 2 + j]? = [Value.int .i64 x.1, .int .i64 x.2][j]?
  | [], _, _, _, h, _ => by simp at h
  | y :: L, 0, j, x, h, hj => by
    simp only [List.getElem?_cons_zero, Option.some.injEq] at h
    subst h
    show ([Value.int .i64 y.1, .int .i64 y.2] ++ wcs L)[0 * 2 + j]? = _
    rw [Nat.zero_mul, Nat.zero_add, List.getElem?_append_left (by show j < 2; exact hj)]
  | y :: L, i + 1, j, x, h, hj => by
    rw [List.getElem?_cons_succ] at h
    show ([Value.int .i64 y.1, .int .i64 y.2] ++ wcs L)[(i + 1) * 2 + j]? = _
    rw [List.getElem?_append_right (by show 2 ≤ _; omega)]
    show (wcs L)[(i + 1) * 2 + j - 2]? = _
    rw [show (i + 1) * 2 + j - 2 = i * 2 + j by omega]
    exact wcs_at L i j x h hj
theorem wcs_take : ∀ (L : List Wh) (n : Nat), wcs (L.take n) = (wcs L).take (n * 2)
  | [], n => by simp [wcs]
  | x :: L, 0 => by simp [wcs]
  | x :: L, n + 1 => by
    show [Value.int .i64 x.1, .int .i64 x.2] ++ wcs (L.take n) = ([Value.int .i64 x.1, .int .i64 x.2] ++ wcs L).take ((n + 1) * 2)
    rw [wcs_take L n, show (n + 1) * 2 = n * 2 + 2 by omega]
    rfl
/-- Where a way has come to; back by one, but never from its beginning. -/
def lst (W : List Wh) : Wh := W.getLast?.getD (0, 0)
def bk (W : List Wh) : List Wh := W.take (max (W.length - 1) 1)
def isBk (s : ByteArray) : Bool := s.toList == [46, 46]
theorem lst_app (W : List Wh) (x : Wh) : lst (W ++ [x]) = x := by simp [lst]
theorem lst_at {W : List Wh} {k : Nat} (h : W.length = k + 1) : W[k]? = some (lst W) := by
  unfold lst
  rw [List.getLast?_eq_getElem?, h, Nat.add_sub_cancel, List.getElem?_eq_getElem (by omega)]
  rfl
theorem bk_app {W : List Wh} {x : Wh} (h : 1 ≤ W.length) : bk (W ++ [x]) = W := by
  unfold bk
  rw [List.length_append, List.length_singleton, Nat.add_sub_cancel, Nat.max_eq_left h, List.take_left]
theorem bk_len {W : List Wh} (h : 1 ≤ W.length) : (bk W).length = max (W.length - 1) 1 := by
  unfold bk
  rw [List.length_take]
  omega
/-- Names lead on from a way. -/
def WayTo (F : Fo) (L : List Mt) : List ByteArray → List Wh → List Wh → Int → Prop
  | [], W, W', E => W' = W ∧ E = 0
  | s :: r, W, W', E => (isBk s = true ∧ WayTo F L r (bk W) W' E) ∨ (isBk s = false ∧ ∃ (K : Nat) (e : Int), Tr.FndTo F (lst W).2 s K e ∧ ((e ≠ 0 ∧ W' = [(0, 0)] ∧ E = e) ∨ (e = 0 ∧ WayTo F L r (W ++ [sn L ((lst W).1, (K : Int))]) W' E)))
end Mo
/-- A way, in a block of its own. -/
def WRow (w : World) (base : Nat) (W : List Wh) (v : Value) : Prop := w.ownsRow base 56 2 v W.length (Mo.wcs W)
section
variable {w w' : World} {base : Nat} {W : List Wh} {v : Value}
theorem WRow.form (h : WRow w base W v) (h1 : 1 ≤ W.length) : ∃ g cap, v = .slice (some ⟨g, 0, none⟩) W.length cap ∧ base ≤ g ∧ g < w.heap.size ∧ W.length ≤ cap := by
  rcases h.2 with ⟨_, e⟩ | ⟨g, cap, cur, e, hb, hg, h1, _⟩
  · omega
  · exact ⟨g, cap, e, hb, (Array.getElem?_eq_some_iff.1 hg).1, h1⟩
theorem WRow.below (h : WRow w base W v) (k : Below w.heap.size w w') : WRow w' base W v := by
  refine ⟨h.1, ?_⟩
  rcases h.2 with hn | ⟨g, cap, cur, e, hb, hg, h1⟩
  · exact .inl hn
  · exact .inr ⟨g, cap, cur, e, hb, by rw [k.block g (Array.getElem?_eq_some_iff.1 hg).1]; exact hg, h1⟩
theorem WRow.cell {g n cap : Nat} (h : WRow w base W (.slice (some ⟨g, 0, none⟩) n cap)) (i j : Nat) (x : Wh) (hi : W[i]? = some x) (hj : j < 2) : w.cell? ⟨g, i * 2 + j, none⟩ = [Value.int .i64 x.1, .int .i64 x.2][j]? := by
  have hl := (List.getElem?_eq_some_iff.1 hi).1
  rcases h.2 with ⟨e, _⟩ | ⟨g', cap', cur, e, hb, hg, h1, h2, h3, h4⟩
  · cases e
  · cases e
    rw [cell_blk hg, ← Mo.wcs_at W i j x hi hj, ← h4]
    rw [List.getElem?_take_of_lt (by omega), Array.getElem?_toList]
theorem WRow.cut {g cap : Nat} (h : WRow w base W (.slice (some ⟨g, 0, none⟩) W.length cap)) (n : Nat) (hn : n ≤ W.length) : WRow w base (W.take n) (.slice (some ⟨g, 0, none⟩) n cap) := by
  have hl : (W.take n).length = n := by rw [List.length_take]; omega
  unfold WRow
  rw [hl]
  refine ⟨by rw [Mo.wcs_len, hl], ?_⟩
  rcases h.2 with ⟨e, _⟩ | ⟨g', cap', cur, e, hb, hg, h1, h2, h3, h4⟩
  · cases e
  · cases e
    refine .inr ⟨g, cap, cur, rfl, hb, hg, by omega, h2, h3, ?_⟩
    rw [Mo.wcs_take, ← h4, List.take_take, Nat.min_eq_left (by omega)]
end
theorem infoWh : ∃ i z, Tryz.prog.info? 56 = some i ∧ i.zero = some z ∧ i.size = 2 ∧ i.bytes = 16 ∧ z.cells.size = 2 := by
  have h : (Tryz.prog.info? 56).map (fun i => (i.size, i.bytes, i.zero.map (fun z => z.cells.size))) = some (2, 16, some 2) := by kernel_rfl
  cases hi : Tryz.prog.info? 56 with
  | none => rw [hi] at h; cases h
  | some i =>
    rw [hi] at h
    simp only [Option.map_some, Option.some.injEq, Prod.mk.injEq] at h
    obtain ⟨h1, h2, h3⟩ := h
    cases hz : i.zero with
    | none => rw [hz] at h3; cases h3
    | some z =>
      rw [hz] at h3
      simp only [Option.map_some, Option.some.injEq] at h3
      exact ⟨i, z, rfl, hz, h1, h2, h3⟩
theorem infoMt : ∃ i z, Tryz.prog.info? 105 = some i ∧ i.zero = some z ∧ i.size = 4 ∧ i.bytes = 32 ∧ z.cells.size = 4 := by
  have h : (Tryz.prog.info? 105).map (fun i => (i.size, i.bytes, i.zero.map (fun z => z.cells.size))) = some (4, 32, some 4) := by kernel_rfl
  cases hi : Tryz.prog.info? 105 with
  | none => rw [hi] at h; cases h
  | some i =>
    rw [hi] at h
    simp only [Option.map_some, Option.some.injEq, Prod.mk.injEq] at h
    obtain ⟨h1, h2, h3⟩ := h
    cases hz : i.zero with
    | none => rw [hz] at h3; cases h3
    | some z =>
      rw [hz] at h3
      simp only [Option.map_some, Option.some.injEq] at h3
      exact ⟨i, z, rfl, hz, h1, h2, h3⟩
/-- Texts, in a row. -/
def NS (w : World) (v : Value) (ns : List ByteArray) : Prop := ∃ a c, v = .slice a ns.length c ∧ ns.length ≤ c ∧ (ns ≠ [] → ∃ nb no, a = some ⟨nb, no, none⟩ ∧ ∀ (i : Nat) (s : ByteArray), ns[i]? = some s → w.cell? ⟨nb, no + i, none⟩ = some (.string s))
theorem NS.below {w w' : World} {v : Value} {ns : List ByteArray} (h : NS w v ns) (k : Below w.heap.size w w') : NS w' v ns := by
  obtain ⟨a, c, hv, hc, hx⟩ := h
  refine ⟨a, c, hv, hc, fun hn => ?_⟩
  obtain ⟨nb, no, ha, hcell⟩ := hx hn
  exact ⟨nb, no, ha, fun i s hi => by
    have := hcell i s hi
    rw [k.cell (p := ⟨nb, no + i, none⟩) (World.block_lt_of_cell? _ _ this)]
    exact this⟩
set_option maxRecDepth 100000 in
set_option maxHeartbeats 8000000 in
theorem follow_any (base b f : Nat) (T : Tb) (v : Value) (F : Fo) (ns : List ByteArray) (vn : Value) (w : World) (h : TAt w base b f T v) (hF : FAt w f F) (hs : Tr.SzOk F) (hn : NS w vn ns) (hl : ns.length ≤ 100) :
    Calls Tryz.prog 74 #[.pointer (some ⟨b, 0, none⟩), vn] w fun e w' => ∃ (W : List Wh) (E : Int), e = .returned (.tuple #[.agg #[.int .i64 (Mo.lst W).1, .int .i64 (Mo.lst W).2], errV E]) ∧ Mo.WayTo F T.ms ns [Mo.sn T.ms T.rt] W E ∧ Below w.heap.size w w' := by
  have HT := Hid.intro (And.intro h (And.intro hF (And.intro hs hn)))
  obtain ⟨na, nc, hvn, hnc, hx⟩ := hn
  have HX := Hid.intro hx
  subst hvn
  clear h hF hs hx hnc
  obtain ⟨i0, z0, hi0, hz0, hz1, hz2, hz3⟩ := infoWh
  obtain ⟨N, hN⟩ : ∃ N, ns.length = N := ⟨_, rfl⟩
  have HN := Hid.intro hN
  rw [hN] at hl ⊢
  clear hN
  have A1 : Hid (WB (w.alloc (.cells #[.int .i64 0, .int .i64 0] 56)) w.heap.size (0, 0) ∧ Below w.heap.size w (w.alloc (.cells #[.int .i64 0, .int .i64 0] 56))) := Hid.intro ⟨heap_alloc_new w _, (Below.refl _ _).alloc (Nat.le_refl _) _⟩
  go_enter Tryz.func74, Tryz.ntmps74
  go_upto_region 1 with fail
  refine wp_gen (fun W' => WB W' w.heap.size (0, 0) ∧ Below w.heap.size w W') A1.out ?_
  rintro W1 h1
  have S1 := Hid.intro h1
  have T1 := Hid.intro (HT.out.1.below h1.2)
  clear h1 A1
  have c1 := T1.out.c1
  have c2 := T1.out.c2
  go_wp2_with fail
  refine (seen_any base b f T v T.rt _ T1.out).mono ?_
  rintro e W2 ⟨rfl, b2⟩
  have S2 : Hid (WB W2 w.heap.size (0, 0) ∧ Below w.heap.size w W2) := Hid.intro ⟨S1.out.1.below b2, S1.out.2.trans (b2.mono S1.out.2.size)⟩
  clear b2 c1 c2 S1 T1
  obtain ⟨q0, hq0⟩ : ∃ q0, Mo.sn T.ms T.rt = q0 := ⟨_, rfl⟩
  have HQ := Hid.intro hq0
  rw [hq0]
  clear hq0
  have A3 : Hid (WRow (W2.alloc (.cells #[.int .i64 q0.1, .int .i64 q0.2] 56)) (w.heap.size + 1) [q0] (.slice (some ⟨W2.heap.size, 0, none⟩) 1 1) ∧ WB (W2.alloc (.cells #[.int .i64 q0.1, .int .i64 q0.2] 56)) w.heap.size (0, 0) ∧ Below w.heap.size w (W2.alloc (.cells #[.int .i64 q0.1, .int .i64 q0.2] 56))) := Hid.intro (by
    have bb : Below W2.heap.size W2 (W2.alloc (.cells #[.int .i64 q0.1, .int .i64 q0.2] 56)) := (Below.refl _ _).alloc (Nat.le_refl _) _
    refine ⟨⟨by rw [Mo.wcs_len], .inr ⟨W2.heap.size, 1, _, rfl, S2.out.1.lt, heap_alloc_new W2 _, Nat.le_refl _, by decide, rfl, rfl⟩⟩, S2.out.1.below bb, S2.out.2.trans (bb.mono S2.out.2.size)⟩)
  go_upto_region 2 with fail
  refine wp_gen (fun W' => WRow W' (w.heap.size + 1) [q0] (.slice (some ⟨W2.heap.size, 0, none⟩) 1 1) ∧ WB W' w.heap.size (0, 0) ∧ Below w.heap.size w W') A3.out ?_
  rintro W3 h3
  have S3 := Hid.intro h3
  clear h3 A3 S2
  obtain ⟨rx, hrx⟩ : ∃ rx, w.heap.size = rx := ⟨_, rfl⟩
  have HRX := Hid.intro hrx
  have LE : Hid (∀ W, Below rx w W → rx ≤ W.heap.size ∧ TAt W base b f T v ∧ FAt W f F ∧ NS W (.slice na N nc) ns) := Hid.intro (fun W h => by
    have e := h.size
    rw [hrx] at e
    subst hrx
    exact ⟨e, HT.out.1.below h, HT.out.2.1.below h, by have := HT.out.2.2.2.below h; rw [HN.out] at this; exact this⟩)
  rw [hrx] at S3 ⊢
  generalize W2.heap.size = g0 at *
  clear hrx
  go_wp2_with fail
  go_loopw [6, 8, 9, 10, 11, 21] (fun vw _ _ _ _ i wr => ∃ (j : Nat) (W : List Wh), i = .int .i64 j ∧ j ≤ N ∧ 1 ≤ W.length ∧ W.length ≤ j + 1 ∧ Hid (WRow wr (rx + 1) W vw ∧ WB wr rx (0, 0) ∧ Below rx w wr ∧ ∀ W' E, Mo.WayTo F T.ms (ns.drop j) W W' E → Mo.WayTo F T.ms ns [q0] W' E)) (fun _ _ _ _ _ i _ => N - (intOf i).toNat)
  case atStart => exact ⟨0, [q0], rfl, by omega, by simp, by simp, Hid.intro ⟨S3.out.1, S3.out.2.1, S3.out.2.2, fun W' E h => h⟩⟩
  case round =>
    clear S3
    obtain ⟨j, W, rfl, hj, w1, wj, S⟩ := hrel
    obtain ⟨k, hk⟩ : ∃ k, W.length = k + 1 := ⟨W.length - 1, by omega⟩
    obtain ⟨g, cap, hv, hb, hg, hcap⟩ := S.out.1.form w1
    have HW := Hid.intro hk
    have S' := S.out
    rw [hv, hk] at S'
    have SS := Hid.intro S'
    have HG := Hid.intro (And.intro hb hg)
    subst hv
    rw [hk] at wj hcap ⊢
    clear S S' w1 hk hb hg
    have k100 : k ≤ 100 := by omega
    have hw2 : IntKind.i64.wrap (((k + 1 : Nat) : Int) - 1) = (k : Int) := by rw [IntWalk.i64_in _ ⟨by omega, by omega⟩]; omega
    have LA := Hid.intro (Mo.lst_at HW.out)
    by_cases hlt : j < N
    · have hltI : (j : Int) < (N : Int) := by omega
      obtain ⟨s, hsj⟩ : ∃ s, ns[j]? = some s := ⟨ns[j]'(by rw [HN.out]; exact hlt), List.getElem?_eq_getElem _⟩
      have DR : Hid (ns.drop j = s :: ns.drop (j + 1)) := Hid.intro (by
        obtain ⟨h1, h2⟩ := List.getElem?_eq_some_iff.1 hsj
        rw [List.drop_eq_getElem_cons h1, h2])
      obtain ⟨nb, no, hna, hnc⟩ := HX.out (fun e => by rw [e] at hsj; simp at hsj)
      subst hna
      have LL := LE.out _ SS.out.2.2.1
      have cs : wr.cell? ⟨nb, no + j, none⟩ = some (.string s) := by
        obtain ⟨_, _, e, _, hx⟩ := LL.2.2.2
        obtain ⟨nb', no', e', hc'⟩ := hx (fun e => by rw [e] at hsj; simp at hsj)
        cases e
        cases e'
        exact hc' j s hsj
      clear hsj LL hnc
      have DD : Hid (wr.cell? ⟨g, k * 2, none⟩ = some (.int .i64 (Mo.lst W).1) ∧ wr.cell? ⟨g, k * 2 + 1, none⟩ = some (.int .i64 (Mo.lst W).2)) := Hid.intro ⟨SS.out.1.cell k 0 _ LA.out (by omega), SS.out.1.cell k 1 _ LA.out (by omega)⟩
      by_cases bkS : (s.toList == [46, 46]) = true
      · have NX : Hid (WRow wr (rx + 1) (Mo.bk W) (.slice (some ⟨g, 0, none⟩) (max k 1) cap) ∧ (Mo.bk W).length = max k 1 ∧ ∀ W' E, Mo.WayTo F T.ms (ns.drop (j + 1)) (Mo.bk W) W' E → Mo.WayTo F T.ms ns [q0] W' E) := Hid.intro (by
          have r := SS.out.1
          rw [← HW.out] at r
          have c := r.cut (max k 1) (by rw [HW.out]; omega)
          have e : Mo.bk W = W.take (max k 1) := by unfold Mo.bk; rw [HW.out, Nat.add_sub_cancel]
          rw [e]
          refine ⟨c, by rw [List.length_take, HW.out]; omega, fun W' E h => SS.out.2.2.2 W' E ?_⟩
          rw [DR.out]
          exact .inl ⟨bkS, by rw [e]; exact h⟩)
        by_cases k0 : k = 0
        · subst k0
          rw [show max 0 1 = 1 from rfl] at NX
          go_wp2_with fail
          go_roundw
          case rel => exact ⟨j + 1, Mo.bk W, by go_num, by omega, by rw [NX.out.2.1]; omega, by rw [NX.out.2.1]; omega, Hid.intro ⟨NX.out.1, SS.out.2.1, SS.out.2.2.1, NX.out.2.2⟩⟩
          case measure => simp [intOf]; omega
        · rw [show max k 1 = k by omega] at NX
          have k1 : ¬ (k : Int) < 1 := by omega
          have k2 : (k : Int) ≤ (cap : Int) := by omega
          have k3 : (if (1 : Int) > (k : Int) then (1 : Int) else (k : Int)) = k := if_neg (by omega)
          have k4 : max (k : Int) 1 = k := by omega
          go_wp2_with fail
          go_roundw
          case rel => exact ⟨j + 1, Mo.bk W, by go_num, by omega, by rw [NX.out.2.1]; omega, by rw [NX.out.2.1]; omega, Hid.intro ⟨NX.out.1, SS.out.2.1, SS.out.2.2.1, NX.out.2.2⟩⟩
          case measure => simp [intOf]; omega
      · have bk' : (s.toList == [46, 46]) = false := by simpa using bkS
        clear bkS
        obtain ⟨d0, d1⟩ := DD.out
        obtain ⟨y, hy⟩ : ∃ y, Mo.lst W = y := ⟨_, rfl⟩
        have HY := Hid.intro hy
        rw [hy] at d0 d1
        clear hy DD
        go_wp2_with fail
        refine (step_any base b f T v F y s _ (LE.out _ SS.out.2.2.1).2.1 (LE.out _ SS.out.2.2.1).2.2.1 HT.out.2.2.1).mono ?_
        rintro e W4 ⟨K, E, rfl, hf, b4⟩
        have S4 : Hid (WRow W4 (rx + 1) W (.slice (some ⟨g, 0, none⟩) (k + 1) cap) ∧ WB W4 rx (0, 0) ∧ Below rx w W4) := Hid.intro ⟨SS.out.1.below b4, SS.out.2.1.below b4, SS.out.2.2.1.trans (b4.mono (LE.out _ SS.out.2.2.1).1)⟩
        have HFD := Hid.intro hf
        clear hf b4 d0 d1 cs
        by_cases e0 : E = 0
        · subst e0
          rw [show Mo.st y K 0 = (y.1, (K : Int)) from if_pos rfl, errV_zero]
          go_upto_region 9 with fail
          have A5 : Hid (WB (W4.alloc (.cells #[.int .i64 y.1, .int .i64 (K : Int)] 56)) W4.heap.size (y.1, (K : Int)) ∧ Below W4.heap.size W4 (W4.alloc (.cells #[.int .i64 y.1, .int .i64 (K : Int)] 56))) := Hid.intro ⟨heap_alloc_new W4 _, (Below.refl _ _).alloc (Nat.le_refl _) _⟩
          refine wp_gen (fun W' => WB W' W4.heap.size (y.1, (K : Int)) ∧ Below W4.heap.size W4 W') A5.out ?_
          rintro W5 ⟨n5, b5⟩
          have S5 : Hid (WRow W5 (rx + 1) W (.slice (some ⟨g, 0, none⟩) (k + 1) cap) ∧ WB W5 rx (0, 0) ∧ Below rx w W5) := Hid.intro ⟨S4.out.1.below b5, S4.out.2.1.below b5, S4.out.2.2.trans (b5.mono (LE.out _ S4.out.2.2).1)⟩
          have n0 := n5.c0
          have n1 := n5.c1
          clear n5 b5 A5
          generalize W4.heap.size = nx at *
          clear S4
          go_wp2_with fail
          refine (seen_any base b f T v (y.1, (K : Int)) _ (LE.out _ S5.out.2.2).2.1).mono ?_
          rintro e W6 ⟨rfl, b6⟩
          have S6 : Hid (WRow W6 (rx + 1) W (.slice (some ⟨g, 0, none⟩) (k + 1) cap) ∧ WB W6 rx (0, 0) ∧ Below rx w W6) := Hid.intro ⟨S5.out.1.below b6, S5.out.2.1.below b6, S5.out.2.2.trans (b6.mono (LE.out _ S5.out.2.2).1)⟩
          clear b6 n0 n1 S5
          obtain ⟨q, hq⟩ : ∃ q, Mo.sn T.ms (y.1, (K : Int)) = q := ⟨_, rfl⟩
          have NX : Hid (∀ W' E, Mo.WayTo F T.ms (ns.drop (j + 1)) (W ++ [q]) W' E → Mo.WayTo F T.ms ns [q0] W' E) := Hid.intro (fun W' E h => SS.out.2.2.2 W' E (by
            rw [DR.out]
            refine .inr ⟨bk', K, 0, by rw [HY.out]; exact HFD.out, .inr ⟨rfl, ?_⟩⟩
            rw [HY.out, hq]
            exact h))
          rw [hq]
          clear hq HFD
          have MORE : Hid (∀ g2 cap2 W7, W7.ownsRow (rx + 1) 56 2 (.slice (some ⟨g2, 0, none⟩) (k + 1 + 1) cap2) (k + 1 + 1) (Mo.wcs W ++ [.int .i64 q.1, .int .i64 q.2]) → (W6.alloc (.cells #[.int .i64 q.1, .int .i64 q.2] 56)).grownBy W7 (some g) → WRow W7 (rx + 1) (W ++ [q]) (.slice (some ⟨g2, 0, none⟩) (k + 1 + 1) cap2) ∧ WB W7 rx (0, 0) ∧ Below rx w W7) := Hid.intro (fun g2 cap2 W7 ho hg => by
            have gl := (S6.out.1.lt g rfl).1
            have rl := S6.out.2.1.lt
            have bl := S6.out.2.2
            have bz := (LE.out _ bl).1
            have aw : Below rx w (W6.alloc (.cells #[.int .i64 q.1, .int .i64 q.2] 56)) := bl.alloc bz _
            refine ⟨?_, ?_, aw.trans ⟨hg.os, hg.tape, hg.output, hg.size, fun n hn => hg.block n (by simp; omega) (fun e => by cases e; omega)⟩⟩
            · unfold WRow
              rw [Mo.wcs_app, Mo.wcs_one, List.length_append, List.length_singleton, HW.out]
              exact ho
            · have e1 := hg.block rx (by simp; omega) (fun e => by cases e; omega)
              have e2 : (W6.alloc (.cells #[.int .i64 q.1, .int .i64 q.2] 56)).heap[rx]? = W6.heap[rx]? := ((Below.refl W6.heap.size W6).alloc (Nat.le_refl _) _).block rx rl
              exact (e1.trans e2).trans S6.out.2.1)
          go_wp2_with (at_builtin; refine wpList_append_lies _ rfl _ _ 146 (by rfl) (rx + 1) 56 i0 z0 2 16 Tryz.underlying146 hi0 hz0 hz1 hz2 hz3 (by decide) (.slice (some ⟨g, 0, none⟩) (k + 1) cap) (k + 1) (Mo.wcs W) (by rfl) (by have := S6.out.1; unfold WRow at this; rw [HW.out] at this; exact this.alloc _) ⟨W6.heap.size, 0, none⟩ 1 1 [.int .i64 q.1, .int .i64 q.2] (by rfl) rfl (World.news_of_block (heap_alloc_new W6 _)) (by simp [Value.oneCell']) (by decide) (by unfold maxLen; omega) (by omega) (by have := S6.out.2.1.lt; simp; omega) (W6.heap.size + 1) (by simp) ?_; intro gg cap2 W7 hown hgrow hat hlt2; have Q1 := Hid.intro (MORE.out gg cap2 W7 hown hgrow); clear hown hgrow hat hlt2)
          go_roundw
          case rel => exact ⟨j + 1, W ++ [q], by go_num, by omega, by simp, by simp; have := HW.out; omega, Hid.intro ⟨Q1.out.1, Q1.out.2.1, Q1.out.2.2, NX.out⟩⟩
          case measure => simp [intOf]; omega
        · have FIN : Hid (Mo.WayTo F T.ms ns [q0] [(0, 0)] E ∧ errV E = .iface 83 (.int .i64 E)) := Hid.intro ⟨SS.out.2.2.2 _ _ (by rw [DR.out]; exact .inr ⟨bk', K, E, by rw [HY.out]; exact HFD.out, .inl ⟨e0, rfl, rfl⟩⟩), errV_ne e0⟩
          rw [show Mo.st y K E = (0, 0) from if_neg e0, FIN.out.2]
          clear e0 HFD
          go_upto_region 9 with fail
          refine wp_gen (fun W' => WB W' rx (0, 0) ∧ Below rx w W') (by
            have bb : Below W4.heap.size W4 (W4.alloc (.cells #[.int .i64 0, .int .i64 0] 56)) := (Below.refl _ _).alloc (Nat.le_refl _) _
            exact ⟨S4.out.2.1.below bb, S4.out.2.2.trans (bb.mono (LE.out _ S4.out.2.2).1)⟩) ?_
          rintro W5 h5
          have S5 := Hid.intro h5
          clear h5
          have y0 := S5.out.1.c0
          have y1 := S5.out.1.c1
          have yf := S5.out.1.fz
          have R : Hid (WB ((W5.setCell ⟨rx, 0, none⟩ (.int .i64 0)).setCell ⟨rx, 1, none⟩ (.int .i64 0)) rx (0, 0) ∧ Below rx w ((W5.setCell ⟨rx, 0, none⟩ (.int .i64 0)).setCell ⟨rx, 1, none⟩ (.int .i64 0))) := Hid.intro (by
            have := S5.out.1.set (0, 0)
            exact ⟨this.1, this.2.below S5.out.2 (Nat.le_refl _) (LE.out _ S5.out.2).1⟩)
          generalize W4.heap.size = nx at *
          go_wp2_with fail
          generalize hWF : (W5.setCell ⟨rx, 0, none⟩ (.int .i64 0)).setCell ⟨rx, 1, none⟩ (.int .i64 0) = WF at R ⊢
          have z0 := R.out.1.c0
          have z1 := R.out.1.c1
          refine bodyPost_ret (v := .tuple #[.agg #[.int .i64 0, .int .i64 0], .iface 83 (.int .i64 E)]) (by simp [results, Tryz.f74, go_sem, z0, z1]) rfl ?_
          rw [HRX.out, HQ.out]
          exact ⟨[(0, 0)], E, by rw [FIN.out.2]; rfl, FIN.out.1, R.out.2⟩
    · have hltI : ¬ (j : Int) < (N : Int) := by omega
      have FIN : Hid (Mo.WayTo F T.ms ns [q0] W 0) := Hid.intro (SS.out.2.2.2 W 0 (by rw [List.drop_of_length_le (by rw [HN.out]; omega)]; exact ⟨rfl, rfl⟩))
      have d0 : wr.cell? ⟨g, k * 2, none⟩ = some (.int .i64 (Mo.lst W).1) := SS.out.1.cell k 0 _ LA.out (by omega)
      have d1 : wr.cell? ⟨g, k * 2 + 1, none⟩ = some (.int .i64 (Mo.lst W).2) := SS.out.1.cell k 1 _ LA.out (by omega)
      have y0 := SS.out.2.1.c0
      have y1 := SS.out.2.1.c1
      have yf := SS.out.2.1.fz
      have R : Hid (WB ((wr.setCell ⟨rx, 0, none⟩ (.int .i64 (Mo.lst W).1)).setCell ⟨rx, 1, none⟩ (.int .i64 (Mo.lst W).2)) rx (Mo.lst W) ∧ Below rx w ((wr.setCell ⟨rx, 0, none⟩ (.int .i64 (Mo.lst W).1)).setCell ⟨rx, 1, none⟩ (.int .i64 (Mo.lst W).2))) := Hid.intro (by
        have := SS.out.2.1.set (Mo.lst W)
        exact ⟨this.1, this.2.below SS.out.2.2.1 (Nat.le_refl _) (LE.out _ SS.out.2.2.1).1⟩)
      obtain ⟨y, hy⟩ : ∃ y, Mo.lst W = y := ⟨_, rfl⟩
      have HY := Hid.intro hy
      rw [hy] at d0 d1 R
      clear hy
      go_wp2_with fail
      generalize hWF : (wr.setCell ⟨rx, 0, none⟩ (.int .i64 y.1)).setCell ⟨rx, 1, none⟩ (.int .i64 y.2) = WF at R ⊢
      have z0 := R.out.1.c0
      have z1 := R.out.1.c1
      refine bodyPost_ret (v := .tuple #[.agg #[.int .i64 y.1, .int .i64 y.2], .nilIface]) (by simp [results, Tryz.f74, go_sem, z0, z1]) rfl ?_
      rw [HRX.out, HQ.out]
      exact ⟨W, 0, by rw [HY.out]; rfl, FIN.out, R.out.2⟩
end Go.Proofs.YthdadmbpnoofoaaGreatDoor

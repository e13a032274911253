/- The document's own mounts: the table as it lies; seen. -/
import Derived.Test.YthdadmbpnoofoaaGreatDoorMf
import Derived.Test.YthdadmbpnoofoaaGreatDoorYf
import Derived.BigQuiet
namespace Go.Proofs.YthdadmbpnoofoaaGreatDoor
open Go.RowKit
open Tr (Fo Nd)
open Mo (Wh Mt Tb)

/-- The document's own table: the forest's block f, the root, the mounts. -/
structure RT (w : World) (base b f : Nat) (T : Tb) (v : Value) : Prop where
  blk : w.heap[b]? = some (.cells #[.pointer (some ⟨f, 0, none⟩), .int .i64 T.rt.1, .int .i64 T.rt.2, v] 60 (0, 0))
  row : MRow w base T.ms v
  six : T.ms.length ≤ 6
section
variable {w w' : World} {base b f : Nat} {T : Tb} {v : Value}
theorem RT.lt (h : RT w base b f T v) : b < w.heap.size := (Array.getElem?_eq_some_iff.1 h.blk).1
theorem RT.frozen (h : RT w base b f T v) (o : Nat) : w.frozen? ⟨b, o, none⟩ = false := frozen_blk h.blk o
theorem RT.c0 (h : RT w base b f T v) : w.cell? ⟨b, 0, none⟩ = some (.pointer (some ⟨f, 0, none⟩)) := by rw [cell_blk h.blk]; rfl
theorem RT.c1 (h : RT w base b f T v) : w.cell? ⟨b, 1, none⟩ = some (.int .i64 T.rt.1) := by rw [cell_blk h.blk]; rfl
theorem RT.c2 (h : RT w base b f T v) : w.cell? ⟨b, 2, none⟩ = some (.int .i64 T.rt.2) := by rw [cell_blk h.blk]; rfl
theorem RT.c3 (h : RT w base b f T v) : w.cell? ⟨b, 3, none⟩ = some v := by rw [cell_blk h.blk]; rfl
theorem RT.same (h : RT w base b f T v) (e : w'.heap[b]? = w.heap[b]?) (k : ∀ g, v.ownBlock = some g → w'.heap[g]? = w.heap[g]?) : RT w' base b f T v := ⟨e.trans h.blk, h.row.same k, h.six⟩
theorem RT.below (h : RT w base b f T v) (k : Below w.heap.size w w') : RT w' base b f T v := h.same (k.block b h.lt) (fun g e => k.block g (h.row.lt g e).2)
theorem RT.drewN (h : RT w base b f T v) (n : Nat) : RT (w.drewN n) base b f T v := h.same rfl (fun _ _ => rfl)
end
theorem Mo.lk_at {L : List Mt} {y : Wh} {i : Nat} {m : Mt} (hm : L[i]? = some m) (e : m.1 = y) (h : ∀ (j : Nat) (m' : Mt), j < i → L[j]? = some m' → m'.1 ≠ y) : Mo.lk L y = some m := by
  have d : Mo.MtdTo L y (i : Int) := .inl ⟨i, rfl, m, hm, e, h⟩
  rcases d.find with ⟨j, hj, _, m', hm', hl⟩ | ⟨c, _⟩
  · obtain rfl : i = j := by omega
    rw [hm] at hm'
    cases hm'
    exact hl
  · omega
theorem Mo.lk_no {L : List Mt} {y : Wh} (h : ∀ (j : Nat) (m' : Mt), L[j]? = some m' → m'.1 ≠ y) : Mo.lk L y = none := by
  have d : Mo.MtdTo L y (-1) := .inr ⟨rfl, h⟩
  rcases d.find with ⟨j, hj, _⟩ | ⟨_, hl⟩
  · omega
  · exact hl
set_option maxRecDepth 100000 in
set_option maxHeartbeats 2000000 in
theorem rseen_any (base b f : Nat) (T : Tb) (v : Value) (x : Wh) (w : World) (h : RT w base b f T v) :
    Calls Tryz.prog 108 #[.pointer (some ⟨b, 0, none⟩), .agg #[.int .i64 x.1, .int .i64 x.2]] w fun e w' => e = .returned (.agg #[.int .i64 (Mo.sn T.ms x).1, .int .i64 (Mo.sn T.ms x).2]) ∧ Below w.heap.size w w' := by
  have HT := Hid.intro h
  have BX := Hid.intro (boxes2 w x)
  obtain ⟨va, vc, hv⟩ := h.row.sl
  have HV := Hid.intro hv
  obtain ⟨N, hN⟩ : ∃ N, T.ms.length = N := ⟨_, rfl⟩
  have HN := Hid.intro hN
  have N6 : N ≤ 6 := by rw [← hN]; exact h.six
  rw [hN] at hv HV
  clear h hN
  go_enter Tryz.func108, Tryz.ntmps108
  go_upto_region 1 with fail
  refine wp_gen (fun W' => WB W' w.heap.size x ∧ WB W' (w.heap.size + 1) (0, 0) ∧ Below w.heap.size w W') BX.out ?_
  intro W1 h1
  have S1 : Hid (WB W1 w.heap.size x ∧ WB W1 (w.heap.size + 1) (0, 0) ∧ Below w.heap.size w W1) := Hid.intro h1
  clear h1 BX
  obtain ⟨bx, hbx⟩ : ∃ bx, w.heap.size = bx := ⟨_, rfl⟩
  have HBX := Hid.intro hbx
  have LE : Hid (∀ W, Below bx w W → bx ≤ W.heap.size ∧ RT W base b f T v) := Hid.intro (fun W h => by
    have e := h.size
    rw [hbx] at e
    subst hbx
    exact ⟨e, HT.out.below h⟩)
  rw [hbx] at S1 ⊢
  clear hbx HT
  go_wp2_with fail
  go_loopw [5, 6] (fun k _ wr => ∃ (j : Nat) (y : Wh), k = .int .i64 j ∧ j ≤ 6 ∧ Hid (WB wr bx y ∧ WB wr (bx + 1) (0, 0) ∧ Below bx w wr) ∧ Hid (Mo.snK T.ms (6 - j) y = Mo.sn T.ms x)) (fun k _ _ => 6 - (intOf k).toNat)
  case atStart => exact ⟨0, x, rfl, by omega, S1, Hid.intro rfl⟩
  case round =>
    clear S1
    obtain ⟨k, y, rfl, hk, S, SK⟩ := hrel
    by_cases hlt : k < 6
    · have hltI : (k : Int) < 6 := by omega
      go_wp2_with fail
      go_loopw [6] (fun i wq => ∃ (n : Nat), i = .int .i64 n ∧ n ≤ N ∧ Hid (WB wq bx y ∧ WB wq (bx + 1) (0, 0) ∧ Below bx w wq) ∧ Hid (∀ (j : Nat) (m' : Mt), j < n → T.ms[j]? = some m' → m'.1 ≠ y)) (fun i _ => N - (intOf i).toNat)
      case atStart => exact ⟨0, rfl, by omega, S, Hid.intro (fun j _ hj => by omega)⟩
      case round =>
        clear S
        obtain ⟨n, rfl, hn, S, NO⟩ := hrel
        have T1 := Hid.intro (LE.out _ S.out.2.2).2
        have c3 := T1.out.c3
        rw [HV.out] at c3
        have DRW : Hid (∀ q, WB (wr.drewN q) bx y ∧ WB (wr.drewN q) (bx + 1) (0, 0) ∧ Below bx w (wr.drewN q)) := Hid.intro (fun q => ⟨S.out.1, S.out.2.1, ⟨S.out.2.2.os, S.out.2.2.tape, S.out.2.2.output, S.out.2.2.size, S.out.2.2.block⟩⟩)
        by_cases hlt2 : n < N
        · have hltJ : (n : Int) < (N : Int) := by omega
          obtain ⟨m, hm⟩ : ∃ m, T.ms[n]? = some m := ⟨T.ms[n]'(by rw [HN.out]; exact hlt2), List.getElem?_eq_getElem _⟩
          obtain ⟨g, cap, hvg⟩ : ∃ g cap, Value.slice va N vc = .slice (some ⟨g, 0, none⟩) N cap := by
            rcases T1.out.row.form with ⟨_, h⟩ | ⟨g, cap, h, _⟩
            · have := HN.out; rw [h] at this; simp at this; omega
            · rw [HN.out, HV.out] at h; exact ⟨g, cap, h⟩
          cases hvg
          have RR := T1.out.row
          rw [HV.out] at RR
          have d0 : wr.cell? ⟨g, n * 4, none⟩ = some (.int .i64 m.1.1) := RR.cell n 0 m hm (by omega)
          have d1 : wr.cell? ⟨g, n * 4 + 1, none⟩ = some (.int .i64 m.1.2) := RR.cell n 1 m hm (by omega)
          have d2 : wr.cell? ⟨g, n * 4 + 2, none⟩ = some (.int .i64 m.2.1) := RR.cell n 2 m hm (by omega)
          have d3 : wr.cell? ⟨g, n * 4 + 3, none⟩ = some (.int .i64 m.2.2) := RR.cell n 3 m hm (by omega)
          have q0 := S.out.1.c0
          have q1 := S.out.1.c1
          have qf := S.out.1.fz
          have HM := Hid.intro hm
          have SET : Hid (∀ q, WB (((wr.drewN q).setCell ⟨bx, 0, none⟩ (.int .i64 m.2.1)).setCell ⟨bx, 1, none⟩ (.int .i64 m.2.2)) bx m.2 ∧ WB (((wr.drewN q).setCell ⟨bx, 0, none⟩ (.int .i64 m.2.1)).setCell ⟨bx, 1, none⟩ (.int .i64 m.2.2)) (bx + 1) (0, 0) ∧ Below bx w (((wr.drewN q).setCell ⟨bx, 0, none⟩ (.int .i64 m.2.1)).setCell ⟨bx, 1, none⟩ (.int .i64 m.2.2))) := Hid.intro (fun q => by
            have := (DRW.out q).1.set m.2
            exact ⟨this.1, (DRW.out q).2.1.same (this.2.block _ (DRW.out q).2.1.lt (by omega)), this.2.below (DRW.out q).2.2 (Nat.le_refl _) (LE.out _ (DRW.out q).2.2).1⟩)
          clear hm RR S
          by_cases e1 : m.1.1 = y.1
          · by_cases e2 : m.1.2 = y.2
            · have NX : Hid (Mo.snK T.ms (6 - (k + 1)) m.2 = Mo.sn T.ms x) := Hid.intro (by
                rw [← SK.out, show 6 - k = (6 - (k + 1)) + 1 by omega, Mo.snK_some (Mo.lk_at HM.out (Prod.ext e1 e2) NO.out)])
              rw [e1] at d0
              rw [e2] at d1
              clear e1 e2
              go_wp2_with fail
              go_quiet (fail)
              go_wp2_with fail
              go_roundw
              case rel => exact ⟨k + 1, m.2, by go_num, by omega, Hid.intro (SET.out _), NX⟩
              case measure => simp [intOf]; omega
            · have NX : Hid (∀ (j : Nat) (m' : Mt), j < n + 1 → T.ms[j]? = some m' → m'.1 ≠ y) := Hid.intro (fun j m' hj hm' => by
                by_cases d : j = n
                · subst d
                  rw [HM.out] at hm'
                  cases hm'
                  exact fun h => e2 (by rw [h])
                · exact NO.out j m' (by omega) hm')
              have e2' : (m.1.2 == y.2) = false := by simpa using e2
              rw [e1] at d0
              clear e1 e2
              go_wp2_with fail
              go_quiet (fail)
              go_wp2_with fail
              go_roundw
              case rel => exact ⟨n + 1, by go_num, by omega, Hid.intro (DRW.out _), NX⟩
              case measure => simp [intOf]; omega
          · have NX : Hid (∀ (j : Nat) (m' : Mt), j < n + 1 → T.ms[j]? = some m' → m'.1 ≠ y) := Hid.intro (fun j m' hj hm' => by
              by_cases d : j = n
              · subst d
                rw [HM.out] at hm'
                cases hm'
                exact fun h => e1 (by rw [h])
              · exact NO.out j m' (by omega) hm')
            have e1' : (m.1.1 == y.1) = false := by simpa using e1
            clear e1
            go_wp2_with fail
            go_quiet (fail)
            go_wp2_with fail
            go_roundw
            case rel => exact ⟨n + 1, by go_num, by omega, Hid.intro (DRW.out _), NX⟩
            case measure => simp [intOf]; omega
        · have hltJ : ¬ (n : Int) < (N : Int) := by omega
          have NX : Hid (Mo.snK T.ms (6 - (k + 1)) y = Mo.sn T.ms x) := Hid.intro (by
            have hl := Mo.lk_no (L := T.ms) (y := y) (fun j m' hm' => NO.out j m' (by have := (List.getElem?_eq_some_iff.1 hm').1; rw [HN.out] at this; omega) hm')
            rw [← SK.out, Mo.snK_none hl, Mo.snK_none hl])
          go_wp2_with fail
          go_roundw
          case rel => exact ⟨k + 1, y, by go_num, by omega, S, NX⟩
          case measure => simp [intOf]; omega
    · have hltI : ¬ (k : Int) < 6 := by omega
      have FIN : Hid (Mo.sn T.ms x = y) := Hid.intro (by rw [← SK.out, show 6 - k = 0 by omega]; rfl)
      have x0 := S.out.1.c0
      have x1 := S.out.1.c1
      have y0 := S.out.2.1.c0
      have y1 := S.out.2.1.c1
      have yf := S.out.2.1.fz
      have R : Hid (WB ((wr.setCell ⟨bx + 1, 0, none⟩ (.int .i64 y.1)).setCell ⟨bx + 1, 1, none⟩ (.int .i64 y.2)) (bx + 1) y ∧ Below bx w ((wr.setCell ⟨bx + 1, 0, none⟩ (.int .i64 y.1)).setCell ⟨bx + 1, 1, none⟩ (.int .i64 y.2))) := Hid.intro (by
        have := S.out.2.1.set y
        exact ⟨this.1, this.2.below S.out.2.2 (by omega) (LE.out _ S.out.2.2).1⟩)
      go_wp2_with fail
      generalize hWF : (wr.setCell ⟨bx + 1, 0, none⟩ (.int .i64 y.1)).setCell ⟨bx + 1, 1, none⟩ (.int .i64 y.2) = WF at R ⊢
      have z0 := R.out.1.c0
      have z1 := R.out.1.c1
      refine bodyPost_ret (v := .agg #[.int .i64 y.1, .int .i64 y.2]) (by simp [results, Tryz.f108, go_sem, z0, z1]) rfl ?_
      rw [FIN.out, HBX.out]
      exact ⟨rfl, R.out.2⟩
end Go.Proofs.YthdadmbpnoofoaaGreatDoor

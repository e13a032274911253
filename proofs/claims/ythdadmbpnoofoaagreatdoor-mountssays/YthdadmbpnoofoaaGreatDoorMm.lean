/- The code's table: Bind. -/
import Derived.Test.YthdadmbpnoofoaaGreatDoorMl
import Derived.Deep.RegionLaw
namespace Go.Proofs.YthdadmbpnoofoaaGreatDoor
open Go.RowKit
open Tr (Fo Nd)
open Mo (Wh Mt Tb)

/-- Both places, in a row. -/
def PB2 (w : World) (c : Nat) (x y : Wh) : Prop := w.heap[c]? = some (.cells #[.int .i64 x.1, .int .i64 x.2, .int .i64 y.1, .int .i64 y.2] 56 (0, 0))
theorem PB2.lt {w : World} {c : Nat} {x y : Wh} (h : PB2 w c x y) : c < w.heap.size := (Array.getElem?_eq_some_iff.1 h).1
theorem PB2.below {w w' : World} {c : Nat} {x y : Wh} (h : PB2 w c x y) (k : Below w.heap.size w w') : PB2 w' c x y := (k.block c h.lt).trans h
/-- What a Bind leaves of a slice: the same block, or a new one. -/
def Nw (w : World) (v v' : Value) : Prop := v'.ownBlock = v.ownBlock ∨ ∀ g, v'.ownBlock = some g → w.heap.size ≤ g
set_option maxRecDepth 100000 in
set_option maxHeartbeats 4000000 in
theorem bind_any (base b f K : Nat) (T : Tb) (v : Value) (F : Fo) (x y : Wh) (w : World) (h : TAt w base b f T v) (hF : FAt w f F) (hb : Tr.Hb F K) (hK : K < 800) (hbs : base ≤ w.heap.size) :
    Calls Tryz.prog 52 #[.pointer (some ⟨b, 0, none⟩), .agg #[.int .i64 x.1, .int .i64 x.2], .agg #[.int .i64 y.1, .int .i64 y.2]] w fun e w' => ∃ v', e = .returned (errV (Mo.binE F T x y)) ∧ TAt w' base b f (Mo.binT F T x y) v' ∧ FAt w' f (Mo.binF F T x y) ∧ Onl (BV b f v) w w' ∧ Nw w v v' := by
  have HT := Hid.intro (And.intro h hF)
  have HB := Hid.intro (And.intro hb hbs)
  clear h hF hb hbs
  obtain ⟨i0, z0, hi0, hz0, hz1, hz2, hz3⟩ := infoMt
  have B2 : Hid (WB ((w.alloc (.cells #[.int .i64 x.1, .int .i64 x.2] 56)).alloc (.cells #[.int .i64 y.1, .int .i64 y.2] 56)) w.heap.size x ∧ WB ((w.alloc (.cells #[.int .i64 x.1, .int .i64 x.2] 56)).alloc (.cells #[.int .i64 y.1, .int .i64 y.2] 56)) (w.heap.size + 1) y ∧ Below w.heap.size w ((w.alloc (.cells #[.int .i64 x.1, .int .i64 x.2] 56)).alloc (.cells #[.int .i64 y.1, .int .i64 y.2] 56))) := Hid.intro (by
    refine ⟨?_, ?_, ((Below.refl _ w).alloc (Nat.le_refl _) _).alloc (by simp) _⟩
    · show ((w.heap.push _).push _)[w.heap.size]? = _
      simp only [Array.getElem?_push, Array.size_push]
      rw [if_neg (by omega), if_pos trivial]
    · show ((w.heap.push _).push _)[w.heap.size + 1]? = _
      simp only [Array.getElem?_push, Array.size_push]
      rw [if_pos trivial])
  go_enter Tryz.func52, Tryz.ntmps52
  go_upto_region 1 with fail
  refine wp_gen (fun W' => WB W' w.heap.size x ∧ WB W' (w.heap.size + 1) y ∧ Below w.heap.size w W') B2.out ?_
  intro W1 h1
  obtain ⟨bx, hbx⟩ : ∃ bx, w.heap.size = bx := ⟨_, rfl⟩
  have HBX := Hid.intro hbx
  have LE : Hid (∀ W, Below bx w W → bx ≤ W.heap.size ∧ TAt W base b f T v ∧ FAt W f F) := Hid.intro (fun W h => by
    have e := h.size
    subst hbx
    exact ⟨e, HT.out.1.below h, HT.out.2.below h⟩)
  rw [hbx] at h1 ⊢
  have S1 := Hid.intro h1
  clear h1 B2 hbx
  have x0 := S1.out.1.c0
  have x1 := S1.out.1.c1
  have y0 := S1.out.2.1.c0
  have y1 := S1.out.2.1.c1
  have A2 : Hid (WB (W1.alloc (.cells #[.int .i64 x.1, .int .i64 x.2, .int .i64 y.1, .int .i64 y.2] 56)) bx x ∧ WB (W1.alloc (.cells #[.int .i64 x.1, .int .i64 x.2, .int .i64 y.1, .int .i64 y.2] 56)) (bx + 1) y ∧ PB2 (W1.alloc (.cells #[.int .i64 x.1, .int .i64 x.2, .int .i64 y.1, .int .i64 y.2] 56)) W1.heap.size x y ∧ Below bx w (W1.alloc (.cells #[.int .i64 x.1, .int .i64 x.2, .int .i64 y.1, .int .i64 y.2] 56))) := Hid.intro (by
    have bb : Below W1.heap.size W1 (W1.alloc (.cells #[.int .i64 x.1, .int .i64 x.2, .int .i64 y.1, .int .i64 y.2] 56)) := (Below.refl _ _).alloc (Nat.le_refl _) _
    exact ⟨S1.out.1.below bb, S1.out.2.1.below bb, heap_alloc_new W1 _, S1.out.2.2.trans (bb.mono (LE.out _ S1.out.2.2).1)⟩)
  go_wp2_with fail
  generalize W1.alloc (.cells #[.int .i64 x.1, .int .i64 x.2, .int .i64 y.1, .int .i64 y.2] 56) = W2 at *
  generalize W1.heap.size = sx at *
  clear x0 x1 y0 y1 S1
  go_loopw [8, 9, 15] (fun _ _ i wr => ∃ j : Nat, i = .int .i64 j ∧ j ≤ 2 ∧ Hid (WB wr bx x ∧ WB wr (bx + 1) y ∧ PB2 wr sx x y ∧ Below bx w wr ∧ (0 < j → Mo.wroE F x = 0) ∧ (1 < j → Mo.wroE F y = 0))) (fun _ _ i _ => 2 - (intOf i).toNat)
  case atStart => exact ⟨0, rfl, by omega, Hid.intro ⟨A2.out.1, A2.out.2.1, A2.out.2.2.1, A2.out.2.2.2, fun h => absurd h (by omega), fun h => absurd h (by omega)⟩⟩
  case round =>
    clear A2
    obtain ⟨j, rfl, hj, S⟩ := hrel
    by_cases hlt : j < 2
    · have hltI : (j : Int) < 2 := by omega
      have STEP : Hid (∀ q : Wh, (j = 0 → q = x) → (j = 1 → q = y) → True) := Hid.intro (fun _ _ _ => trivial)
      obtain ⟨q, hq0, hq1, cq0, cq1⟩ : ∃ q : Wh, (j = 0 → q = x) ∧ (j = 1 → q = y) ∧ wr.cell? ⟨sx, j * 2, none⟩ = some (.int .i64 q.1) ∧ wr.cell? ⟨sx, j * 2 + 1, none⟩ = some (.int .i64 q.2) := by
        have p := S.out.2.2.1
        rcases (show j = 0 ∨ j = 1 by omega) with rfl | rfl
        · exact ⟨x, fun _ => rfl, fun h => by omega, act_cells p 0 _ rfl, act_cells p 1 _ rfl⟩
        · exact ⟨y, fun h => by omega, fun _ => rfl, act_cells p 2 _ rfl, act_cells p 3 _ rfl⟩
      have HQ := Hid.intro (And.intro hq0 hq1)
      clear hq0 hq1 STEP
      go_upto_region 4 with fail
      refine wp_gen (fun W' => WB W' wr.heap.size q ∧ Below wr.heap.size wr W') ⟨heap_alloc_new wr _, (Below.refl _ _).alloc (Nat.le_refl _) _⟩ ?_
      rintro W3 ⟨q3, b3⟩
      have S3 : Hid (WB W3 bx x ∧ WB W3 (bx + 1) y ∧ PB2 W3 sx x y ∧ Below bx w W3) := Hid.intro ⟨S.out.1.below b3, S.out.2.1.below b3, S.out.2.2.1.below b3, S.out.2.2.2.1.trans (b3.mono (LE.out _ S.out.2.2.2.1).1)⟩
      have n0 := q3.c0
      have n1 := q3.c1
      clear q3 b3 cq0 cq1
      generalize wr.heap.size = qx at *
      go_wp2_with fail
      refine (wrong_any base b f T v F q _ (LE.out _ S3.out.2.2.2).2.1 (LE.out _ S3.out.2.2.2).2.2).mono ?_
      rintro e W4 ⟨rfl, b4⟩
      have S4 : Hid (WB W4 bx x ∧ WB W4 (bx + 1) y ∧ PB2 W4 sx x y ∧ Below bx w W4) := Hid.intro ⟨S3.out.1.below b4, S3.out.2.1.below b4, S3.out.2.2.1.below b4, S3.out.2.2.2.trans (b4.mono (LE.out _ S3.out.2.2.2).1)⟩
      clear b4 n0 n1 S3
      by_cases e0 : Mo.wroE F q = 0
      · have NX : Hid ((0 < j + 1 → Mo.wroE F x = 0) ∧ (1 < j + 1 → Mo.wroE F y = 0)) := Hid.intro (by
          rcases (show j = 0 ∨ j = 1 by omega) with rfl | rfl
          · exact ⟨fun _ => by rw [← HQ.out.1 rfl]; exact e0, fun h => by omega⟩
          · exact ⟨fun _ => S.out.2.2.2.2.1 (by omega), fun _ => by rw [← HQ.out.2 rfl]; exact e0⟩)
        rw [e0, errV_zero]
        clear e0
        go_wp2_with fail
        go_roundw
        case rel => exact ⟨j + 1, by go_num, by omega, Hid.intro ⟨S4.out.1, S4.out.2.1, S4.out.2.2.1, S4.out.2.2.2, NX.out⟩⟩
        case measure => simp [intOf]; omega
      · have FIN : Hid (Mo.binE F T x y = Mo.wroE F q ∧ errV (Mo.wroE F q) = .iface 83 (.int .i64 (Mo.wroE F q)) ∧ Mo.binT F T x y = T ∧ Mo.binF F T x y = F) := Hid.intro (by
          have e : Mo.binE F T x y = Mo.wroE F q := by
            unfold Mo.binE
            rcases (show j = 0 ∨ j = 1 by omega) with rfl | rfl
            · rw [← HQ.out.1 rfl, if_pos e0]
            · rw [S.out.2.2.2.2.1 (by omega), if_neg (fun d => d rfl), ← HQ.out.2 rfl, if_pos e0]
          exact ⟨e, errV_ne e0, if_neg (by rw [e]; exact e0), if_neg (by rw [e]; exact e0)⟩)
        rw [FIN.out.2.1]
        clear e0
        go_wp2_with fail
        go_ret
        rw [FIN.out.1, FIN.out.2.1, FIN.out.2.2.1, FIN.out.2.2.2]
        exact ⟨v, rfl, (LE.out _ S4.out.2.2.2).2.1, (LE.out _ S4.out.2.2.2).2.2, Onl.of_below (by rw [HBX.out]; exact S4.out.2.2.2), .inl rfl⟩
    · have hltI : ¬ (j : Int) < 2 := by omega
      have WX : Hid (Mo.wroE F x = 0 ∧ Mo.wroE F y = 0) := Hid.intro ⟨S.out.2.2.2.2.1 (by omega), S.out.2.2.2.2.2 (by omega)⟩
      have x0 := S.out.1.c0
      have x1 := S.out.1.c1
      have y0 := S.out.2.1.c0
      have y1 := S.out.2.1.c1
      have DONE : Hid (∀ E : Int, Mo.binE F T x y = E → E ≠ 0 → Mo.binT F T x y = T ∧ Mo.binF F T x y = F) := Hid.intro (fun E e n => ⟨if_neg (by rw [e]; exact n), if_neg (by rw [e]; exact n)⟩)
      have BE : Hid (Mo.binE F T x y = if x = y then 8 else if (Mo.lk T.ms x).isSome = true then 3 else if T.ms.length = 6 then 4 else 0) := Hid.intro (by unfold Mo.binE; rw [WX.out.1, WX.out.2]; simp)
      by_cases exy : x = y
      · have E8 : Hid (Mo.binE F T x y = 8) := Hid.intro (by rw [BE.out, if_pos exy])
        have D8 := Hid.intro (DONE.out 8 E8.out (by decide))
        have y0' : wr.cell? ⟨bx + 1, 0, none⟩ = some (.int .i64 x.1) := by rw [exy]; exact y0
        have y1' : wr.cell? ⟨bx + 1, 1, none⟩ = some (.int .i64 x.2) := by rw [exy]; exact y1
        clear y0 y1 exy
        go_wp2_with fail
        go_ret
        rw [E8.out, D8.out.1, D8.out.2]
        exact ⟨rfl, v, (LE.out _ S.out.2.2.2.1).2.1, (LE.out _ S.out.2.2.2.1).2.2, Onl.of_below (by rw [HBX.out]; exact S.out.2.2.2.1), .inl rfl⟩
      · rw [if_neg exy] at BE
        go_upto_region 8 with fail
        go_cut [26] from 27 to 29 (fun s wx => s = .bool false ∧ wx = wr)
        case first =>
          by_cases e1 : x.1 = y.1
          · have e2 : ¬ x.2 = y.2 := fun e2 => exy (Prod.ext e1 e2)
            have e2' : (x.2 == y.2) = false := by simpa using e2
            have y0' : wr.cell? ⟨bx + 1, 0, none⟩ = some (.int .i64 x.1) := by rw [e1]; exact y0
            clear y0 e1
            go_wp2_with fail
            go_meet
            case rel => exact ⟨rfl, rfl⟩
          · have e1' : (x.1 == y.1) = false := by simpa using e1
            go_wp2_with fail
            go_meet
            case rel => exact ⟨rfl, rfl⟩
        case rest =>
          obtain ⟨rfl, hwc⟩ := hcut
          subst hwc
          clear y0 y1 exy
          go_wp2_with fail
          refine (mounted_any base b f T v x _ (LE.out _ S.out.2.2.2.1).2.1).mono ?_
          rintro e W3 ⟨z, rfl, hz, b3⟩
          have S3 : Hid (WB W3 bx x ∧ WB W3 (bx + 1) y ∧ Below bx w W3) := Hid.intro ⟨S.out.1.below b3, S.out.2.1.below b3, S.out.2.2.2.1.trans (b3.mono (LE.out _ S.out.2.2.2.1).1)⟩
          clear b3 x0 x1 S
          rcases hz.find with ⟨i, rfl, il, m, hm, hl⟩ | ⟨rfl, hl⟩
          · have E3 : Hid (Mo.binE F T x y = 3) := Hid.intro (by rw [BE.out, hl]; rfl)
            have D3 := Hid.intro (DONE.out 3 E3.out (by decide))
            have i0 : (0 : Int) ≤ (i : Int) := by omega
            clear hz hl hm il
            go_wp2_with fail
            go_ret
            rw [E3.out, D3.out.1, D3.out.2]
            first
              | exact ⟨v, rfl, (LE.out _ S3.out.2.2).2.1, (LE.out _ S3.out.2.2).2.2, Onl.of_below (by rw [HBX.out]; exact S3.out.2.2), .inl rfl⟩
              | exact ⟨rfl, v, (LE.out _ S3.out.2.2).2.1, (LE.out _ S3.out.2.2).2.2, Onl.of_below (by rw [HBX.out]; exact S3.out.2.2), .inl rfl⟩
          · rw [hl, Option.isSome_none, if_neg (by decide)] at BE
            clear hz hl
            have T3 := Hid.intro (LE.out _ S3.out.2.2).2
            obtain ⟨va, vc, hv⟩ := T3.out.1.row.sl
            have HV := Hid.intro hv
            have c3 := T3.out.1.c3
            rw [hv] at c3
            obtain ⟨N, hN⟩ : ∃ N, T.ms.length = N := ⟨_, rfl⟩
            have HN := Hid.intro hN
            have N6 : N ≤ 6 := by have := T3.out.1.six; omega
            rw [hN] at c3 BE
            clear hv hN
            by_cases n6 : N = 6
            · have E4 : Hid (Mo.binE F T x y = 4) := Hid.intro (by rw [BE.out, if_pos n6])
              have D4 := Hid.intro (DONE.out 4 E4.out (by decide))
              have n6' : ((N : Int) == 6) = true := by simp; omega
              clear n6
              go_wp2_with fail
              go_ret
              rw [E4.out, D4.out.1, D4.out.2]
              first
                | exact ⟨v, rfl, T3.out.1, T3.out.2, Onl.of_below (by rw [HBX.out]; exact S3.out.2.2), .inl rfl⟩
                | exact ⟨rfl, v, T3.out.1, T3.out.2, Onl.of_below (by rw [HBX.out]; exact S3.out.2.2), .inl rfl⟩
            · have E0 : Hid (Mo.binE F T x y = 0 ∧ Mo.binT F T x y = ⟨T.rt, T.ms ++ [(x, y)]⟩ ∧ Mo.binF F T x y = Mo.hoM F (x, y)) := Hid.intro (by
                have e : Mo.binE F T x y = 0 := by rw [BE.out, if_neg n6]
                exact ⟨e, if_pos e, if_pos e⟩)
              have n6' : ((N : Int) == 6) = false := by simp; omega
              have N5 : N ≤ 5 := by omega
              have x0 := S3.out.1.c0
              have x1 := S3.out.1.c1
              have y0 := S3.out.2.1.c0
              have y1 := S3.out.2.1.c1
              clear n6 BE DONE
              go_upto_region 15 with fail
              refine wp_gen (fun W' => MB W' W3.heap.size (x, y) ∧ Below W3.heap.size W3 W') ⟨heap_alloc_new W3 _, (Below.refl _ _).alloc (Nat.le_refl _) _⟩ ?_
              rintro W4 ⟨m4, b4⟩
              have S4 : Hid (MB W4 W3.heap.size (x, y) ∧ Below bx w W4 ∧ TAt W4 base b f T v ∧ FAt W4 f F) := Hid.intro (by
                have bb := S3.out.2.2.trans (b4.mono (LE.out _ S3.out.2.2).1)
                exact ⟨m4, bb, (LE.out _ bb).2⟩)
              have GL : Hid ((∀ g, v.ownBlock = some g → g < W3.heap.size) ∧ W3.heap.size < W4.heap.size) := Hid.intro ⟨fun g e => (T3.out.1.row.lt g e).2, m4.lt⟩
              clear m4 b4 c3 x0 x1 y0 y1 T3 S3
              generalize W3.heap.size = mx at *
              have m0 : W4.cell? ⟨mx, 0, none⟩ = some (.int .i64 x.1) := S4.out.1.c0
              have m1 : W4.cell? ⟨mx, 1, none⟩ = some (.int .i64 x.2) := S4.out.1.c1
              have m2 : W4.cell? ⟨mx, 2, none⟩ = some (.int .i64 y.1) := S4.out.1.c2
              have m3 : W4.cell? ⟨mx, 3, none⟩ = some (.int .i64 y.2) := S4.out.1.c3
              have c3 := S4.out.2.2.1.c3
              rw [HV.out, HN.out] at c3
              have lb := S4.out.2.2.1.lt
              have nbb : b ≠ W4.heap.size := by omega
              have OWN : Hid ((W4.alloc (.cells #[.int .i64 x.1, .int .i64 x.2, .int .i64 y.1, .int .i64 y.2] 105)).drew.ownsRow base 105 4 (.slice va N vc) N (Mo.mcs T.ms)) := Hid.intro (by
                have r := S4.out.2.2.1.row
                unfold MRow at r
                rw [HV.out, HN.out] at r
                exact r.alloc _)
              have NEWS : Hid (∀ j u, [Value.int .i64 x.1, .int .i64 x.2, .int .i64 y.1, .int .i64 y.2][j]? = some u → (W4.alloc (.cells #[.int .i64 x.1, .int .i64 x.2, .int .i64 y.1, .int .i64 y.2] 105)).drew.cell? ((⟨W4.heap.size, 0, none⟩ : Addr).add j) = some u) := Hid.intro (World.news_of_block (w := (W4.alloc (.cells #[.int .i64 x.1, .int .i64 x.2, .int .i64 y.1, .int .i64 y.2] 105)).drew) (heap_alloc_new W4 (.cells #[.int .i64 x.1, .int .i64 x.2, .int .i64 y.1, .int .i64 y.2] 105)))
              have BASE : Hid (base ≤ W4.heap.size) := Hid.intro (by have h1 := (LE.out _ S4.out.2.1).1; have h2 := HB.out.2; have h3 := HBX.out; omega)
              have AFT : Hid (∀ g2 cap2 W5, W5.ownsRow base 105 4 (.slice (some ⟨g2, 0, none⟩) (N + 1) cap2) (N + 1) (Mo.mcs T.ms ++ [Value.int .i64 x.1, .int .i64 x.2, .int .i64 y.1, .int .i64 y.2]) → (W4.alloc (.cells #[.int .i64 x.1, .int .i64 x.2, .int .i64 y.1, .int .i64 y.2] 105)).drew.grownBy W5 (Value.slice va N vc).ownBlock → ((Value.slice va N vc).ownBlock = some g2 ∨ g2 = W4.heap.size + 1) →
                  W5.cell? ⟨b, 3, none⟩ = some (.slice va N vc) ∧ W5.frozen? ⟨b, 3, none⟩ = false ∧ MB (W5.setCell ⟨b, 3, none⟩ (.slice (some ⟨g2, 0, none⟩) (N + 1) cap2)) mx (x, y) ∧ TAt (W5.setCell ⟨b, 3, none⟩ (.slice (some ⟨g2, 0, none⟩) (N + 1) cap2)) base b f ⟨T.rt, T.ms ++ [(x, y)]⟩ (.slice (some ⟨g2, 0, none⟩) (N + 1) cap2) ∧ FAt (W5.setCell ⟨b, 3, none⟩ (.slice (some ⟨g2, 0, none⟩) (N + 1) cap2)) f F ∧ Onl (BV b f v) w (W5.setCell ⟨b, 3, none⟩ (.slice (some ⟨g2, 0, none⟩) (N + 1) cap2)) ∧ Nw w v (.slice (some ⟨g2, 0, none⟩) (N + 1) cap2)) := Hid.intro (fun g2 cap2 W5 ho hg ha => by
                have lt := S4.out.2.2.1.lt
                have gne := S4.out.2.2.1.neb
                have fne := S4.out.2.2.1.ne S4.out.2.2.2
                rw [HV.out, HN.out] at gne fne
                have al : ∀ k, k < W4.heap.size → (W4.alloc (.cells #[.int .i64 x.1, .int .i64 x.2, .int .i64 y.1, .int .i64 y.2] 105)).heap[k]? = W4.heap[k]? := fun k hk => ((Below.refl W4.heap.size W4).alloc (Nat.le_refl _) _).block k hk
                have bk : ∀ k, k < W4.heap.size → (∀ g, (Value.slice va N vc).ownBlock = some g → g ≠ k) → W5.heap[k]? = W4.heap[k]? := fun k hk hn => (hg.block k (by show k < (W4.alloc _).heap.size; simp; omega) (fun e => hn k e.symm rfl)).trans (al k hk)
                have B5 := (bk b lt gne).trans S4.out.2.2.1.blk
                have g2b : g2 ≠ b := by
                  rcases ha with e | e
                  · exact gne g2 e
                  · omega
                have MBne : mx ≠ b := blk_ne S4.out.1 S4.out.2.2.1.blk (by decide)
                have O5 : Onl (BV b f v) w W5 := by
                  have o4 : Onl (BV b f v) w W4 := Onl.of_below (by rw [HBX.out]; exact S4.out.2.1)
                  refine o4.trans ⟨hg.os, hg.tape, hg.output, Nat.le_trans (by simp) hg.size, fun k hk hn => bk k hk (fun g e h => ?_)⟩
                  subst h
                  exact hn (.inr (.inr (by rw [HV.out, HN.out]; exact e)))
                refine ⟨by rw [cell_blk B5]; show some v = _; rw [HV.out, HN.out], frozen_blk B5 3, ?_, TAt.setM B5 ?_ ?_ (fun g' e => by cases e; exact g2b), (S4.out.2.2.2.same (bk f S4.out.2.2.2.lt fne.2)).same (setBlk _ _ _ _ (Ne.symm fne.1)), O5.setCell (.inl rfl) _ _, ?_⟩
                · exact (setBlk _ _ _ _ MBne).trans ((bk mx S4.out.1.lt (fun g e => by have := GL.out.1 g (by rw [HV.out, HN.out]; exact e); omega)).trans S4.out.1)
                · unfold MRow
                  rw [Mo.mcs_app, Mo.mcs_one, List.length_append, List.length_singleton, HN.out]
                  exact ho
                · rw [List.length_append, List.length_singleton, HN.out]; omega
                · rcases ha with e | e
                  · exact .inl (by rw [HV.out, HN.out]; exact e.symm)
                  · exact .inr (fun g' e' => by
                      cases e'
                      show w.heap.size ≤ g2
                      have h1 := (LE.out _ S4.out.2.1).1
                      have h2 := HBX.out
                      omega))
              go_region_law (refine step_append_lies _ rfl (.tmp 52) (.tmp 54) 58 rfl base 105 i0 z0 4 32 Tryz.underlying58 hi0 hz0 hz1 hz2 hz3 (by decide) (.slice va N vc) N (Mo.mcs T.ms) (by simp [Act.eval]) OWN.out ⟨W4.heap.size, 0, none⟩ 1 1 [.int .i64 x.1, .int .i64 x.2, .int .i64 y.1, .int .i64 y.2] (by simp [Act.eval]) rfl NEWS.out (by simp [Value.oneCell']) (by decide) (by unfold maxLen; omega) (by omega) (by have := BASE.out; simp; omega) (W4.heap.size + 1) (by simp) ?_; intro g2 cap2 W5 hown hgrow hat hlt2; obtain ⟨e3, ef, A5⟩ := AFT.out g2 cap2 W5 hown hgrow hat; have Q5 := Hid.intro A5; clear A5 hown hgrow hat hlt2)
              all_goals
                generalize W5.setCell ⟨b, 3, none⟩ (.slice (some ⟨g2, 0, none⟩) (N + 1) cap2) = W6 at *
                have m0 := Q5.out.1.c0
                have m1 := Q5.out.1.c1
                have m2 := Q5.out.1.c2
                have m3 := Q5.out.1.c3
                go_wp2_with fail
                refine (holdMount_any base b f K ⟨T.rt, T.ms ++ [(x, y)]⟩ _ F (x, y) _ Q5.out.2.1 Q5.out.2.2.1 HB.out.1 (by omega)).mono ?_
                rintro e W7 ⟨rfl, f7, k7⟩
                have FIN : Hid (TAt W7 base b f ⟨T.rt, T.ms ++ [(x, y)]⟩ (.slice (some ⟨g2, 0, none⟩) (N + 1) cap2) ∧ FAt W7 f (Mo.hoM F (x, y)) ∧ Onl (BV b f v) w W7 ∧ Nw w v (.slice (some ⟨g2, 0, none⟩) (N + 1) cap2)) := Hid.intro ⟨Q5.out.2.1.ofF Q5.out.2.2.1 k7, f7, Q5.out.2.2.2.1.trans (Onl.of_frm k7 (.inr (.inl rfl))), Q5.out.2.2.2.2⟩
                clear f7 k7 m0 m1 m2 m3
                go_wp2_with fail
                go_ret
                rw [E0.out.1, E0.out.2.1, E0.out.2.2]
                first
                  | exact ⟨_, rfl, FIN.out⟩
                  | exact ⟨rfl, _, FIN.out⟩
end Go.Proofs.YthdadmbpnoofoaaGreatDoor

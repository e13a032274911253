/- The document's own mounts: Bind. -/
import Derived.Test.YthdadmbpnoofoaaGreatDoorDg
import Derived.Deep.RegionLaw
namespace Go.Proofs.YthdadmbpnoofoaaGreatDoor
open Go.RowKit
open Tr (Fo Nd)
open Mo (Wh Mt Tb)

section
variable {w W W' : World} {base b f : Nat} {B : Bs} {T T' : Tb} {v v' : Value} {F G : Fo} {R : Nat → Tr.RN} {rv : Value}
/-- Blocks turn where none of its lists lies; new ones, where none of them may lie from now on. -/
theorem FR.grow (h : FR B W f F R rv) {S Y : Nat → Prop} (k : Onl S W W') (hS : ∀ n, S n → B.av n) (hf : ¬ S f) (hY : ∀ g, Y g → W.heap.size ≤ g ∧ g < W'.heap.size) : FR ⟨B.base, fun g => B.av g ∨ Y g⟩ W' f F R rv := by
  have lv : ∀ xs v, LV (Oth B f rv) xs v W → LV (Oth ⟨B.base, fun g => B.av g ∨ Y g⟩ f rv) xs v W' := fun xs v l => by
    have l1 := l.mono (Q := fun g => Oth B f rv g ∧ g < W.heap.size) (fun g hg hl => ⟨hg, hl⟩)
    have l2 := l1.kept k.size (fun g hg hl => k.block g hl (fun c => hg.1.2.2.2 (hS g c)))
    exact l2.mono (fun g hg _ => ⟨hg.1.1, hg.1.2.1, hg.1.2.2.1, fun e => by
      rcases e with e | e
      · exact hg.1.2.2.2 e
      · have := (hY g e).1
        have := hg.2
        omega⟩)
  refine ⟨h.rb.same (k.block f h.rb.lt hf), h.le, ?_, h.ob, fun n hn => ?_, fun g hg => ?_, fun g hg e => ?_⟩
  · refine ⟨h.own.1, ?_⟩
    rcases h.own.2 with hn | ⟨g, cap, cur, e, hb, hg, h1⟩
    · exact .inl hn
    · exact .inr ⟨g, cap, cur, e, hb, by rw [k.block g (Array.getElem?_eq_some_iff.1 hg).1 (fun c => h.ra g (by rw [e]; rfl) (hS g c))]; exact hg, h1⟩
  · have q := h.nd n hn
    exact ⟨q.kd, q.nm, q.up, fun c => lv _ _ (q.ns c), fun c => lv _ _ (q.ks c), q.fl⟩
  · rcases hg with e | e
    · exact Nat.lt_of_lt_of_le (h.bd g e) k.size
    · exact (hY g e).2
  · rcases e with e | e
    · exact h.ra g hg e
    · have := (hY g e).1
      have := (h.own.lt g hg).2
      omega
/-- What B may become: more. -/
def BsG (w : World) (B B' : Bs) : Prop := B'.base = B.base ∧ (∀ g, B.av g → B'.av g) ∧ ∀ g, B'.av g → B.av g ∨ w.heap.size ≤ g
theorem BsG.refl (w : World) (B : Bs) : BsG w B B := ⟨rfl, fun _ h => h, fun _ h => .inl h⟩
theorem RT.setM {L : List Mt} (h : W.heap[b]? = some (.cells #[.pointer (some ⟨f, 0, none⟩), .int .i64 T.rt.1, .int .i64 T.rt.2, v] 60 (0, 0))) (r : MRow W base L v') (h6 : L.length ≤ 6) (hn : ∀ g, v'.ownBlock = some g → g ≠ b) : RT (W.setCell ⟨b, 3, none⟩ v') base b f ⟨T.rt, L⟩ v' :=
  ⟨blk_set h 3 _, r.same (fun g e => setBlk _ _ _ _ (hn g e)), h6⟩
theorem RT.neb (h : RT w base b f T v) : ∀ g, v.ownBlock = some g → g ≠ b := h.row.ne_of h.blk (by decide)
end
theorem boxesXY (w : World) (x y : Wh) : WB ((w.alloc (.cells #[.int .i64 x.1, .int .i64 x.2] 56)).alloc (.cells #[.int .i64 y.1, .int .i64 y.2] 56)) w.heap.size x ∧ WB ((w.alloc (.cells #[.int .i64 x.1, .int .i64 x.2] 56)).alloc (.cells #[.int .i64 y.1, .int .i64 y.2] 56)) (w.heap.size + 1) y ∧ Below w.heap.size w ((w.alloc (.cells #[.int .i64 x.1, .int .i64 x.2] 56)).alloc (.cells #[.int .i64 y.1, .int .i64 y.2] 56)) := by
  refine ⟨?_, ?_, ((Below.refl _ w).alloc (Nat.le_refl _) _).alloc (by simp) _⟩
  · show ((w.heap.push _).push _)[w.heap.size]? = _
    simp only [Array.getElem?_push, Array.size_push]
    rw [if_neg (by omega), if_pos trivial]
  · show ((w.heap.push _).push _)[w.heap.size + 1]? = _
    simp only [Array.getElem?_push, Array.size_push]
    rw [if_pos trivial]
set_option maxRecDepth 100000 in
set_option maxHeartbeats 4000000 in
theorem rbind_any (base b f K : Nat) (B : Bs) (T : Tb) (v : Value) (F : Fo) (x y : Wh) (w : World) (h : RM w base b f B T v F) (hb : Tr.Hb F K) (hK : K < 700) (hbs : base ≤ w.heap.size) :
    Calls Tryz.prog 53 #[.pointer (some ⟨b, 0, none⟩), .agg #[.int .i64 x.1, .int .i64 x.2], .agg #[.int .i64 y.1, .int .i64 y.2]] w fun e w' => ∃ v' B', e = .returned (.int .i64 (Mo.binE F T x y)) ∧ RM w' base b f B' (Mo.binT F T x y) v' (Mo.binF F T x y) ∧ BsG w B B' ∧ Onl (BV b f v) w w' ∧ Nw w v v' := by
  have HT := Hid.intro h
  have HB := Hid.intro (And.intro hb hbs)
  have B2 := Hid.intro (boxesXY w x y)
  have NX := Mo.wroE_nn F x
  have NY := Mo.wroE_nn F y
  clear h hb hbs
  obtain ⟨i0, z0, hi0, hz0, hz1, hz2, hz3⟩ := infoMt
  go_enter Tryz.func53, Tryz.ntmps53
  go_upto_region 1 with fail
  refine wp_gen (fun W' => WB W' w.heap.size x ∧ WB W' (w.heap.size + 1) y ∧ Below w.heap.size w W') B2.out ?_
  intro W1 h1
  obtain ⟨bx, hbx⟩ : ∃ bx, w.heap.size = bx := ⟨_, rfl⟩
  have HBX := Hid.intro hbx
  have LE : Hid (∀ W, Below bx w W → bx ≤ W.heap.size ∧ RM W base b f B T v F) := Hid.intro (fun W h => by
    have e := h.size
    subst hbx
    exact ⟨e, HT.out.below h⟩)
  have DONE : Hid (∀ E : Int, Mo.binE F T x y = E → E ≠ 0 → Mo.binT F T x y = T ∧ Mo.binF F T x y = F) := Hid.intro (fun E e n => ⟨if_neg (by rw [e]; exact n), if_neg (by rw [e]; exact n)⟩)
  have RET : Hid (∀ (E : Int) W, Mo.binE F T x y = E → E ≠ 0 → Below bx w W → ∃ v' B', Ending.returned (.int .i64 E) = Ending.returned (.int .i64 (Mo.binE F T x y)) ∧ RM W base b f B' (Mo.binT F T x y) v' (Mo.binF F T x y) ∧ BsG w B B' ∧ Onl (BV b f v) w W ∧ Nw w v v') := Hid.intro (fun E W e n hW => by
    obtain ⟨d1, d2⟩ := DONE.out E e n
    rw [d1, d2, e]
    exact ⟨v, B, rfl, (LE.out W hW).2, BsG.refl _ _, Onl.of_below (by rw [hbx]; exact hW), .inl rfl⟩)
  rw [hbx] at h1 ⊢
  have S1 := Hid.intro h1
  clear h1 B2 hbx
  have x0 := S1.out.1.c0
  have x1 := S1.out.1.c1
  go_wp2_with fail
  refine (rdir_any base b f B T v F x _ (LE.out _ S1.out.2.2).2).mono ?_
  rintro e W2 ⟨rfl, b2⟩
  have S2 : Hid (WB W2 bx x ∧ WB W2 (bx + 1) y ∧ Below bx w W2) := Hid.intro ⟨S1.out.1.below b2, S1.out.2.1.below b2, S1.out.2.2.trans (b2.mono (LE.out _ S1.out.2.2).1)⟩
  clear b2 S1 x0 x1
  by_cases ex : Mo.wroE F x = 0
  case neg =>
    as_aux_lemma =>
    have BE : Hid (Mo.binE F T x y = Mo.wroE F x) := Hid.intro (by unfold Mo.binE; rw [if_pos ex])
    have R := Hid.intro (RET.out _ W2 BE.out ex S2.out.2.2)
    have pos : 0 < Mo.wroE F x := by omega
    generalize Mo.wroE F x = E at *
    go_wp2_with fail
    go_ret
    exact R.out
  rw [ex]
  have y0 := S2.out.2.1.c0
  have y1 := S2.out.2.1.c1
  go_wp2_with fail
  refine (rdir_any base b f B T v F y _ (LE.out _ S2.out.2.2).2).mono ?_
  rintro e W3 ⟨rfl, b3⟩
  have S3 : Hid (WB W3 bx x ∧ WB W3 (bx + 1) y ∧ Below bx w W3) := Hid.intro ⟨S2.out.1.below b3, S2.out.2.1.below b3, S2.out.2.2.trans (b3.mono (LE.out _ S2.out.2.2).1)⟩
  clear b3 S2 y0 y1
  by_cases ey : Mo.wroE F y = 0
  case neg =>
    as_aux_lemma =>
    have BE : Hid (Mo.binE F T x y = Mo.wroE F y) := Hid.intro (by unfold Mo.binE; rw [if_neg (fun c => c ex), if_pos ey])
    have R := Hid.intro (RET.out _ W3 BE.out ey S3.out.2.2)
    have pos : 0 < Mo.wroE F y := by omega
    generalize Mo.wroE F y = E at *
    go_wp2_with fail
    go_ret
    exact R.out
  have BE : Hid (Mo.binE F T x y = if x = y then 8 else if (Mo.lk T.ms x).isSome = true then 3 else if T.ms.length = 6 then 4 else 0) := Hid.intro (by unfold Mo.binE; rw [if_neg (fun c => c ex), if_neg (fun c => c ey)])
  rw [ey]
  clear ex ey NX NY
  have x0 := S3.out.1.c0
  have x1 := S3.out.1.c1
  have y0 := S3.out.2.1.c0
  have y1 := S3.out.2.1.c1
  by_cases exy : x = y
  case pos =>
    as_aux_lemma =>
    have E8 : Hid (Mo.binE F T x y = 8) := Hid.intro (by rw [BE.out, if_pos exy])
    have R := Hid.intro (RET.out _ W3 E8.out (by decide) S3.out.2.2)
    have y0' : W3.cell? ⟨bx + 1, 0, none⟩ = some (.int .i64 x.1) := by rw [exy]; exact y0
    have y1' : W3.cell? ⟨bx + 1, 1, none⟩ = some (.int .i64 x.2) := by rw [exy]; exact y1
    clear y0 y1 exy
    go_wp2_with fail
    go_ret
    exact R.out
  rw [if_neg exy] at BE
  go_upto_region 7 with fail
  go_cut [24] from 22 to 23 (fun s wx => s = .bool false ∧ wx = W3)
  case first =>
    by_cases e1 : x.1 = y.1
    · have e2 : ¬ x.2 = y.2 := fun e2 => exy (Prod.ext e1 e2)
      have e2' : (x.2 == y.2) = false := by simpa using e2
      have y0' : W3.cell? ⟨bx + 1, 0, none⟩ = some (.int .i64 x.1) := by rw [e1]; exact y0
      clear y0 e1
      go_wp2_with fail
      go_meet
      case rel => exact ⟨rfl, rfl⟩
    · have e1' : (x.1 == y.1) = false := by simpa using e1
      go_wp2_with fail
      go_meet
      case rel => exact ⟨rfl, rfl⟩
  case rest =>
  obtain ⟨rfl, hwc⟩ := hcut
  subst hwc
  clear x0 x1 y0 y1 exy
  obtain ⟨va, vc, hv⟩ := HT.out.tb.row.sl
  have HV := Hid.intro hv
  obtain ⟨N, hN⟩ : ∃ N, T.ms.length = N := ⟨_, rfl⟩
  have HN := Hid.intro hN
  have N6 : N ≤ 6 := by rw [← hN]; exact HT.out.tb.six
  rw [hN] at hv HV BE
  clear hN hv
  go_wp2_with fail
  go_loopw [9] (fun i wr => ∃ (n : Nat), i = .int .i64 n ∧ n ≤ N ∧ Hid (WB wr bx x ∧ WB wr (bx + 1) y ∧ Below bx w wr) ∧ Hid (∀ (j : Nat) (m' : Mt), j < n → T.ms[j]? = some m' → m'.1 ≠ x)) (fun i _ => N - (intOf i).toNat)
  case atStart => exact ⟨0, rfl, by omega, S3, Hid.intro (fun j _ hj => by omega)⟩
  case round =>
    clear S3
    obtain ⟨n, rfl, hn, S, NO⟩ := hrel
    have T1 := Hid.intro (LE.out _ S.out.2.2).2
    have c3 := T1.out.tb.c3
    rw [HV.out] at c3
    have x0 := S.out.1.c0
    have x1 := S.out.1.c1
    by_cases hlt : n < N
    · as_aux_lemma =>
      have hltI : (n : Int) < (N : Int) := by omega
      have DRW : Hid (∀ q, WB (wr.drewN q) bx x ∧ WB (wr.drewN q) (bx + 1) y ∧ Below bx w (wr.drewN q)) := Hid.intro (fun q => ⟨S.out.1, S.out.2.1, ⟨S.out.2.2.os, S.out.2.2.tape, S.out.2.2.output, S.out.2.2.size, S.out.2.2.block⟩⟩)
      obtain ⟨m, hm⟩ : ∃ m, T.ms[n]? = some m := ⟨T.ms[n]'(by rw [HN.out]; exact hlt), List.getElem?_eq_getElem _⟩
      obtain ⟨g, cap, hvg⟩ : ∃ g cap, Value.slice va N vc = .slice (some ⟨g, 0, none⟩) N cap := by
        rcases T1.out.tb.row.form with ⟨_, h⟩ | ⟨g, cap, h, _⟩
        · have := HN.out; rw [h] at this; simp at this; omega
        · rw [HN.out, HV.out] at h; exact ⟨g, cap, h⟩
      cases hvg
      have RR := T1.out.tb.row
      rw [HV.out] at RR
      have d0 : wr.cell? ⟨g, n * 4, none⟩ = some (.int .i64 m.1.1) := RR.cell n 0 m hm (by omega)
      have d1 : wr.cell? ⟨g, n * 4 + 1, none⟩ = some (.int .i64 m.1.2) := RR.cell n 1 m hm (by omega)
      have HM := Hid.intro hm
      clear hm RR S
      by_cases e1 : m.1.1 = x.1
      · by_cases e2 : m.1.2 = x.2
        · have E3 : Hid (Mo.binE F T x y = 3) := Hid.intro (by rw [BE.out, Mo.lk_at HM.out (Prod.ext e1 e2) NO.out]; rfl)
          have R := Hid.intro (fun q => RET.out _ (wr.drewN q) E3.out (by decide) (DRW.out q).2.2)
          rw [e1] at d0
          rw [e2] at d1
          clear e1 e2
          go_wp2_with fail
          go_quiet (fail)
          go_wp2_with fail
          go_ret
          exact R.out _
        · have NX : Hid (∀ (j : Nat) (m' : Mt), j < n + 1 → T.ms[j]? = some m' → m'.1 ≠ x) := Hid.intro (fun j m' hj hm' => by
            by_cases d : j = n
            · subst d
              rw [HM.out] at hm'
              cases hm'
              exact fun h => e2 (by rw [h])
            · exact NO.out j m' (by omega) hm')
          have e2' : (m.1.2 == x.2) = false := by simpa using e2
          rw [e1] at d0
          clear e1 e2
          go_wp2_with fail
          go_quiet (fail)
          go_wp2_with fail
          go_roundw
          case rel => exact ⟨n + 1, by go_num, by omega, Hid.intro (DRW.out _), NX⟩
          case measure => simp [intOf]; omega
      · have NX : Hid (∀ (j : Nat) (m' : Mt), j < n + 1 → T.ms[j]? = some m' → m'.1 ≠ x) := Hid.intro (fun j m' hj hm' => by
          by_cases d : j = n
          · subst d
            rw [HM.out] at hm'
            cases hm'
            exact fun h => e1 (by rw [h])
          · exact NO.out j m' (by omega) hm')
        have e1' : (m.1.1 == x.1) = false := by simpa using e1
        clear e1
        go_wp2_with fail
        go_quiet (fail)
        go_wp2_with fail
        go_roundw
        case rel => exact ⟨n + 1, by go_num, by omega, Hid.intro (DRW.out _), NX⟩
        case measure => simp [intOf]; omega
    · as_aux_lemma =>
      have hltJ : ¬ (n : Int) < (N : Int) := by omega
      have hl := Mo.lk_no (L := T.ms) (y := x) (fun j m' hm' => NO.out j m' (by have := (List.getElem?_eq_some_iff.1 hm').1; rw [HN.out] at this; omega) hm')
      rw [hl, Option.isSome_none, if_neg (by decide)] at BE
      clear hl NO
      by_cases n6 : N = 6
      · have E4 : Hid (Mo.binE F T x y = 4) := Hid.intro (by rw [BE.out, if_pos n6])
        have R := Hid.intro (RET.out _ wr E4.out (by decide) S.out.2.2)
        have n6' : ((N : Int) == 6) = true := by simp; omega
        clear n6
        go_wp2_with fail
        go_ret
        obtain ⟨v', B', e, r⟩ := R.out
        first | exact ⟨e, v', B', r⟩ | exact ⟨v', B', e, r⟩
      · have E0 : Hid (Mo.binE F T x y = 0 ∧ Mo.binT F T x y = ⟨T.rt, T.ms ++ [(x, y)]⟩ ∧ Mo.binF F T x y = Mo.hoM F (x, y)) := Hid.intro (by
          have e : Mo.binE F T x y = 0 := by rw [BE.out, if_neg n6]
          exact ⟨e, if_pos e, if_pos e⟩)
        have n6' : ((N : Int) == 6) = false := by simp; omega
        have N5 : N ≤ 5 := by omega
        clear n6 BE DONE RET
        have y0 := S.out.2.1.c0
        have y1 := S.out.2.1.c1
        have LS := (LE.out _ S.out.2.2).1
        have lb := T1.out.tb.lt
        have nbb : b ≠ wr.heap.size := by omega
        have n1 : bx ≠ wr.heap.size := by have := S.out.1.lt; omega
        have n2 : bx + 1 ≠ wr.heap.size := by have := S.out.2.1.lt; omega
        have OWN : Hid ((wr.alloc (.cells #[.int .i64 x.1, .int .i64 x.2, .int .i64 y.1, .int .i64 y.2] 105)).drew.ownsRow base 105 4 (.slice va N vc) N (Mo.mcs T.ms)) := Hid.intro (by
          have r := T1.out.tb.row
          unfold MRow at r
          rw [HV.out, HN.out] at r
          exact r.alloc _)
        have NEWS : Hid (∀ j u, [Value.int .i64 x.1, .int .i64 x.2, .int .i64 y.1, .int .i64 y.2][j]? = some u → (wr.alloc (.cells #[.int .i64 x.1, .int .i64 x.2, .int .i64 y.1, .int .i64 y.2] 105)).drew.cell? ((⟨wr.heap.size, 0, none⟩ : Addr).add j) = some u) := Hid.intro (World.news_of_block (w := (wr.alloc (.cells #[.int .i64 x.1, .int .i64 x.2, .int .i64 y.1, .int .i64 y.2] 105)).drew) (heap_alloc_new wr (.cells #[.int .i64 x.1, .int .i64 x.2, .int .i64 y.1, .int .i64 y.2] 105)))
        have BASE : Hid (base ≤ wr.heap.size) := Hid.intro (by have h2 := HB.out.2; have h3 := HBX.out; omega)
        have AFT : Hid (∀ g2 cap2 W5, W5.ownsRow base 105 4 (.slice (some ⟨g2, 0, none⟩) (N + 1) cap2) (N + 1) (Mo.mcs T.ms ++ [Value.int .i64 x.1, .int .i64 x.2, .int .i64 y.1, .int .i64 y.2]) → (wr.alloc (.cells #[.int .i64 x.1, .int .i64 x.2, .int .i64 y.1, .int .i64 y.2] 105)).drew.grownBy W5 (Value.slice va N vc).ownBlock → ((Value.slice va N vc).ownBlock = some g2 ∨ g2 = wr.heap.size + 1) →
            W5.cell? ⟨b, 3, none⟩ = some (.slice va N vc) ∧ W5.frozen? ⟨b, 3, none⟩ = false ∧ WB (W5.setCell ⟨b, 3, none⟩ (.slice (some ⟨g2, 0, none⟩) (N + 1) cap2)) bx x ∧ WB (W5.setCell ⟨b, 3, none⟩ (.slice (some ⟨g2, 0, none⟩) (N + 1) cap2)) (bx + 1) y ∧ RM (W5.setCell ⟨b, 3, none⟩ (.slice (some ⟨g2, 0, none⟩) (N + 1) cap2)) base b f ⟨B.base, fun g => B.av g ∨ (g = g2 ∧ wr.heap.size ≤ g)⟩ ⟨T.rt, T.ms ++ [(x, y)]⟩ (.slice (some ⟨g2, 0, none⟩) (N + 1) cap2) F ∧ BsG w B ⟨B.base, fun g => B.av g ∨ (g = g2 ∧ wr.heap.size ≤ g)⟩ ∧ Onl (BV b f v) w (W5.setCell ⟨b, 3, none⟩ (.slice (some ⟨g2, 0, none⟩) (N + 1) cap2)) ∧ Nw w v (.slice (some ⟨g2, 0, none⟩) (N + 1) cap2)) := Hid.intro (fun g2 cap2 W5 ho hg ha => by
          have gne := T1.out.tb.neb
          obtain ⟨R, rv, q⟩ := T1.out.fo
          obtain ⟨C, hC, _⟩ := q.rb.blk
          have gnf := T1.out.tb.row.ne_of hC (by decide)
          have gnw : ∀ g c z, WB wr c z → v.ownBlock = some g → g ≠ c := fun g c z hw e => T1.out.tb.row.ne_of hw (by decide) g e
          have glt := T1.out.tb.row.lt
          have gar := T1.out.ar
          rw [HV.out] at gne gnf gnw glt gar
          have al : ∀ k, k < wr.heap.size → (wr.alloc (.cells #[.int .i64 x.1, .int .i64 x.2, .int .i64 y.1, .int .i64 y.2] 105)).heap[k]? = wr.heap[k]? := fun k hk => ((Below.refl wr.heap.size wr).alloc (Nat.le_refl _) _).block k hk
          have bk : ∀ k, k < wr.heap.size → (∀ g, (Value.slice va N vc).ownBlock = some g → g ≠ k) → W5.heap[k]? = wr.heap[k]? := fun k hk hn => (hg.block k (by show k < (wr.alloc _).heap.size; simp; omega) (fun e => hn k e.symm rfl)).trans (al k hk)
          have B5 := (bk b lb gne).trans T1.out.tb.blk
          have g5 : g2 < W5.heap.size := (ho.lt g2 rfl).2
          have s5 : wr.heap.size ≤ W5.heap.size := Nat.le_trans (by simp) hg.size
          have g2b : g2 ≠ b := by
            rcases ha with e | e
            · exact gne g2 e
            · omega
          have wnb : ∀ c z, WB wr c z → c ≠ b := fun c z hw => blk_ne hw T1.out.tb.blk (by decide)
          have o4' : Onl (fun n => n = b ∨ (Value.slice va N vc).ownBlock = some n) wr W5 := ⟨hg.os, hg.tape, hg.output, s5, fun k hk hn => bk k hk (fun g e h => by subst h; exact hn (.inr e))⟩
          have o5 : Onl (fun n => n = b ∨ (Value.slice va N vc).ownBlock = some n) wr (W5.setCell ⟨b, 3, none⟩ (.slice (some ⟨g2, 0, none⟩) (N + 1) cap2)) := o4'.setCell (.inl rfl) _ _
          have ar' : ∀ g, (Value.slice (some ⟨g2, 0, none⟩) (N + 1) cap2).ownBlock = some g → B.av g ∨ (g = g2 ∧ wr.heap.size ≤ g) := fun g e => by
            cases e
            rcases ha with e | e
            · exact .inl (gar g2 e)
            · exact .inr ⟨rfl, by show wr.heap.size ≤ g2; omega⟩
          refine ⟨by rw [cell_blk B5]; show some v = _; rw [HV.out], frozen_blk B5 3, ?_, ?_, ⟨RT.setM B5 ?_ ?_ (fun g' e => by cases e; exact g2b), ⟨R, rv, q.grow o5 (fun n c => ?_) (fun c => ?_) (fun g e => ⟨e.2, ?_⟩)⟩, .inl T1.out.ab, ar'⟩, ⟨rfl, fun _ h => .inl h, fun g h => ?_⟩, ?_, ?_⟩
          · exact (setBlk _ _ _ _ (wnb _ _ S.out.1)).trans ((bk bx S.out.1.lt (fun g e => gnw g bx x S.out.1 e)).trans S.out.1)
          · exact (setBlk _ _ _ _ (wnb _ _ S.out.2.1)).trans ((bk (bx + 1) S.out.2.1.lt (fun g e => gnw g (bx + 1) y S.out.2.1 e)).trans S.out.2.1)
          · unfold MRow
            rw [Mo.mcs_app, Mo.mcs_one, List.length_append, List.length_singleton, HN.out]
            exact ho
          · rw [List.length_append, List.length_singleton, HN.out]; omega
          · rcases c with c | c
            · rw [c]; exact T1.out.ab
            · exact gar n c
          · rcases c with c | c
            · exact T1.out.ne c.symm
            · exact gnf f c rfl
          · rw [e.1]; show g2 < (W5.setCell _ _).heap.size; simpa [World.setCell] using g5
          · rcases h with h | h
            · exact .inl h
            · have h1 := HBX.out
              exact .inr (by have := h.2; omega)
          · have o4 : Onl (BV b f v) w wr := Onl.of_below (by rw [HBX.out]; exact S.out.2.2)
            exact o4.trans (o5.mono (fun n _ c => by
              rcases c with c | c
              · exact .inl c
              · exact .inr (.inr (by rw [HV.out]; exact c))))
          · rcases ha with e | e
            · exact .inl (by rw [HV.out]; exact e.symm)
            · exact .inr (fun g' e' => by
                cases e'
                show w.heap.size ≤ g2
                have h2 := HBX.out
                omega))
        go_upto_region 16 with fail
        go_region_law (refine step_append_lies _ rfl (.tmp 54) (.tmp 58) 58 rfl base 105 i0 z0 4 32 Tryz.underlying58 hi0 hz0 hz1 hz2 hz3 (by decide) (.slice va N vc) N (Mo.mcs T.ms) (by simp [Act.eval]) OWN.out ⟨wr.heap.size, 0, none⟩ 1 1 [.int .i64 x.1, .int .i64 x.2, .int .i64 y.1, .int .i64 y.2] (by simp [Act.eval]) rfl NEWS.out (by simp [Value.oneCell']) (by decide) (by unfold maxLen; omega) (by omega) (by have := BASE.out; simp; omega) (wr.heap.size + 1) (by simp) ?_; intro g2 cap2 W5 hown hgrow hat hlt2; obtain ⟨e3, ef, A5⟩ := AFT.out g2 cap2 W5 hown hgrow hat; have Q5 := Hid.intro A5; clear A5 hown hgrow hat hlt2)
        all_goals
          generalize W5.setCell ⟨b, 3, none⟩ (.slice (some ⟨g2, 0, none⟩) (N + 1) cap2) = W6 at *
          clear OWN NEWS AFT c3 x0 x1 y0 y1 S T1
          obtain ⟨R6, rv6, hr6⟩ := Q5.out.2.2.1.fo
          have R6' := Hid.intro hr6
          have KF : Hid (∀ W, Frm f W6 W → W.cell? ⟨b, 0, none⟩ = some (.pointer (some ⟨f, 0, none⟩)) ∧ W.cell? ⟨bx, 1, none⟩ = some (.int .i64 x.2) ∧ W.cell? ⟨bx + 1, 1, none⟩ = some (.int .i64 y.2)) := Hid.intro (fun W k => by
            obtain ⟨C, hC, _⟩ := hr6.rb.blk
            exact ⟨(Q5.out.2.2.1.tb.frm hr6 k).c0, (Q5.out.1.same (k.block bx Q5.out.1.lt (blk_ne Q5.out.1 hC (by decide)))).c1, (Q5.out.2.1.same (k.block (bx + 1) Q5.out.2.1.lt (blk_ne Q5.out.2.1 hC (by decide)))).c1⟩)
          have DK0 := Hid.intro (Frm.refl f W6)
          have K0 := Hid.intro (KF.out _ DK0.out)
          have HHK4 : Hid (∀ n, n < 40 → (F.nd n).held < 2 ^ 60) := Hid.intro (fun n hn => by have := HB.out.1 n hn; omega)
          have HHK6 : Hid (∀ n, n < 40 → ((Tr.hol F x.2).nd n).held < 2 ^ 60) := Hid.intro (fun n hn => by have := (HB.out.1.hol x.2) n hn; omega)
          clear hr6
          go_wp2_with fail
          go_region_held3 (fun w' => w'.cell? ⟨b, 0, none⟩ = some (.pointer (some ⟨f, 0, none⟩)) ∧ w'.cell? ⟨bx, 1, none⟩ = some (.int .i64 x.2) ∧ w'.cell? ⟨bx + 1, 1, none⟩ = some (.int .i64 y.2)) (first | exact K0.out | exact K4.out) ((first | (go_at_call 29; refine (rhold_any _ f F R6 rv6 _ x.2 (show FR ⟨B.base, fun g => B.av g ∨ (g = g2 ∧ wr.heap.size ≤ g)⟩ W6.drew f F R6 rv6 from R6'.out.below ⟨rfl, rfl, rfl, Nat.le_refl _, fun _ _ => rfl⟩) HHK4.out).mono ?_; rintro e w4 ⟨rfl, u4, f4⟩; have f4' : Frm f W6 w4 := ⟨f4.os, f4.tape, f4.output, f4.size, f4.block⟩; have CK4 := Hid.intro u4; have DK4 := Hid.intro (DK0.out.trans f4'); have K4 := Hid.intro (KF.out _ DK4.out); clear u4 f4 f4')))
          obtain ⟨R8, hr8⟩ := CK4.out
          have R8' := Hid.intro hr8
          clear hr8 CK4 K0
          go_wp2_with fail
          go_region_held3 (fun w' => w'.cell? ⟨b, 0, none⟩ = some (.pointer (some ⟨f, 0, none⟩)) ∧ w'.cell? ⟨bx, 1, none⟩ = some (.int .i64 x.2) ∧ w'.cell? ⟨bx + 1, 1, none⟩ = some (.int .i64 y.2)) (first | exact K4.out | exact K6.out) ((first | (go_at_call 29; refine (rhold_any _ f (Tr.hol F x.2) R8 rv6 _ y.2 (show FR ⟨B.base, fun g => B.av g ∨ (g = g2 ∧ wr.heap.size ≤ g)⟩ w4.drew f (Tr.hol F x.2) R8 rv6 from R8'.out.below ⟨rfl, rfl, rfl, Nat.le_refl _, fun _ _ => rfl⟩) HHK6.out).mono ?_; rintro e w6 ⟨rfl, u4, f4⟩; have f4' : Frm f w4 w6 := ⟨f4.os, f4.tape, f4.output, f4.size, f4.block⟩; have CK6 := Hid.intro u4; have DK6 := Hid.intro (DK4.out.trans f4'); have K6 := Hid.intro (KF.out _ DK6.out); clear u4 f4 f4')))
          have FIN : Hid (RM w6 base b f ⟨B.base, fun g => B.av g ∨ (g = g2 ∧ wr.heap.size ≤ g)⟩ ⟨T.rt, T.ms ++ [(x, y)]⟩ (.slice (some ⟨g2, 0, none⟩) (N + 1) cap2) (Mo.hoM F (x, y)) ∧ BsG w B ⟨B.base, fun g => B.av g ∨ (g = g2 ∧ wr.heap.size ≤ g)⟩ ∧ Onl (BV b f v) w w6 ∧ Nw w v (.slice (some ⟨g2, 0, none⟩) (N + 1) cap2)) := Hid.intro ⟨Q5.out.2.2.1.forest (by obtain ⟨R9, q⟩ := CK6.out; exact ⟨R9, rv6, q⟩) DK6.out, Q5.out.2.2.2.1, Q5.out.2.2.2.2.1.trans (Onl.of_frm DK6.out (.inr (.inl rfl))), Q5.out.2.2.2.2.2⟩
          go_wp2_with fail
          go_ret
          rw [E0.out.1, E0.out.2.1, E0.out.2.2]
          first
            | exact ⟨_, _, rfl, FIN.out⟩
            | exact ⟨rfl, _, _, FIN.out⟩
end Go.Proofs.YthdadmbpnoofoaaGreatDoor

/- The document's own mounts: Unbind. -/
import Derived.Test.YthdadmbpnoofoaaGreatDoorDh
namespace Go.Proofs.YthdadmbpnoofoaaGreatDoor
open Go.RowKit
open Tr (Fo Nd)
open Mo (Wh Mt Tb)

namespace Mo
/-- No two mounts are from one place. -/
def Uq (L : List Mt) : Prop := ∀ (i j : Nat) (m m' : Mt), L[i]? = some m → L[j]? = some m' → m.1 = m'.1 → i = j
/-- All but those from a place. -/
def but (L : List Mt) (x : Wh) : List Mt := L.filter fun m => decide (m.1 ≠ x)
theorem but_all {L : List Mt} {x : Wh} (h : ∀ m ∈ L, m.1 ≠ x) : but L x = L := by
  unfold but
  rw [List.filter_eq_self]
  intro m hm
  exact decide_eq_true (h m hm)
theorem but_erase {L : List Mt} {x : Wh} {i : Nat} {m : Mt} (hu : Uq L) (hm : L[i]? = some m) (e : m.1 = x) : but L x = L.eraseIdx i := by
  obtain ⟨hi, he⟩ := List.getElem?_eq_some_iff.1 hm
  rw [List.eraseIdx_eq_take_drop_succ]
  have hs : L = L.take i ++ m :: L.drop (i + 1) := by
    conv => lhs; rw [← List.take_append_drop i L, List.drop_eq_getElem_cons hi, he]
  unfold but
  conv => lhs; rw [hs]
  rw [List.filter_append, List.filter_cons_of_neg (by simp [e])]
  congr 1
  · refine but_all (x := x) (fun y hy hx => ?_)
    obtain ⟨j, hj, hj'⟩ := List.getElem_of_mem hy
    rw [List.length_take] at hj
    rw [List.getElem_take] at hj'
    have := hu j i y m (by rw [List.getElem?_eq_getElem (by omega), hj']) hm (hx.trans e.symm)
    omega
  · refine but_all (x := x) (fun y hy hx => ?_)
    obtain ⟨j, hj, hj'⟩ := List.getElem_of_mem hy
    rw [List.length_drop] at hj
    rw [List.getElem_drop] at hj'
    have := hu (i + 1 + j) i y m (by rw [List.getElem?_eq_getElem (by omega), hj']) hm (hx.trans e.symm)
    omega
theorem but_take {L : List Mt} {x : Wh} {j : Nat} {m : Mt} (hm : L[j]? = some m) : but (L.take (j + 1)) x = if m.1 = x then but (L.take j) x else but (L.take j) x ++ [m] := by
  obtain ⟨hi, he⟩ := List.getElem?_eq_some_iff.1 hm
  unfold but
  rw [List.take_succ_eq_append_getElem hi, he, List.filter_append]
  split
  · rename_i c
    rw [List.filter_cons_of_neg (by simp [c])]
    simp
  · rename_i c
    rw [List.filter_cons_of_pos (by simp [c])]
    rfl
/-- Which one goes. -/
def Gon (L : List Mt) (x : Wh) (j : Nat) (z : Int) : Prop := (z = -1 ∧ ∀ (i : Nat) (m : Mt), i < j → L[i]? = some m → m.1 ≠ x) ∨ ∃ (i : Nat) (m : Mt), z = i ∧ i < j ∧ L[i]? = some m ∧ m.1 = x
end Mo
/-- A row that grows, of mounts. -/
structure MO (w : World) (L : List Mt) (v : Value) (W : World) : Prop where
  bel : Below w.heap.size w W
  row : MRow W (w.heap.size + 1) L v
theorem MO.more {w wr w1 : World} {L : List Mt} {gg cap N : Nat} {l : Value} (h : MO w L l wr) (m : Mt) (hN : L.length = N) (hs : w.heap.size ≤ wr.heap.size) (hl : w1.ownsRow (w.heap.size + 1) 105 4 (.slice (some ⟨gg, 0, none⟩) (N + 1) cap) (N + 1) (Mo.mcs L ++ Mo.mtC m)) (o : Obj) (hg : (wr.alloc o).grownBy w1 l.ownBlock) :
    MO w (L ++ [m]) (.slice (some ⟨gg, 0, none⟩) (N + 1) cap) w1 ∧ (∀ k, k ≤ w.heap.size → k < wr.heap.size → w1.heap[k]? = wr.heap[k]?) := by
  have bb : Below wr.heap.size wr (wr.alloc o) := (Below.refl _ _).alloc (Nat.le_refl _) _
  have kb : ∀ k, k ≤ w.heap.size → k < wr.heap.size → w1.heap[k]? = wr.heap[k]? := fun k hk hk' => (hg.block k (by simp; omega) (fun e => by have := (h.row.lt k e.symm).1; omega)).trans (bb.block k hk')
  refine ⟨⟨(h.bel.alloc hs o).grown hg (by simp; omega) (fun k e => by have := (h.row.lt k e).1; omega), ?_⟩, kb⟩
  unfold MRow
  rw [Mo.mcs_app, Mo.mcs_one, List.length_append, List.length_singleton, hN]
  exact hl
theorem MO.drewN {w W : World} {L : List Mt} {v : Value} (h : MO w L v W) (n : Nat) : MO w L v (W.drewN n) := ⟨⟨h.bel.os, h.bel.tape, h.bel.output, h.bel.size, h.bel.block⟩, h.row⟩
set_option maxRecDepth 100000 in
set_option maxHeartbeats 4000000 in
theorem runbind_any (base b f K : Nat) (B : Bs) (T : Tb) (v : Value) (F : Fo) (x : Wh) (w : World) (h : RM w base b f B T v F) (hu : Mo.Uq T.ms) (ho : Tr.Ok F) (hb : Tr.Hb F K) (hK : K < 700) (hbs : base ≤ w.heap.size) :
    Calls Tryz.prog 55 #[.pointer (some ⟨b, 0, none⟩), .agg #[.int .i64 x.1, .int .i64 x.2]] w fun e w' => ∃ (E : Int) (T' : Tb) (F' : Fo) (v' : Value) (B' : Bs), e = .returned (.int .i64 E) ∧ Mo.UnbTo F T x E T' F' ∧ RM w' base b f B' T' v' F' ∧ BsG w B B' ∧ Onl (BF b f) w w' ∧ Nw w v v' := by
  have HT := Hid.intro h
  have HB := Hid.intro (And.intro ho (And.intro hb (And.intro hbs hu)))
  obtain ⟨va, vc, hv⟩ := h.tb.row.sl
  have HV := Hid.intro hv
  obtain ⟨N, hN⟩ : ∃ N, T.ms.length = N := ⟨_, rfl⟩
  have HN := Hid.intro hN
  have N6 : N ≤ 6 := by rw [← hN]; exact h.tb.six
  rw [hN] at hv HV
  clear h ho hb hbs hu hN hv
  obtain ⟨i0, z0, hi0, hz0, hz1, hz2, hz3⟩ := infoMt
  go_enter Tryz.func55, Tryz.ntmps55
  go_upto_region 1 with fail
  refine wp_gen (fun W' => WB W' w.heap.size x ∧ Below w.heap.size w W') ⟨heap_alloc_new w _, (Below.refl _ _).alloc (Nat.le_refl _) _⟩ ?_
  rintro W1 ⟨x1, b1⟩
  have S1 : Hid (MO w [] (.slice none 0 0) W1 ∧ WB W1 w.heap.size x) := Hid.intro ⟨⟨b1, World.ownsRow_nil _ _ _ _⟩, x1⟩
  clear x1 b1
  obtain ⟨bx, hbx⟩ : ∃ bx, w.heap.size = bx := ⟨_, rfl⟩
  have HBX := Hid.intro hbx
  rw [hbx] at S1 ⊢
  clear hbx
  go_wp2_with fail
  go_loopw [5, 6, 7] (fun vl vg vi wr => ∃ (j : Nat) (z : Int), vi = .int .i64 j ∧ vg = .int .i64 z ∧ j ≤ N ∧ Hid (MO w (Mo.but (T.ms.take j) x) vl wr ∧ WB wr bx x) ∧ Hid (Mo.Gon T.ms x j z)) (fun _ _ i _ => N - (intOf i).toNat)
  case atStart => exact ⟨0, -1, rfl, rfl, by omega, S1, Hid.intro (.inl ⟨rfl, fun i _ hi => by omega⟩)⟩
  case round =>
    clear S1
    obtain ⟨j, z, rfl, rfl, hj, S, GO⟩ := hrel
    have T1 := Hid.intro (HT.out.below S.out.1.bel)
    have c3 := T1.out.tb.c3
    rw [HV.out] at c3
    have x0 := S.out.2.c0
    have x1 := S.out.2.c1
    have LS := S.out.2.lt
    obtain ⟨la, lc, hl⟩ := S.out.1.row.sl
    obtain ⟨M, hM⟩ : ∃ M, (Mo.but (T.ms.take j) x).length = M := ⟨_, rfl⟩
    have HM := Hid.intro hM
    have M6 : M ≤ 6 := by
      have h1 : (Mo.but (T.ms.take j) x).length ≤ (T.ms.take j).length := List.length_filter_le _ _
      rw [List.length_take] at h1
      omega
    rw [hM] at hl
    subst hl
    clear hM
    by_cases hlt : j < N
    · as_aux_lemma =>
      have hltI : (j : Int) < (N : Int) := by omega
      have DRW : Hid (∀ q, MO w (Mo.but (T.ms.take j) x) (.slice la M lc) (wr.drewN q) ∧ WB (wr.drewN q) bx x) := Hid.intro (fun q => ⟨S.out.1.drewN q, S.out.2⟩)
      obtain ⟨m, hm⟩ : ∃ m, T.ms[j]? = some m := ⟨T.ms[j]'(by rw [HN.out]; exact hlt), List.getElem?_eq_getElem _⟩
      obtain ⟨g, cap, hvg⟩ : ∃ g cap, Value.slice va N vc = .slice (some ⟨g, 0, none⟩) N cap := by
        rcases T1.out.tb.row.form with ⟨_, h⟩ | ⟨g, cap, h, _⟩
        · have := HN.out; rw [h] at this; simp at this; omega
        · rw [HN.out, HV.out] at h; exact ⟨g, cap, h⟩
      cases hvg
      have RR := T1.out.tb.row
      rw [HV.out] at RR
      have d0 : wr.cell? ⟨g, j * 4, none⟩ = some (.int .i64 m.1.1) := RR.cell j 0 m hm (by omega)
      have d1 : wr.cell? ⟨g, j * 4 + 1, none⟩ = some (.int .i64 m.1.2) := RR.cell j 1 m hm (by omega)
      have d2 : wr.cell? ⟨g, j * 4 + 2, none⟩ = some (.int .i64 m.2.1) := RR.cell j 2 m hm (by omega)
      have d3 : wr.cell? ⟨g, j * 4 + 3, none⟩ = some (.int .i64 m.2.2) := RR.cell j 3 m hm (by omega)
      have BT := Hid.intro (Mo.but_take (x := x) hm)
      have NO : Hid (m.1 ≠ x → Mo.Gon T.ms x (j + 1) z) := Hid.intro (fun hne => by
        rcases GO.out with ⟨e, h⟩ | ⟨i, m', e, h1, h2, h3⟩
        · refine .inl ⟨e, fun i m' hi hm' => ?_⟩
          by_cases d : i = j
          · subst d
            rw [hm] at hm'
            cases hm'
            exact hne
          · exact h i m' (by omega) hm'
        · exact .inr ⟨i, m', e, by omega, h2, h3⟩)
      by_cases e1 : m.1.1 = x.1 ∧ m.1.2 = x.2
      · have em : m.1 = x := Prod.ext e1.1 e1.2
        have NX : Hid (Mo.Gon T.ms x (j + 1) (j : Int)) := Hid.intro (.inr ⟨j, m, rfl, by omega, hm, em⟩)
        have NS2 : Hid (∀ q, MO w (Mo.but (T.ms.take (j + 1)) x) (.slice la M lc) (wr.drewN q) ∧ WB (wr.drewN q) bx x) := Hid.intro (fun q => by rw [BT.out, if_pos em]; exact DRW.out q)
        rw [e1.1] at d0
        rw [e1.2] at d1
        clear e1 em hm RR S d2 d3
        go_wp2_with fail
        go_quiet (fail)
        go_wp2_with fail
        go_roundw
        case rel => exact ⟨j + 1, (j : Int), by go_num, by first | rfl | trivial, by omega, Hid.intro (NS2.out _), NX⟩
        case measure => simp [intOf]; omega
      · have ne : m.1 ≠ x := fun h => e1 ⟨by rw [h], by rw [h]⟩
        have NX := Hid.intro (NO.out ne)
        have BM : Hid (Mo.but (T.ms.take (j + 1)) x = Mo.but (T.ms.take j) x ++ [m]) := Hid.intro (by rw [BT.out, if_neg ne])
        generalize Mo.but (T.ms.take j) x = L at *
        clear NO ne hm RR BT GO
        by_cases d : m.1.1 = x.1
        case' pos =>
          have t1 : (m.1.1 == x.1) = true := by simp [d]
          have t2 : (m.1.2 == x.2) = false := by
            have : ¬ m.1.2 = x.2 := fun h => e1 ⟨d, h⟩
            simpa using this
          clear d e1
          go_wp2_with fail
          go_quiet (fail)
          go_upto_region 8 with fail
        case' neg =>
          have t1 : (m.1.1 == x.1) = false := by simpa using d
          clear d e1
          go_wp2_with fail
          go_quiet (fail)
          go_upto_region 8 with fail
        all_goals
          refine wp_gen (fun W' => (MO w L (.slice la M lc) W' ∧ WB W' bx x) ∧ W'.cell? ⟨b, 3, none⟩ = some (.slice (some ⟨g, 0, none⟩) N vc) ∧ W'.cell? ⟨g, j * 4, none⟩ = some (.int .i64 m.1.1) ∧ W'.cell? ⟨g, j * 4 + 1, none⟩ = some (.int .i64 m.1.2) ∧ W'.cell? ⟨g, j * 4 + 2, none⟩ = some (.int .i64 m.2.1) ∧ W'.cell? ⟨g, j * 4 + 3, none⟩ = some (.int .i64 m.2.2)) ⟨DRW.out _, c3, d0, d1, d2, d3⟩ ?_
          rintro W4 ⟨h4, g3, g4, g5, g6, g7⟩
          have S4 := Hid.intro h4
          clear h4 c3 d0 d1 d2 d3 x0 x1 S T1 DRW
          have L4 := S4.out.2.lt
          have L5 : Hid (w.heap.size + 1 ≤ W4.heap.size) := Hid.intro (by rw [HBX.out]; omega)
          go_wp2_with (at_builtin; refine wpList_append_lies _ rfl _ _ 58 (by rfl) (w.heap.size + 1) 105 i0 z0 4 32 Tryz.underlying58 hi0 hz0 hz1 hz2 hz3 (by decide) (.slice la M lc) M (Mo.mcs L) (by rfl) (by have := S4.out.1.row; unfold MRow at this; rw [HM.out] at this; exact this.alloc _) ⟨W4.heap.size, 0, none⟩ 1 1 [.int .i64 m.1.1, .int .i64 m.1.2, .int .i64 m.2.1, .int .i64 m.2.2] (by rfl) rfl (World.news_of_block (heap_alloc_new W4 _)) (by simp [Value.oneCell']) (by decide) (by unfold maxLen; omega) (by omega) (by have := L5.out; simp; omega) (W4.heap.size + 1) (by simp) ?_; intro gg cap2 W7 hown hgrow hat hlt2; have Q1 := Hid.intro (S4.out.1.more m HM.out (by have := L5.out; omega) hown _ hgrow); clear hown hgrow hat hlt2)
          go_roundw
          case rel => exact ⟨j + 1, z, by go_num, by first | rfl | trivial, by omega, Hid.intro ⟨by rw [BM.out]; exact Q1.out.1, S4.out.2.same (Q1.out.2 bx (by rw [HBX.out]; exact Nat.le_refl _) L4)⟩, NX⟩
          case measure => simp [intOf]; omega
    · have hltI : ¬ (j : Int) < (N : Int) := by omega
      have TA : Hid (T.ms.take j = T.ms) := Hid.intro (List.take_of_length_le (by rw [HN.out]; omega))
      rcases GO.out with ⟨rfl, hno⟩ | ⟨i, m, rfl, hij, hm, em⟩
      · as_aux_lemma =>
        have FIN : Hid (Mo.UnbTo F T x 2 T F) := Hid.intro (.inr ⟨.inr ⟨rfl, fun i m' hm' => hno i m' (by have := (List.getElem?_eq_some_iff.1 hm').1; rw [HN.out] at this; omega) hm'⟩, rfl, rfl, rfl⟩)
        clear hno
        go_wp2_with fail
        go_ret
        first
          | exact ⟨2, T, F, v, B, rfl, FIN.out, T1.out, BsG.refl _ _, Onl.of_below S.out.1.bel, .inl rfl⟩
          | exact ⟨2, rfl, T, F, FIN.out, v, B, T1.out, BsG.refl _ _, Onl.of_below S.out.1.bel, .inl rfl⟩
      · as_aux_lemma =>
        have i0' : ¬ (i : Int) < 0 := by omega
        have iN : (i : Int) < (N : Int) := by omega
        obtain ⟨g, cap, hvg⟩ : ∃ g cap, Value.slice va N vc = .slice (some ⟨g, 0, none⟩) N cap := by
          rcases T1.out.tb.row.form with ⟨_, h⟩ | ⟨g, cap, h, _⟩
          · have := HN.out; rw [h] at this; simp at this; omega
          · rw [HN.out, HV.out] at h; exact ⟨g, cap, h⟩
        cases hvg
        have RR := T1.out.tb.row
        rw [HV.out] at RR
        have d0 : wr.cell? ⟨g, i * 4, none⟩ = some (.int .i64 m.1.1) := RR.cell i 0 m hm (by omega)
        have d1 : wr.cell? ⟨g, i * 4 + 1, none⟩ = some (.int .i64 m.1.2) := RR.cell i 1 m hm (by omega)
        have d2 : wr.cell? ⟨g, i * 4 + 2, none⟩ = some (.int .i64 m.2.1) := RR.cell i 2 m hm (by omega)
        have d3 : wr.cell? ⟨g, i * 4 + 3, none⟩ = some (.int .i64 m.2.2) := RR.cell i 3 m hm (by omega)
        have ER : Hid (Mo.but (T.ms.take j) x = T.ms.eraseIdx i ∧ Mo.UnbTo F T x 0 ⟨T.rt, T.ms.eraseIdx i⟩ (Mo.leM F m)) := Hid.intro ⟨by rw [TA.out]; exact Mo.but_erase HB.out.2.2.2 hm em, .inl ⟨i, .inl ⟨i, rfl, m, hm, em, fun k m' hk hm' e => by
          have := HB.out.2.2.2 k i m' m hm' hm (e.trans em.symm)
          omega⟩, m, hm, rfl, rfl, rfl⟩⟩
        clear RR hm em
        go_upto_region 12 with fail
        refine wp_gen (fun W' => MB W' wr.heap.size m ∧ Below wr.heap.size wr W') ⟨heap_alloc_new wr _, (Below.refl _ _).alloc (Nat.le_refl _) _⟩ ?_
        rintro W2 ⟨m2, b2⟩
        have S2 : Hid (MB W2 wr.heap.size m ∧ Below w.heap.size w W2 ∧ MRow W2 (w.heap.size + 1) (T.ms.eraseIdx i) (.slice la M lc) ∧ w.heap.size ≤ wr.heap.size) := Hid.intro ⟨m2, S.out.1.bel.trans (b2.mono S.out.1.bel.size), by rw [← ER.out.1]; exact S.out.1.row.below b2, S.out.1.bel.size⟩
        have T2 := Hid.intro (HT.out.below S2.out.2.1)
        clear m2 b2 S T1 d0 d1 d2 d3 c3 x0 x1
        generalize wr.heap.size = mx at *
        have c3 := T2.out.tb.c3
        rw [HV.out] at c3
        have cf := T2.out.tb.frozen
        have W3F : Hid (MB (W2.setCell ⟨b, 3, none⟩ (.slice la M lc)) mx m ∧ RM (W2.setCell ⟨b, 3, none⟩ (.slice la M lc)) base b f ⟨B.base, fun g => B.av g ∨ (Value.slice la M lc).ownBlock = some g⟩ ⟨T.rt, T.ms.eraseIdx i⟩ (.slice la M lc) F ∧ Onl (BF b f) w (W2.setCell ⟨b, 3, none⟩ (.slice la M lc))) := Hid.intro (by
          have o1 : Onl (fun n => n = b) w (W2.setCell ⟨b, 3, none⟩ (.slice la M lc)) := Onl.setCell (S := fun n => n = b) (Onl.of_below S2.out.2.1) (show b = b from rfl) _ _
          obtain ⟨R, rv, q⟩ := HT.out.fo
          have rl := S2.out.2.2.1.lt
          refine ⟨(setBlk _ _ _ _ (blk_ne S2.out.1 T2.out.tb.blk (by decide))).trans S2.out.1, ⟨RT.setM T2.out.tb.blk (World.ownsRow.mono S2.out.2.2.1 (by have := HB.out.2.2.1; omega)) ?_ (S2.out.2.2.1.ne_of T2.out.tb.blk (by decide)), ⟨R, rv, q.grow o1 (fun n c => by rw [c]; exact HT.out.ab) (fun c => HT.out.ne c.symm) (fun g' e => ⟨by have := (rl g' e).1; omega, by have := (rl g' e).2; simpa [World.setCell] using this⟩)⟩, .inl HT.out.ab, fun g' e => .inr e⟩, o1.mono (fun n _ c => .inl c)⟩
          have := HT.out.tb.six
          show (T.ms.eraseIdx i).length ≤ 6
          have h2 := List.length_eraseIdx_le T.ms i
          omega)
        have NWF : Hid (BsG w B ⟨B.base, fun g => B.av g ∨ (Value.slice la M lc).ownBlock = some g⟩ ∧ Nw w v (.slice la M lc)) := Hid.intro ⟨⟨rfl, fun _ h => .inl h, fun g' h => by
          rcases h with h | h
          · exact .inl h
          · exact .inr (by have := (S2.out.2.2.1.lt g' h).1; omega)⟩, .inr (fun g' e => by have := (S2.out.2.2.1.lt g' e).1; omega)⟩
        go_upto_region 13 with fail
        generalize W2.setCell ⟨b, 3, none⟩ (.slice la M lc) = W6 at *
        obtain ⟨R6, rv6, hr6⟩ := W3F.out.2.1.fo
        have R6' := Hid.intro hr6
        have KF : Hid (∀ W, Frm f W6 W → W.cell? ⟨b, 0, none⟩ = some (.pointer (some ⟨f, 0, none⟩)) ∧ W.cell? ⟨mx, 1, none⟩ = some (.int .i64 m.1.2) ∧ W.cell? ⟨mx, 3, none⟩ = some (.int .i64 m.2.2)) := Hid.intro (fun W k => by
          obtain ⟨C, hC, _⟩ := hr6.rb.blk
          have mb : MB W mx m := (k.block mx W3F.out.1.lt (blk_ne W3F.out.1 hC (by decide))).trans W3F.out.1
          exact ⟨(W3F.out.2.1.tb.frm hr6 k).c0, mb.c1, mb.c3⟩)
        have DK0 := Hid.intro (Frm.refl f W6)
        have K0 := Hid.intro (KF.out _ DK0.out)
        have H1 : Hid ((∀ n, n < 40 → (F.nd n).held < 2 ^ 60) ∧ ∀ n, n < 40 → (F.nd n).kind ≠ 0 → (F.nd n).links < 2 ^ 60) := Hid.intro ⟨fun n hn => by have := HB.out.2.1 n hn; omega, fun n hn k0 => by have := HB.out.1.links_lt n hn k0; omega⟩
        have H2 : Hid ((∀ n, n < 40 → ((Tr.letT F m.1.2).nd n).held < 2 ^ 60) ∧ ∀ n, n < 40 → ((Tr.letT F m.1.2).nd n).kind ≠ 0 → ((Tr.letT F m.1.2).nd n).links < 2 ^ 60) := Hid.intro ⟨fun n hn => by have := (HB.out.2.1.letT m.1.2) n hn; omega, fun n hn k0 => by have := (HB.out.1.letT m.1.2).links_lt n hn k0; omega⟩
        clear hr6 S2 T2 c3 cf
        go_region_held3 (fun w' => w'.cell? ⟨b, 0, none⟩ = some (.pointer (some ⟨f, 0, none⟩)) ∧ w'.cell? ⟨mx, 1, none⟩ = some (.int .i64 m.1.2) ∧ w'.cell? ⟨mx, 3, none⟩ = some (.int .i64 m.2.2)) (first | exact K0.out | exact K4.out) ((first | (go_at_call 29; refine (rlet_any _ f F R6 rv6 _ m.1.2 (show FR ⟨B.base, fun g => B.av g ∨ (Value.slice la M lc).ownBlock = some g⟩ W6.drew f F R6 rv6 from R6'.out.below ⟨rfl, rfl, rfl, Nat.le_refl _, fun _ _ => rfl⟩) H1.out.1 H1.out.2).mono ?_; rintro e w4 ⟨rfl, u4, f4⟩; have f4' : Frm f W6 w4 := ⟨f4.os, f4.tape, f4.output, f4.size, f4.block⟩; have CK4 := Hid.intro u4; have DK4 := Hid.intro (DK0.out.trans f4'); have K4 := Hid.intro (KF.out _ DK4.out); clear u4 f4 f4')))
        obtain ⟨R8, hr8⟩ := CK4.out
        have R8' := Hid.intro hr8
        clear hr8 CK4 K0
        go_wp2_with fail
        go_region_held3 (fun w' => w'.cell? ⟨b, 0, none⟩ = some (.pointer (some ⟨f, 0, none⟩)) ∧ w'.cell? ⟨mx, 1, none⟩ = some (.int .i64 m.1.2) ∧ w'.cell? ⟨mx, 3, none⟩ = some (.int .i64 m.2.2)) (first | exact K4.out | exact K6.out) ((first | (go_at_call 29; refine (rlet_any _ f (Tr.letT F m.1.2) R8 rv6 _ m.2.2 (show FR ⟨B.base, fun g => B.av g ∨ (Value.slice la M lc).ownBlock = some g⟩ w4.drew f (Tr.letT F m.1.2) R8 rv6 from R8'.out.below ⟨rfl, rfl, rfl, Nat.le_refl _, fun _ _ => rfl⟩) H2.out.1 H2.out.2).mono ?_; rintro e w6 ⟨rfl, u4, f4⟩; have f4' : Frm f w4 w6 := ⟨f4.os, f4.tape, f4.output, f4.size, f4.block⟩; have CK6 := Hid.intro u4; have DK6 := Hid.intro (DK4.out.trans f4'); have K6 := Hid.intro (KF.out _ DK6.out); clear u4 f4 f4')))
        have FIN : Hid (RM w6 base b f ⟨B.base, fun g => B.av g ∨ (Value.slice la M lc).ownBlock = some g⟩ ⟨T.rt, T.ms.eraseIdx i⟩ (.slice la M lc) (Mo.leM F m) ∧ Onl (BF b f) w w6) := Hid.intro ⟨W3F.out.2.1.forest (by obtain ⟨R9, q⟩ := CK6.out; exact ⟨R9, rv6, q⟩) DK6.out, W3F.out.2.2.trans (Onl.of_frm DK6.out (.inr rfl))⟩
        go_wp2_with fail
        go_ret
        first
          | exact ⟨0, _, _, _, _, rfl, ER.out.2, FIN.out.1, NWF.out.1, FIN.out.2, NWF.out.2⟩
          | exact ⟨0, rfl, _, _, ER.out.2, _, _, FIN.out.1, NWF.out.1, FIN.out.2, NWF.out.2⟩
end Go.Proofs.YthdadmbpnoofoaaGreatDoor

/- The code's memory: regions of one kind. -/
import Derived.Test.YtnppahmlifnnnabPa
import Derived.Deep.Onto
import Derived.Deep.CutRange
import Derived.Deep.CutBlock
import Derived.Outline
namespace Go.Proofs.Ytnppahmlifnnnab
open Go.RowKit
open Mv (Me Rg)

/-- A region's cells. -/
def rgC (x : Rg) : List Value := [.int .i64 (x.1 : Int), .int .i64 (x.2.1 : Int), .bool x.2.2]
def rcs (L : List Rg) : List Value := L.flatMap rgC
theorem rcs_app (L M : List Rg) : rcs (L ++ M) = rcs L ++ rcs M := List.flatMap_append
theorem rcs_one (x : Rg) : rcs [x] = rgC x := by simp [rcs]
theorem rcs_len : ∀ L : List Rg, (rcs L).length = L.length * 3
  | [] => rfl
  | x :: L => by
    show (rgC x ++ rcs L).length = _
    rw [List.length_append, rcs_len L, List.length_cons]
    show 3 + _ = _
    omega
theorem rcs_at : ∀ (L : List Rg) (i j : Nat) (x : Rg), L[i]? = some x → j < 3 → (rcs L)[i * 3 + j]? = (rgC x)[j]?
  | [], _, _, _, h, _ => by simp at h
  | y :: L, 0, j, x, h, hj => by
    simp only [List.getElem?_cons_zero, Option.some.injEq] at h
    subst h
    show (rgC y ++ rcs L)[0 * 3 + j]? = _
    rw [Nat.zero_mul, Nat.zero_add, List.getElem?_append_left (by show j < 3; exact hj)]
  | y :: L, i + 1, j, x, h, hj => by
    rw [List.getElem?_cons_succ] at h
    show (rgC y ++ rcs L)[(i + 1) * 3 + j]? = _
    rw [List.getElem?_append_right (by show 3 ≤ _; omega)]
    show (rcs L)[(i + 1) * 3 + j - 3]? = _
    rw [show (i + 1) * 3 + j - 3 = i * 3 + j by omega]
    exact rcs_at L i j x h hj
theorem rcs_bump (I : List Rg) (f c : Nat) (t : Bool) : (rcs (I ++ [(f, c, t)])).set (I.length * 3 + 1) (.int .i64 ((c + 1 : Nat) : Int)) = rcs (I ++ [(f, c + 1, t)]) := by
  rw [rcs_app, rcs_app, List.set_append_right _ _ (by rw [rcs_len]; omega), rcs_len, show I.length * 3 + 1 - I.length * 3 = 1 by omega, rcs_one, rcs_one]
  rfl
/-- A slice of regions that the call owns. -/
structure RO (w : World) (L : List Rg) (v : Value) (wr : World) : Prop where
  bel : Below w.heap.size w wr
  own : wr.ownsRow w.heap.size 191 3 v L.length (rcs L)
  nil : L = [] → v = .slice none 0 0
theorem RO.start (w : World) : RO w [] (.slice none 0 0) w := ⟨Below.refl _ _, World.ownsRow_nil _ _ _ _, fun _ => rfl⟩
theorem RO.form {w wr : World} {L : List Rg} {v : Value} (h : RO w L v wr) : ∃ a c, v = .slice a L.length c := by
  rcases h.own.2 with ⟨e, e2⟩ | ⟨g, cap, _, e, _⟩
  · exact ⟨none, 0, by rw [e, e2]⟩
  · exact ⟨_, cap, e⟩
theorem RO.below {w wr w1 : World} {L : List Rg} {v : Value} (h : RO w L v wr) (b : Below wr.heap.size wr w1) : RO w L v w1 :=
  ⟨h.bel.trans (b.mono h.bel.size), h.own.kept (row := none) ⟨b.os, b.tape, b.output, b.size, fun k hk _ => b.block k hk⟩ (Classical.em _), h.nil⟩
theorem RO.more {w w1 wr : World} {L : List Rg} {gg cap N : Nat} {l : Value} (h : RO w L l wr) (x : Rg) (hN : L.length = N) (hl : w1.ownsRow w.heap.size 191 3 (.slice (some ⟨gg, 0, none⟩) (N + 1) cap) (N + 1) (rcs L ++ rgC x)) (o : Obj) (hg : (wr.alloc o).grownBy w1 l.ownBlock) :
    RO w (L ++ [x]) (.slice (some ⟨gg, 0, none⟩) (N + 1) cap) w1 := by
  have hs := h.bel.size
  refine ⟨(h.bel.alloc hs o).grown hg (by simp; omega) (fun k e => (h.own.lt k e).1), ?_, fun e => by simp at e⟩
  rw [rcs_app, rcs_one, show (L ++ [x]).length = N + 1 by simp [hN]]
  exact hl
theorem RO.bump {w wr : World} {I : List Rg} {f c gg cap N : Nat} {t : Bool} (h : RO w (I ++ [(f, c, t)]) (.slice (some ⟨gg, 0, none⟩) N cap) wr) (hN : I.length + 1 = N) :
    RO w (I ++ [(f, c + 1, t)]) (.slice (some ⟨gg, 0, none⟩) N cap) (wr.setCell ⟨gg, I.length * 3 + 1, none⟩ (.int .i64 ((c + 1 : Nat) : Int))) := by
  have ho := h.own
  rw [show (I ++ [(f, c, t)]).length = N by simp [hN]] at ho
  have s := ho.stored (I.length * 3 + 1) (.int .i64 ((c + 1 : Nat) : Int))
  rw [rcs_bump] at s
  have hb := (ho.lt gg rfl).1
  refine ⟨h.bel.setCell (by show _ ≤ gg; exact hb) _, ?_, fun e => by simp at e⟩
  rw [show (I ++ [(f, c + 1, t)]).length = N by simp [hN]]
  exact s.1
theorem RO.cell {w wr : World} {I : List Rg} {f c gg cap N : Nat} {t : Bool} (h : RO w (I ++ [(f, c, t)]) (.slice (some ⟨gg, 0, none⟩) N cap) wr) (hN : I.length + 1 = N) : wr.cell? ⟨gg, I.length * 3 + 1, none⟩ = some (.int .i64 (c : Int)) ∧ (∀ o, wr.frozen? ⟨gg, o, none⟩ = false) := by
  have ho := h.own
  rw [show (I ++ [(f, c, t)]).length = N by simp [hN]] at ho
  refine ⟨?_, ho.frozenAt⟩
  rw [ho.cellAt _ (by omega)]
  exact rcs_at _ I.length 1 (f, c, t) (by simp) (by omega)
theorem infoRg : ∃ i z, Try.prog.info? 191 = some i ∧ i.zero = some z ∧ i.size = 3 ∧ i.bytes = 24 ∧ z.cells.size = 3 := by
  have h : (Try.prog.info? 191).map (fun i => (i.size, i.bytes, i.zero.map (fun z => z.cells.size))) = some (3, 24, some 3) := by kernel_rfl
  cases hi : Try.prog.info? 191 with
  | none => rw [hi] at h; cases h
  | some i =>
    rw [hi] at h
    simp only [Option.map_some, Option.some.injEq, Prod.mk.injEq] at h
    obtain ⟨h1, h2, h3⟩ := h
    cases hz : i.zero with
    | none => rw [hz] at h3; cases h3
    | some z =>
      rw [hz] at h3
      simp only [Option.map_some, Option.some.injEq] at h3
      exact ⟨i, z, rfl, hz, h1, h2, h3⟩
set_option maxRecDepth 100000 in
set_option maxHeartbeats 1000000 in
theorem belongs_any (bx bo b r n : Nat) (t : Bool) (m : Me) (w : World) (h : UAt w b r m) (h1 : w.cell? ⟨bx, 0, none⟩ = some (.pointer (some ⟨b, 0, none⟩))) (h2 : w.cell? ⟨bo, 0, none⟩ = some (.bool t)) (hn : n < 16) :
    Calls Try.prog 144 #[.int .i64 n, .pointer (some ⟨bx, 0, none⟩), .pointer (some ⟨bo, 0, none⟩)] w fun e w' => e = .returned (.bool (decide (m.is n = Mv.asN t))) ∧ Below w.heap.size w w' := by
  have c1 := h.cIs n hn
  have nI : (n : Int) < 16 := by omega
  clear h
  generalize m.is n = u at *
  have E1 : Hid (((u : Int) == 1) = decide (u = Mv.asN false)) := Hid.intro (by
    unfold Mv.asN
    by_cases c : u = 1
    · subst c; rfl
    · simp [c]; omega)
  have E2 : Hid (((u : Int) == 2) = decide (u = Mv.asN true)) := Hid.intro (by
    unfold Mv.asN
    by_cases c : u = 2
    · subst c; rfl
    · simp [c]; omega)
  cases t
  · go_enter Try.func144, Try.ntmps144
    go_wp2_with fail
    go_quiet ((go_at_call 129; refine Calls.quiet_of_same (vas_any false _)))
    go_wp2_with fail
    go_ret
    exact ⟨ret_bool E1.out, ⟨rfl, rfl, rfl, Nat.le_refl _, fun _ _ => rfl⟩⟩
  · go_enter Try.func144, Try.ntmps144
    go_wp2_with fail
    go_quiet ((go_at_call 129; refine Calls.quiet_of_same (vas_any true _)))
    go_wp2_with fail
    go_ret
    exact ⟨ret_bool E2.out, ⟨rfl, rfl, rfl, Nat.le_refl _, fun _ _ => rfl⟩⟩
def bgB (m : Me) (t : Bool) (n : Nat) : Bool := decide (0 < n) && decide (m.is (n - 1) = Mv.asN t)
theorem bgB_on {m : Me} {t : Bool} {n : Nat} (h : m.is n = Mv.asN t) : Mv.goesOn m n = bgB m t n := by
  unfold Mv.goesOn bgB
  rw [h]
theorem bgB_succ (m : Me) (t : Bool) (n : Nat) : bgB m t (n + 1) = decide (m.is n = Mv.asN t) := by
  unfold bgB
  rw [Nat.add_sub_cancel]
  simp
set_option maxRecDepth 100000 in
set_option maxHeartbeats 2000000 in
theorem spans_any (bx bo b r : Nat) (t : Bool) (m : Me) (w : World) (h : UAt w b r m) (h1 : w.cell? ⟨bx, 0, none⟩ = some (.pointer (some ⟨b, 0, none⟩))) (h2 : w.cell? ⟨bo, 0, none⟩ = some (.bool t)) (hm : ∀ i, i < 16 → m.is i ≤ 2) :
    Calls Try.prog 143 #[.bool t, .func (.func 144) #[] #[.pointer (some ⟨bx, 0, none⟩), .pointer (some ⟨bo, 0, none⟩)]] w fun e w' => ∃ v, e = .returned v ∧ RO w (Mv.spK m t 16) v w' := by
  have HC : Hid (∀ W n, Below w.heap.size w W → n < 16 → Calls Try.prog 144 #[.int .i64 (n : Nat), .pointer (some ⟨bx, 0, none⟩), .pointer (some ⟨bo, 0, none⟩)] W fun e w' => e = .returned (.bool (decide (m.is n = Mv.asN t))) ∧ Below W.heap.size W w') := Hid.intro (fun W n B hn =>
    belongs_any bx bo b r n t m W (h.below B) ((B.cell (World.block_lt_of_cell? _ _ h1)).trans h1) ((B.cell (World.block_lt_of_cell? _ _ h2)).trans h2) hn)
  have HI := Hid.intro (Mv.rgI m hm)
  clear h h1 h2 hm
  obtain ⟨i0, z0, hi0, hz0, hz1, hz2, hz3⟩ := infoRg
  go_enter Try.func143, Try.ntmps143
  go_wp2_with fail
  go_loopw [5, 6, 7, 8] (fun v bg x i wr => ∃ (n : Nat), i = .int .i64 n ∧ bg = .bool (bgB m t n) ∧ n ≤ 16 ∧ Hid (RO w (Mv.spK m t n) v wr)) (fun _ _ _ i _ => 16 - (intOf i).toNat)
  case atStart => exact ⟨0, rfl, rfl, by omega, RO.start w⟩
  case round =>
    obtain ⟨n, rfl, rfl, hn, S⟩ := hrel
    by_cases hlt : n < 16
    · have hltI : (n : Int) < 16 := by omega
      have SL := Hid.intro (Mv.spK_len m t n)
      obtain ⟨va, vc, hv⟩ := S.out.form
      subst hv
      go_wp2_with fail
      refine (HC.out _ n S.out.bel hlt).mono ?_
      rintro e w1 ⟨rfl, b1⟩
      have S1 := Hid.intro (S.out.below b1)
      clear b1 S
      by_cases c1 : m.is n = Mv.asN t
      · have SE : Hid (Mv.spK m t (n + 1) = if bgB m t n = true then Mv.bump (Mv.spK m t n) else Mv.spK m t n ++ [(n, 1, t)]) := Hid.intro (by
          show (if m.is n = Mv.asN t then (if Mv.goesOn m n = true then _ else _) else _) = _
          rw [if_pos c1, bgB_on c1])
        have BE : Hid (bgB m t (n + 1) = true) := Hid.intro (by rw [bgB_succ]; simpa using c1)
        rw [show decide (m.is n = Mv.asN t) = true by simpa using c1]
        cases hb : bgB m t n
        · rw [hb, if_neg (by decide)] at SE
          obtain ⟨N, hN⟩ : ∃ N, (Mv.spK m t n).length = N := ⟨_, rfl⟩
          have HN := Hid.intro hN
          have hNl : N ≤ 16 := by have := SL.out; omega
          rw [hN] at S1 ⊢
          clear hb c1 hN SL
          go_wp2_with (at_builtin; refine wpList_append_lies _ rfl _ _ 104 (by rfl) w.heap.size 191 i0 z0 3 24 Try.underlying104 hi0 hz0 hz1 hz2 hz3 (by decide) (.slice va N vc) N (rcs (Mv.spK m t n)) (by rfl) (by have := S1.out.own; rw [HN.out] at this; exact this.alloc _) ⟨w1.heap.size, 0, none⟩ 1 1 (rgC (n, 1, t)) (by rfl) rfl (World.news_of_block (heap_alloc_new w1 _)) (by simp [rgC, Value.oneCell']) (by decide) (by unfold maxLen; omega) (by omega) (by have := S1.out.bel.size; simp; omega) (w1.heap.size + 1) (by simp) ?_; intro gg cap2 w2 hown hgrow hat hlt2; have Q1 : Hid (RO w (Mv.spK m t n ++ [(n, 1, t)]) (.slice (some ⟨gg, 0, none⟩) (N + 1) cap2) w2) := Hid.intro (S1.out.more (n, 1, t) HN.out hown _ hgrow); clear hown hgrow hat hlt2)
          go_roundw
          case rel => exact ⟨n + 1, by go_num, by rw [BE.out], by omega, by rw [SE.out]; exact Q1⟩
          case measure => simp [intOf]; omega
        · rw [hb, if_pos rfl] at SE
          obtain ⟨I, J, f, c, e1, _, _⟩ := (HI.out n (by omega)).last (by unfold bgB at hb; simp at hb; exact hb.1) t (by unfold bgB at hb; simp at hb; exact hb.2)
          rw [e1, Mv.bump_app] at SE
          have SLe := SL.out
          rw [e1] at S1 SLe ⊢
          obtain ⟨N, hN⟩ : ∃ N, I.length = N := ⟨_, rfl⟩
          have hl : (I ++ [(f, c, t)]).length = N + 1 := by simp [hN]
          obtain ⟨gg, cap, hv, _, _⟩ := S1.out.own.form (by rw [hl]; omega)
          rw [hv] at S1 ⊢
          rw [hl] at S1 SLe ⊢
          have CF := S1.out.cell (by rw [hN])
          have c0 := CF.1
          have cf := CF.2
          have S2 := Hid.intro (S1.out.bump (by rw [hN]))
          rw [hN] at c0 S2
          have hcl : c ≤ 16 := by
            have := (HI.out n (by omega)).last (by unfold bgB at hb; simp at hb; exact hb.1) t (by unfold bgB at hb; simp at hb; exact hb.2)
            obtain ⟨I', J', f', c', e1', _, e3⟩ := this
            rw [e1] at e1'
            have := (List.append_inj_right' e1' rfl)
            injection this with h1 _
            injection h1 with h2 h3
            injection h3 with h4 _
            omega
          have hw1 : IntKind.i64.wrap ((c : Int) + 1) = (c : Int) + 1 := IntWalk.i64_in _ ⟨by omega, by omega⟩
          have hw2 : IntKind.i64.wrap (((N + 1 : Nat) : Int) - 1) = (N : Int) := by rw [IntWalk.i64_in _ ⟨by omega, by omega⟩]; omega
          have S3 : Hid (RO w (I ++ [(f, c + 1, t)]) (.slice (some ⟨gg, 0, none⟩) (N + 1) cap) (w1.setCell ⟨gg, N * 3 + 1, none⟩ (.int .i64 ((c : Int) + 1)))) := S2
          clear hb c1 hN SL hv hl CF e1 S2
          go_wp2_with fail
          go_roundw
          case rel => exact ⟨n + 1, by go_num, by rw [BE.out], by omega, by rw [SE.out]; exact S3⟩
          case measure => simp [intOf]; omega
      · have SE : Hid (Mv.spK m t (n + 1) = Mv.spK m t n) := Hid.intro (if_neg c1)
        have BE : Hid (bgB m t (n + 1) = false) := Hid.intro (by rw [bgB_succ]; simpa using c1)
        rw [show decide (m.is n = Mv.asN t) = false by simpa using c1]
        clear c1
        go_wp2_with fail
        go_roundw
        case rel => exact ⟨n + 1, by go_num, by rw [BE.out], by omega, by rw [SE.out]; exact S1⟩
        case measure => simp [intOf]; omega
    · have hltI : ¬ (n : Int) < 16 := by omega
      obtain rfl : n = 16 := by omega
      go_wp2_with fail
      go_ret
      exact ⟨_, rfl, S.out⟩
end Go.Proofs.Ytnppahmlifnnnab

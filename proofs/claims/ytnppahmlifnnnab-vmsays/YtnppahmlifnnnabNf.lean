/- The code's memory: a new one; span, mapAs, Map, Protect. -/
import Derived.Test.YtnppahmlifnnnabNe
namespace Go.Proofs.Ytnppahmlifnnnab
open Go.RowKit
open Bd (P)
open Mv (Me Bk)

def uzA (r : Nat) : Array Value := ((List.range 33).map fun o => if o = 0 then Value.pointer (some ⟨r, 0, none⟩) else .int .i64 0).toArray
theorem uz_at (r i : Nat) (h : i < 33) : (uzA r)[i]? = some (if i = 0 then Value.pointer (some ⟨r, 0, none⟩) else .int .i64 0) := by simp [uzA, h]
def Mv.me0 : Me := ⟨fun _ => 0, fun _ => 0⟩
/-- A new memory, while it is made: the pages below k are in no frame. -/
def Mv.meK (k : Nat) : Me := ⟨fun _ => 0, fun n => if n < k then 0 else 1⟩
theorem u_zero {w : World} {b r : Nat} (h : w.heap[b]? = some (.cells (uzA r) 116 (0, 0))) : UAt w b r (Mv.meK 0) := by
  refine ⟨⟨_, h, by simp [uzA]⟩, fun o ho => ?_⟩
  rw [cell_blk h, uz_at r o ho]
  unfold cellU
  by_cases c : o = 0
  · rw [if_pos c, if_pos c]
  · rw [if_neg c, if_neg c]
    split
    · rfl
    · simp [Mv.meK]
set_option maxRecDepth 100000 in
set_option maxHeartbeats 1000000 in
theorem vnew_any (r : Nat) (w : World) : Calls Try.prog 13 #[.pointer (some ⟨r, 0, none⟩)] w fun e w' => e = .returned (.pointer (some ⟨w.heap.size, 0, none⟩)) ∧ UAt w' w.heap.size r Mv.me0 ∧ Below w.heap.size w w' := by
  have S0 : Hid (∀ C, C = uzA r → UAt (w.alloc (.cells C 116)) w.heap.size r (Mv.meK 0) ∧ Below w.heap.size w (w.alloc (.cells C 116))) := Hid.intro (fun C hC => by
    subst hC
    exact ⟨u_zero (heap_alloc_new w _), (Below.refl _ _).alloc (Nat.le_refl _) _⟩)
  go_enter Try.func13, Try.ntmps13
  go_wp2_with fail
  refine wp_gen (fun W => UAt W w.heap.size r (Mv.meK 0) ∧ Below w.heap.size w W) (S0.out _ rfl) ?_
  intro W1 h1
  have S1 := Hid.intro h1
  clear h1 S0
  obtain ⟨b, hb⟩ : ∃ b, w.heap.size = b := ⟨_, rfl⟩
  rw [hb] at S1 ⊢
  have HB := Hid.intro hb
  clear hb
  go_loopw [8] (fun i wr => ∃ (k : Nat), i = .int .i64 k ∧ k ≤ 16 ∧ Hid (UAt wr b r (Mv.meK k) ∧ Below b w wr)) (fun i _ => 16 - (intOf i).toNat)
  case atStart => exact ⟨0, rfl, by omega, S1⟩
  case round =>
    clear S1
    obtain ⟨k, rfl, hk, S⟩ := hrel
    by_cases hlt : k < 16
    · have hltI : (k : Int) < 16 := by omega
      have c1 := S.out.1.cFr k hlt
      have cf := S.out.1.frozen
      have S2 : Hid (UAt (wr.setCell ⟨b, 1 + k * 2 + 1, none⟩ (.int .i64 (-1))) b r (Mv.meK (k + 1)) ∧ Below b w (wr.setCell ⟨b, 1 + k * 2 + 1, none⟩ (.int .i64 (-1)))) := Hid.intro ⟨(S.out.1.setFr k 0 hlt (-1) rfl).congr (fun n _ => ⟨rfl, by
        show (if n < k + 1 then 0 else 1) = (if n = k then 0 else if n < k then 0 else 1)
        by_cases c : n = k
        · rw [if_pos c, if_pos (by omega)]
        · rw [if_neg c]
          by_cases d : n < k
          · rw [if_pos d, if_pos (by omega)]
          · rw [if_neg d, if_neg (by omega)]⟩), S.out.2.setCell (Nat.le_refl _) _⟩
      go_wp2_with fail
      go_roundw
      case rel => exact ⟨k + 1, by go_num, by omega, S2⟩
      case measure => simp [intOf]; omega
    · have hk16 : k = 16 := by omega
      subst hk16
      have FIN : Hid (UAt wr b r Mv.me0) := Hid.intro (S.out.1.congr (fun n hn => ⟨rfl, by show 0 = if n < 16 then 0 else 1; rw [if_pos hn]⟩))
      go_wp2_with fail
      go_ret
      rw [HB.out]
      exact ⟨rfl, FIN.out, S.out.2⟩

set_option maxRecDepth 100000 in
set_option maxHeartbeats 400000 in
theorem vspan_bad (b : Nat) (a n : Int) (w : World) (k : Mv.badB a n = true) : Calls Try.prog 80 #[.pointer (some ⟨b, 0, none⟩), .int .i64 a, .int .i64 n] w fun e w' => e = .returned (.tuple #[.slice none 0 0, errV 1]) ∧ w' = w := by
  unfold Mv.badB at k
  rw [decide_eq_true_iff] at k
  by_cases h1 : n < 1
  · clear k
    go_enter Try.func80, Try.ntmps80
    go_wp2
    go_ret2
    exact ⟨rfl, rfl⟩
  · have d1 : decide (n < 1) = false := decide_eq_false h1
    by_cases h2 : a < 0
    · clear k h1
      go_enter Try.func80, Try.ntmps80
      go_wp2
      go_ret2
      exact ⟨rfl, rfl⟩
    · have d2 : decide (a < 0) = false := decide_eq_false h2
      by_cases h3 : 16 ≤ a
      · clear k h1 h2
        go_enter Try.func80, Try.ntmps80
        go_wp2
        go_ret2
        exact ⟨rfl, rfl⟩
      · have d3 : decide (16 ≤ a) = false := decide_eq_false h3
        have h4 : 16 - a < n := by omega
        have hw : IntKind.i64.wrap (16 - a) = 16 - a := IntWalk.i64_in _ ⟨by omega, by omega⟩
        clear k h1 h2 h3
        go_enter Try.func80, Try.ntmps80
        go_wp2
        go_ret2
        exact ⟨rfl, rfl⟩
set_option maxRecDepth 100000 in
set_option maxHeartbeats 400000 in
theorem vspan_ok (b x n : Nat) (w : World) (hx : x < 16) (h1 : 1 ≤ n) (hn : x + n ≤ 16) : Calls Try.prog 80 #[.pointer (some ⟨b, 0, none⟩), .int .i64 x, .int .i64 n] w fun e w' => e = .returned (.tuple #[.slice (some ⟨b, 1 + x * 2, none⟩) n (16 - x), errV 0]) ∧ w' = w := by
  have d1 : decide ((n : Int) < 1) = false := by simp; omega
  have d3 : decide (16 ≤ (x : Int)) = false := by simp; omega
  have hw : IntKind.i64.wrap (16 - (x : Int)) = 16 - (x : Int) := IntWalk.i64_in _ ⟨by omega, by omega⟩
  have d4 : decide (16 - (x : Int) < (n : Int)) = false := by simp; omega
  have hw2 : IntKind.i64.wrap ((x : Int) + (n : Int)) = (x : Int) + (n : Int) := IntWalk.i64_in _ ⟨by omega, by omega⟩
  have d5 : (x : Int) + (n : Int) ≤ 16 := by omega
  have d6 : (x : Int) ≤ (x : Int) + (n : Int) := by omega
  go_enter Try.func80, Try.ntmps80
  go_wp2_with fail
  rw [show x + n - x = n by omega]
  go_ret2
  exact ⟨rfl, rfl⟩
theorem vas_any (wr : Bool) (w : World) : Calls Try.prog 129 #[.bool wr] w fun e w' => e = .returned (.int .i64 ((if wr then 2 else 1 : Nat) : Int)) ∧ w' = w := by
  cases wr
  · go_enter Try.func129, Try.ntmps129
    go_wp2
    go_ret
    exact ⟨rfl, rfl⟩
  · go_enter Try.func129, Try.ntmps129
    go_wp2
    go_ret
    exact ⟨rfl, rfl⟩
set_option maxRecDepth 100000 in
theorem visMapped_any (u : Nat) (v : Int) (w : World) : Calls Try.prog 82 #[.agg #[.int .i64 (u : Int), .int .i64 v]] w fun e w' => e = .returned (.bool (decide (u ≠ 0))) ∧ Below w.heap.size w w' := by
  have BL : Hid (∀ o, Below w.heap.size w (w.alloc o)) := Hid.intro (fun o => (Below.refl _ _).alloc (Nat.le_refl _) o)
  by_cases c : u = 0
  · subst c
    go_enter Try.func82, Try.ntmps82
    go_wp2_with fail
    go_ret
    exact ⟨rfl, BL.out _⟩
  · have c' : ((u : Int) == 0) = false := by simp; omega
    have HE := Hid.intro (decide_eq_true (show u ≠ 0 from c))
    have HC := Hid.intro c'
    go_enter Try.func82, Try.ntmps82
    go_wp2_with fail
    go_ret
    exact ⟨ret_bool (by rw [HE.out]; first | rfl | (show (!((u : Int) == 0)) = true; rw [HC.out]; rfl)), BL.out _⟩
set_option maxRecDepth 100000 in
theorem visUnmapped_any (u : Nat) (v : Int) (w : World) : Calls Try.prog 84 #[.agg #[.int .i64 (u : Int), .int .i64 v]] w fun e w' => e = .returned (.bool (decide (u = 0))) ∧ Below w.heap.size w w' := by
  have BL : Hid (∀ o, Below w.heap.size w (w.alloc o)) := Hid.intro (fun o => (Below.refl _ _).alloc (Nat.le_refl _) o)
  by_cases c : u = 0
  · subst c
    go_enter Try.func84, Try.ntmps84
    go_wp2_with fail
    go_ret
    exact ⟨rfl, BL.out _⟩
  · have c' : ((u : Int) == 0) = false := by simp; omega
    have HE := Hid.intro (decide_eq_false c)
    go_enter Try.func84, Try.ntmps84
    go_wp2_with fail
    go_ret
    exact ⟨ret_bool HE.out.symm, BL.out _⟩

/-- A function that asks of a page how it is mapped. -/
def AskP (F : Nat) (A : Nat → Bool) : Prop := ∀ (u : Nat) (v : Int) (w : World), Calls Try.prog F #[.agg #[.int .i64 (u : Int), .int .i64 v]] w fun e w' => e = .returned (.bool (A u)) ∧ Below w.heap.size w w'
theorem UAt.cIs2 {w : World} {b r : Nat} {m : Me} (h : UAt w b r m) (x j : Nat) (hj : x + j < 16) : w.cell? ⟨b, 1 + x * 2 + j * 2, none⟩ = some (.int .i64 (m.is (x + j) : Int)) := by
  have := h.cIs (x + j) hj
  rw [show 1 + (x + j) * 2 = 1 + x * 2 + j * 2 by omega] at this
  exact this
theorem UAt.cFr2 {w : World} {b r : Nat} {m : Me} (h : UAt w b r m) (x j : Nat) (hj : x + j < 16) : w.cell? ⟨b, 1 + x * 2 + j * 2 + 1, none⟩ = some (.int .i64 ((m.fr (x + j) : Int) - 1)) := by
  have := h.cFr (x + j) hj
  rw [show 1 + (x + j) * 2 + 1 = 1 + x * 2 + j * 2 + 1 by omega] at this
  exact this
theorem ask_mapped : AskP 82 (fun u => decide (u ≠ 0)) := visMapped_any
theorem ask_unmapped : AskP 84 (fun u => decide (u = 0)) := visUnmapped_any
set_option maxRecDepth 100000 in
set_option maxHeartbeats 1000000 in
theorem vindex_mapped (A : Nat → Bool) (hA : AskP 82 A) (b r x n c : Nat) (m : Me) (w : World) (h : UAt w b r m) (hn : x + n ≤ 16) :
    Calls Try.prog 128 #[.slice (some ⟨b, 1 + x * 2, none⟩) n c, .func (.func 82) #[] #[]] w fun e w' => ∃ z : Int, e = .returned (.int .i64 z) ∧ decide (0 ≤ z) = (List.range n).any (fun j => A (m.is (x + j))) ∧ Below w.heap.size w w' := by
  have HF := Hid.intro h
  have HA := Hid.intro hA
  clear h hA
  go_enter Try.func128, Try.ntmps128
  go_wp2_with fail
  go_loopw [8] (fun i wr => ∃ (k : Nat), i = .int .i64 k ∧ k ≤ n ∧ Hid (Below w.heap.size w wr ∧ ∀ j, j < k → A (m.is (x + j)) = false)) (fun i _ => n - (intOf i).toNat)
  case atStart => exact ⟨0, rfl, by omega, Below.refl _ _, fun j hj => by omega⟩
  case round =>
    obtain ⟨k, rfl, hk, S⟩ := hrel
    by_cases hlt : k < n
    · have hltI : (k : Int) < (n : Int) := by omega
      have c0 := (HF.out.below S.out.1).cIs2 x k (by omega)
      have c1 := (HF.out.below S.out.1).cFr2 x k (by omega)
      go_wp2_with fail
      refine (HA.out _ _ _).mono ?_
      rintro e w1 ⟨rfl, hb⟩
      have HB := Hid.intro (S.out.1.trans (hb.mono S.out.1.size))
      clear hb c0 c1
      cases ha : A (m.is (x + k))
      · have N : Hid (∀ j, j < k + 1 → A (m.is (x + j)) = false) := Hid.intro (fun j hj => by
          by_cases e : j = k
          · rw [e]; exact ha
          · exact S.out.2 j (by omega))
        clear ha
        go_wp2_with fail
        go_roundw
        case rel => exact ⟨k + 1, by go_num, by omega, HB.out, N.out⟩
        case measure => simp [intOf]; omega
      · have N : Hid (decide ((0 : Int) ≤ (k : Int)) = (List.range n).any (fun j => A (m.is (x + j)))) := Hid.intro (by
          rw [decide_eq_true (by omega)]
          exact (List.any_eq_true.2 ⟨k, List.mem_range.2 hlt, ha⟩).symm)
        clear ha
        go_wp2_with fail
        go_ret
        exact ⟨k, rfl, N.out, HB.out⟩
    · have hltI : ¬ (k : Int) < (n : Int) := by omega
      have N : Hid (decide ((0 : Int) ≤ -1) = (List.range n).any (fun j => A (m.is (x + j)))) := Hid.intro (by
        rw [decide_eq_false (by omega)]
        symm
        rw [List.any_eq_false]
        intro j hj
        rw [S.out.2 j (by have := List.mem_range.1 hj; omega)]; decide)
      go_wp2_with fail
      go_ret
      exact ⟨-1, rfl, N.out, S.out.1⟩
set_option maxRecDepth 100000 in
theorem vcontains_mapped (A : Nat → Bool) (hA : AskP 82 A) (b r x n c : Nat) (m : Me) (w : World) (h : UAt w b r m) (hn : x + n ≤ 16) :
    Calls Try.prog 81 #[.slice (some ⟨b, 1 + x * 2, none⟩) n c, .func (.func 82) #[] #[]] w fun e w' => e = .returned (.bool ((List.range n).any (fun j => A (m.is (x + j))))) ∧ Below w.heap.size w w' := by
  have HF := Hid.intro (And.intro h hA)
  clear h hA
  go_enter Try.func81, Try.ntmps81
  go_wp2_with fail
  refine (vindex_mapped A HF.out.2 b r x n c m _ HF.out.1 hn).mono ?_
  rintro e w1 ⟨z, rfl, hz, hb⟩
  have HB := Hid.intro (And.intro hz hb)
  clear hz hb
  go_wp2_with fail
  go_ret
  exact ⟨ret_bool HB.out.1, HB.out.2⟩
set_option maxRecDepth 100000 in
set_option maxHeartbeats 1000000 in
theorem vindex_unmapped (A : Nat → Bool) (hA : AskP 84 A) (b r x n c : Nat) (m : Me) (w : World) (h : UAt w b r m) (hn : x + n ≤ 16) :
    Calls Try.prog 128 #[.slice (some ⟨b, 1 + x * 2, none⟩) n c, .func (.func 84) #[] #[]] w fun e w' => ∃ z : Int, e = .returned (.int .i64 z) ∧ decide (0 ≤ z) = (List.range n).any (fun j => A (m.is (x + j))) ∧ Below w.heap.size w w' := by
  have HF := Hid.intro h
  have HA := Hid.intro hA
  clear h hA
  go_enter Try.func128, Try.ntmps128
  go_wp2_with fail
  go_loopw [8] (fun i wr => ∃ (k : Nat), i = .int .i64 k ∧ k ≤ n ∧ Hid (Below w.heap.size w wr ∧ ∀ j, j < k → A (m.is (x + j)) = false)) (fun i _ => n - (intOf i).toNat)
  case atStart => exact ⟨0, rfl, by omega, Below.refl _ _, fun j hj => by omega⟩
  case round =>
    obtain ⟨k, rfl, hk, S⟩ := hrel
    by_cases hlt : k < n
    · have hltI : (k : Int) < (n : Int) := by omega
      have c0 := (HF.out.below S.out.1).cIs2 x k (by omega)
      have c1 := (HF.out.below S.out.1).cFr2 x k (by omega)
      go_wp2_with fail
      refine (HA.out _ _ _).mono ?_
      rintro e w1 ⟨rfl, hb⟩
      have HB := Hid.intro (S.out.1.trans (hb.mono S.out.1.size))
      clear hb c0 c1
      cases ha : A (m.is (x + k))
      · have N : Hid (∀ j, j < k + 1 → A (m.is (x + j)) = false) := Hid.intro (fun j hj => by
          by_cases e : j = k
          · rw [e]; exact ha
          · exact S.out.2 j (by omega))
        clear ha
        go_wp2_with fail
        go_roundw
        case rel => exact ⟨k + 1, by go_num, by omega, HB.out, N.out⟩
        case measure => simp [intOf]; omega
      · have N : Hid (decide ((0 : Int) ≤ (k : Int)) = (List.range n).any (fun j => A (m.is (x + j)))) := Hid.intro (by
          rw [decide_eq_true (by omega)]
          exact (List.any_eq_true.2 ⟨k, List.mem_range.2 hlt, ha⟩).symm)
        clear ha
        go_wp2_with fail
        go_ret
        exact ⟨k, rfl, N.out, HB.out⟩
    · have hltI : ¬ (k : Int) < (n : Int) := by omega
      have N : Hid (decide ((0 : Int) ≤ -1) = (List.range n).any (fun j => A (m.is (x + j)))) := Hid.intro (by
        rw [decide_eq_false (by omega)]
        symm
        rw [List.any_eq_false]
        intro j hj
        rw [S.out.2 j (by have := List.mem_range.1 hj; omega)]; decide)
      go_wp2_with fail
      go_ret
      exact ⟨-1, rfl, N.out, S.out.1⟩
set_option maxRecDepth 100000 in
theorem vcontains_unmapped (A : Nat → Bool) (hA : AskP 84 A) (b r x n c : Nat) (m : Me) (w : World) (h : UAt w b r m) (hn : x + n ≤ 16) :
    Calls Try.prog 81 #[.slice (some ⟨b, 1 + x * 2, none⟩) n c, .func (.func 84) #[] #[]] w fun e w' => e = .returned (.bool ((List.range n).any (fun j => A (m.is (x + j))))) ∧ Below w.heap.size w w' := by
  have HF := Hid.intro (And.intro h hA)
  clear h hA
  go_enter Try.func81, Try.ntmps81
  go_wp2_with fail
  refine (vindex_unmapped A HF.out.2 b r x n c m _ HF.out.1 hn).mono ?_
  rintro e w1 ⟨z, rfl, hz, hb⟩
  have HB := Hid.intro (And.intro hz hb)
  clear hz hb
  go_wp2_with fail
  go_ret
  exact ⟨ret_bool HB.out.1, HB.out.2⟩
set_option maxRecDepth 100000 in
set_option maxHeartbeats 1000000 in
theorem vmapAs_any (b r x n c : Nat) (wt : Bool) (m : Me) (w : World) (h : UAt w b r m) (hn : x + n ≤ 16) :
    Calls Try.prog 83 #[.slice (some ⟨b, 1 + x * 2, none⟩) n c, .bool wt] w fun e w' => e = .returned (.tuple #[]) ∧ UAt w' b r (Mv.layM m x (x + n) wt) ∧ Frm b w w' := by
  have S0 : Hid (UAt w b r (Mv.layM m x (x + 0) wt) ∧ Frm b w w) := Hid.intro ⟨h.congr (fun i _ => ⟨Mv.layM_none m x wt i, rfl⟩), Frm.refl _ _⟩
  obtain ⟨av, hav⟩ : ∃ av, (if wt then 2 else 1 : Nat) = av := ⟨_, rfl⟩
  have HA := Hid.intro hav
  clear h hav
  go_enter Try.func83, Try.ntmps83
  go_wp2_with fail
  go_loopw [7] (fun i wr => ∃ (k : Nat), i = .int .i64 k ∧ k ≤ n ∧ Hid (UAt wr b r (Mv.layM m x (x + k) wt) ∧ Frm b w wr)) (fun i _ => n - (intOf i).toNat)
  case atStart => exact ⟨0, rfl, by omega, S0⟩
  case round =>
    clear S0
    obtain ⟨k, rfl, hk, S⟩ := hrel
    by_cases hlt : k < n
    · have hltI : (k : Int) < (n : Int) := by omega
      have c0 := S.out.1.cIs2 x k (by omega)
      have cf := S.out.1.frozen
      have S2 : Hid (UAt (wr.setCell ⟨b, 1 + x * 2 + k * 2, none⟩ (.int .i64 (av : Int))) b r (Mv.layM m x (x + (k + 1)) wt) ∧ Frm b w (wr.setCell ⟨b, 1 + x * 2 + k * 2, none⟩ (.int .i64 (av : Int)))) := Hid.intro ⟨by
        have a := S.out.1.setIs (x + k) av (by omega)
        rw [show 1 + (x + k) * 2 = 1 + x * 2 + k * 2 by omega] at a
        refine a.congr (fun i _ => ⟨?_, rfl⟩)
        rw [← Nat.add_assoc, Mv.layM_step (by omega), HA.out]
        rfl, S.out.2.setCell _ _⟩
      go_wp2_with fail
      refine (vas_any wt _).mono ?_
      rintro e w1 ⟨rfl, hw⟩
      subst w1
      rw [HA.out]
      go_wp2_with fail
      go_roundw
      case rel => exact ⟨k + 1, by go_num, by omega, S2⟩
      case measure => simp [intOf]; omega
    · have hkn : k = n := by omega
      subst hkn
      go_wp2_with fail
      go_end0
      exact ⟨rfl, S.out.1, S.out.2⟩
theorem any_span {m : Me} {x n : Nat} (hn : x + n ≤ 16) : (List.range n).any (fun j => decide (m.is (x + j) ≠ 0)) = Mv.anyM m x (x + n) := by
  apply Bool.eq_iff_iff.2
  rw [Mv.anyM_iff hn, List.any_eq_true]
  constructor
  · rintro ⟨j, hj, c⟩
    have := List.mem_range.1 hj
    exact ⟨x + j, by omega, by omega, of_decide_eq_true c⟩
  · rintro ⟨i, h1, h2, h3⟩
    exact ⟨i - x, List.mem_range.2 (by omega), by rw [show x + (i - x) = i by omega]; exact decide_eq_true h3⟩
theorem all_span {m : Me} {x n : Nat} (hn : x + n ≤ 16) : (List.range n).any (fun j => decide (m.is (x + j) = 0)) = !Mv.allM m x (x + n) := by
  cases c : Mv.allM m x (x + n)
  · rw [Bool.not_false, List.any_eq_true]
    apply Classical.byContradiction
    intro d
    have : Mv.allM m x (x + n) = true := (Mv.allM_iff hn).2 (fun i h1 h2 h3 => d ⟨i - x, List.mem_range.2 (by omega), by rw [show x + (i - x) = i by omega]; exact decide_eq_true h3⟩)
    rw [this] at c; cases c
  · rw [Bool.not_true, List.any_eq_false]
    intro j hj d
    have := List.mem_range.1 hj
    exact (Mv.allM_iff hn).1 c (x + j) (by omega) (by omega) (of_decide_eq_true d)
set_option maxRecDepth 100000 in
set_option maxHeartbeats 1000000 in
theorem vmap_any (b r : Nat) (a n : Int) (wt : Bool) (m : Me) (w : World) (h : UAt w b r m) :
    Calls Try.prog 27 #[.pointer (some ⟨b, 0, none⟩), .int .i64 a, .int .i64 n, .bool wt] w fun e w' => e = .returned (errV (Mv.mapE m a n)) ∧ UAt w' b r (Mv.mapM m a n wt) ∧ Frm b w w' := by
  have HF := Hid.intro h
  clear h
  cases hb : Mv.badB a n
  · obtain ⟨x, k, rfl, rfl, hx, hk1, hk⟩ := Mv.bad_no hb
    have SP := Hid.intro (vspan_ok b x k w hx hk1 hk)
    have EX : Hid (Mv.mapE m x k = if Mv.anyM m x (x + k) = true then 3 else 0) := Hid.intro (by unfold Mv.mapE; rw [if_neg (by rw [hb]; decide), Int.toNat_natCast, Int.toNat_natCast])
    have EM : Hid (Mv.mapM m x k wt = if Mv.mapE m x k = 0 then Mv.layM m x (x + k) wt else m) := Hid.intro (by unfold Mv.mapM; rw [Int.toNat_natCast, Int.toNat_natCast])
    clear hb
    go_enter Try.func27, Try.ntmps27
    go_wp2_with fail
    refine SP.out.mono ?_
    rintro e w1 ⟨rfl, hw⟩
    subst w1
    rw [errV_zero]
    go_wp2_with fail
    refine (vcontains_mapped _ ask_mapped b r x k (16 - x) m _ HF.out hk).mono ?_
    rintro e w1 ⟨rfl, hb1⟩
    have H1 := Hid.intro (And.intro (HF.out.below hb1) (Frm.of_below (b := b) hb1))
    clear hb1
    rw [any_span hk]
    cases ha : Mv.anyM m x (x + k)
    · have E0 : Hid (Mv.mapE m x k = 0) := Hid.intro (by rw [EX.out, ha]; rfl)
      clear ha EX
      go_wp2_with fail
      refine (vmapAs_any b r x k (16 - x) wt m _ H1.out.1 hk).mono ?_
      rintro e w2 ⟨rfl, h2, f2⟩
      have H2 := Hid.intro (And.intro h2 (H1.out.2.trans f2))
      clear h2 f2
      go_wp2_with fail
      go_ret
      rw [EM.out, E0.out, if_pos rfl]
      exact ⟨rfl, H2.out⟩
    · have E0 : Hid (Mv.mapE m x k = 3) := Hid.intro (by rw [EX.out, ha]; rfl)
      clear ha EX
      go_wp2_with fail
      go_ret
      rw [EM.out, E0.out, if_neg (by decide)]
      exact ⟨rfl, H1.out⟩
  · have EX : Hid (Mv.mapE m a n = 1) := Hid.intro (by unfold Mv.mapE; rw [if_pos hb])
    have EM : Hid (Mv.mapM m a n wt = m) := Hid.intro (by unfold Mv.mapM; rw [EX.out, if_neg (by decide)])
    have SP := Hid.intro (vspan_bad b a n w hb)
    clear hb
    go_enter Try.func27, Try.ntmps27
    go_wp2_with fail
    refine SP.out.mono ?_
    rintro e w1 ⟨rfl, hw⟩
    subst w1
    rw [errV_ne (by decide)]
    go_wp2_with fail
    go_ret
    rw [EX.out, EM.out]
    exact ⟨rfl, HF.out, Frm.refl _ _⟩
set_option maxRecDepth 100000 in
set_option maxHeartbeats 1000000 in
theorem vprotect_any (b r : Nat) (a n : Int) (wt : Bool) (m : Me) (w : World) (h : UAt w b r m) :
    Calls Try.prog 28 #[.pointer (some ⟨b, 0, none⟩), .int .i64 a, .int .i64 n, .bool wt] w fun e w' => e = .returned (errV (Mv.proE m a n)) ∧ UAt w' b r (Mv.proM m a n wt) ∧ Frm b w w' := by
  have HF := Hid.intro h
  clear h
  cases hb : Mv.badB a n
  · obtain ⟨x, k, rfl, rfl, hx, hk1, hk⟩ := Mv.bad_no hb
    have SP := Hid.intro (vspan_ok b x k w hx hk1 hk)
    have EX : Hid (Mv.proE m x k = if Mv.allM m x (x + k) = true then 0 else 10) := Hid.intro (by unfold Mv.proE; rw [if_neg (by rw [hb]; decide), Int.toNat_natCast, Int.toNat_natCast])
    have EM : Hid (Mv.proM m x k wt = if Mv.proE m x k = 0 then Mv.layM m x (x + k) wt else m) := Hid.intro (by unfold Mv.proM; rw [Int.toNat_natCast, Int.toNat_natCast])
    clear hb
    go_enter Try.func28, Try.ntmps28
    go_wp2_with fail
    refine SP.out.mono ?_
    rintro e w1 ⟨rfl, hw⟩
    subst w1
    rw [errV_zero]
    go_wp2_with fail
    refine (vcontains_unmapped _ ask_unmapped b r x k (16 - x) m _ HF.out hk).mono ?_
    rintro e w1 ⟨rfl, hb1⟩
    have H1 := Hid.intro (And.intro (HF.out.below hb1) (Frm.of_below (b := b) hb1))
    clear hb1
    rw [all_span hk]
    cases ha : Mv.allM m x (x + k)
    · have E0 : Hid (Mv.proE m x k = 10) := Hid.intro (by rw [EX.out, ha]; rfl)
      clear ha EX
      rw [Bool.not_false]
      go_wp2_with fail
      go_ret
      rw [EM.out, E0.out, if_neg (by decide)]
      exact ⟨rfl, H1.out⟩
    · have E0 : Hid (Mv.proE m x k = 0) := Hid.intro (by rw [EX.out, ha]; rfl)
      clear ha EX
      rw [Bool.not_true]
      go_wp2_with fail
      refine (vmapAs_any b r x k (16 - x) wt m _ H1.out.1 hk).mono ?_
      rintro e w2 ⟨rfl, h2, f2⟩
      have H2 := Hid.intro (And.intro h2 (H1.out.2.trans f2))
      clear h2 f2
      go_wp2_with fail
      go_ret
      rw [EM.out, E0.out, if_pos rfl]
      exact ⟨rfl, H2.out⟩
  · have EX : Hid (Mv.proE m a n = 1) := Hid.intro (by unfold Mv.proE; rw [if_pos hb])
    have EM : Hid (Mv.proM m a n wt = m) := Hid.intro (by unfold Mv.proM; rw [EX.out, if_neg (by decide)])
    have SP := Hid.intro (vspan_bad b a n w hb)
    clear hb
    go_enter Try.func28, Try.ntmps28
    go_wp2_with fail
    refine SP.out.mono ?_
    rintro e w1 ⟨rfl, hw⟩
    subst w1
    rw [errV_ne (by decide)]
    go_wp2_with fail
    go_ret
    rw [EX.out, EM.out]
    exact ⟨rfl, HF.out, Frm.refl _ _⟩
end Go.Proofs.Ytnppahmlifnnnab

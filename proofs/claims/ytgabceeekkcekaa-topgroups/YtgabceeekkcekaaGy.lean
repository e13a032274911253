/- The walk of the law TopGroups. -/
import Derived.Test.YtgabceeekkcekaaAc
import Derived.Deep.CutRange
import Derived.Deep.CutBlock
import Derived.Deep.DeepCutAuto
namespace Go.Proofs.Ytgabceeekkcekaa
open Go.RowKit Go.Shelf

theorem pat_range {w : World} {b : Nat} {A B : Nat → Int} (h : PAt w b A B) : w.rangeAt b 0 (encP A B).toList := fun j v hv => by
  rw [Nat.zero_add, heap_cell h]
  rw [Array.getElem?_toList] at hv
  exact hv
theorem wat_range {w : World} {b : Nat} {G : Nat → Nat → Int} (h : WAt w b G) : w.rangeAt b 0 (encW G).toList := fun j v hv => by
  rw [Nat.zero_add, heap_cell h]
  rw [Array.getElem?_toList] at hv
  exact hv
theorem len74 {A B : Nat → Int} : (Try.prog.info? 74).map (·.size) = some (encP A B).toList.length := by rw [Array.length_toList, encP_size]; kernel_rfl
theorem len77 {G : Nat → Nat → Int} : (Try.prog.info? 77).map (·.size) = some (encW G).toList.length := by rw [Array.length_toList, encW_size]; kernel_rfl
theorem wpList_ld74 {ops : Array Oper} {rest : List Oper} {a : Act} {w : World} {Q : Exit → Act → World → Prop} {d : Option Tmp} {ty : TypeId} {ps : String} {af : Array Edge} {x : Operand} {b : Nat} {A B : Nat → Int}
    (hx : a.eval x = .pointer (some ⟨b, 0, none⟩)) (hc : PAt w b A B) (h : wpList Try.prog ops Q rest (a.put d (.agg (encP A B))) w) : wpList Try.prog ops Q (⟨d, .load 74 x, ty, ps, af, none⟩ :: rest) a w :=
  wpList_load_mid rfl 74 x rfl b 0 hx (encP A B).toList _ (pat_range hc) Try.underlying74 rfl len74 h
theorem wpList_ld77 {ops : Array Oper} {rest : List Oper} {a : Act} {w : World} {Q : Exit → Act → World → Prop} {d : Option Tmp} {ty : TypeId} {ps : String} {af : Array Edge} {x : Operand} {b : Nat} {G : Nat → Nat → Int}
    (hx : a.eval x = .pointer (some ⟨b, 0, none⟩)) (hc : WAt w b G) (h : wpList Try.prog ops Q rest (a.put d (.agg (encW G))) w) : wpList Try.prog ops Q (⟨d, .load 77 x, ty, ps, af, none⟩ :: rest) a w :=
  wpList_load_mid rfl 77 x rfl b 0 hx (encW G).toList _ (wat_range hc) Try.underlying77 rfl len77 h

set_option maxRecDepth 100000 in
set_option maxHeartbeats 400000 in
theorem tg_far (a0 : Option Addr) (n0 c0 : Nat) (w : World) (h : 100 < n0) :
    Calls Try.prog 6 #[.slice a0 n0 c0] w fun e w' => e = .returned (.bool true) ∧ Below w.heap.size w w' := by
  have d : decide ((n0 : Int) ≤ 100) = false := by simp; omega
  go_enter Try.func6, Try.ntmps6
  go_wp2_with fail
  refine (new_any _).mono ?_
  rintro e W1 ⟨rfl, _, hb⟩
  have HB := Hid.intro hb
  clear hb
  go_wp2_with fail
  refine (light_any _ _ _ _ _).mono ?_
  rintro e W2 ⟨rfl, rfl⟩
  rw [d]
  go_wp2
  go_ret
  exact ⟨rfl, HB.out⟩

theorem sg_start {w W : World} (hT : TAt W w.heap.size t0) (hb : Below w.heap.size w W) : Sg w (W.alloc (.cells (encP (fun _ => 0) (fun _ => 0)) 74)) w.heap.size W.heap.size t0 W0 0 (fun _ => 0) (fun _ => 0) := by
  have hlt := hT.lt
  have ha : Below W.heap.size W (W.alloc (.cells (encP (fun _ => 0) (fun _ => 0)) 74)) := (Below.refl _ _).alloc (Nat.le_refl _) _
  refine ⟨hb.alloc hb.size _, Nat.le_refl _, hlt, hT.below ha hlt, heap_alloc_new _ _, tree0, fun k hk hh => ?_⟩
  by_cases e : k = 0
  · subst e; exact ⟨rfl, rfl⟩
  · rw [show t0 k = noGp from updT_ne _ _ _ _ e] at hh
    cases hh

/-- The groups as they were told, so far. -/
def wasTo (t : Nat → Gp) (Wy : Nat → List (Fin 10)) (n : Nat) : Nat → Nat → Int := fun k j => if k < n then wasC t Wy k j else 0
theorem WAt.put5 {w : World} {b n : Nat} {t : Nat → Gp} {Wy : Nat → List (Fin 10)} (h : WAt w b (wasTo t Wy n)) (hn : n < 10) {v0 v1 v2 v3 v4 : Int} (e0 : v0 = wasC t Wy n 0) (e1 : v1 = wasC t Wy n 1) (e2 : v2 = wasC t Wy n 2) (e3 : v3 = wasC t Wy n 3) (e4 : v4 = wasC t Wy n 4) :
    WAt (((((w.setCell ⟨b, n * 5, none⟩ (.int .i64 v0)).setCell ⟨b, n * 5 + 1, none⟩ (.int .i64 v1)).setCell ⟨b, n * 5 + 2, none⟩ (.int .i64 v2)).setCell ⟨b, n * 5 + 3, none⟩ (.int .i64 v3)).setCell ⟨b, n * 5 + 4, none⟩ (.int .i64 v4)) b (wasTo t Wy (n + 1)) := by
  unfold WAt
  rw [heap_set (heap_set (heap_set (heap_set (heap_set h (n * 5) _) (n * 5 + 1) _) (n * 5 + 2) _) (n * 5 + 3) _)]
  refine congrArg (fun c => some (Obj.cells c 77 (0, 0))) ?_
  refine encW_ext _ _ (by simp [encW_size]) fun m i hm hi => ?_
  have hsz := encW_size (wasTo t Wy n)
  by_cases e : m = n
  · subst e
    have ew : wasTo t Wy (m + 1) m = wasC t Wy m := by funext j; simp [wasTo]
    rw [ew]
    match i, hi with
    | 0, _ => simp [Array.getElem?_setIfInBounds, hsz, e0]; omega
    | 1, _ => simp [Array.getElem?_setIfInBounds, hsz, e1]; omega
    | 2, _ => simp [Array.getElem?_setIfInBounds, hsz, e2]; omega
    | 3, _ => simp [Array.getElem?_setIfInBounds, hsz, e3]; omega
    | 4, _ => simp [Array.getElem?_setIfInBounds, hsz, e4]; omega
  · have ew : wasTo t Wy (n + 1) m = wasTo t Wy n m := by
      funext j
      unfold wasTo
      by_cases hl : m < n
      · rw [if_pos hl, if_pos (by omega)]
      · rw [if_neg hl, if_neg (by omega)]
    rw [ew, Array.getElem?_setIfInBounds_ne (by omega), Array.getElem?_setIfInBounds_ne (by omega), Array.getElem?_setIfInBounds_ne (by omega), Array.getElem?_setIfInBounds_ne (by omega), Array.getElem?_setIfInBounds_ne (by omega), encW_at _ m i hm hi]
theorem wasTo_zero (t : Nat → Gp) (Wy : Nat → List (Fin 10)) : wasTo t Wy 0 = fun _ _ => 0 := by funext k j; simp [wasTo]
theorem wasTo_all {w : World} {b : Nat} {t : Nat → Gp} {Wy : Nat → List (Fin 10)} (h : WAt w b (wasTo t Wy 10)) : WAt w b (wasC t Wy) := by
  unfold WAt at h ⊢
  rw [h]
  refine congrArg (fun c => some (Obj.cells c 77 (0, 0))) (encW_ext _ _ (encW_size _) fun m i hm hi => ?_)
  rw [encW_at _ m i hm hi]
  simp [wasTo, hm]

/-- What the law has besides: the act at ba, what was told at wb. -/
structure Sh (W : World) (ob ba wb : Nat) (x : Array Value) (G : Nat → Nat → Int) : Prop where
  act : W.heap[ba]? = some (.cells x 36 (0, 0))
  was : WAt W wb G
  l1 : ob < ba
  l2 : ba < wb
section
variable {W W' : World} {b ob ba wb : Nat} {x : Array Value} {G : Nat → Nat → Int}
theorem Sh.frm (h : Sh W ob ba wb x G) (hf : Frm b W W') (hb : b < ob) : Sh W' ob ba wb x G := by
  have h1 := h.l1
  have h2 := h.l2
  exact ⟨(hf.block ba (Array.getElem?_eq_some_iff.1 h.act).1 (by omega)).trans h.act, (hf.block wb h.was.lt (by omega)).trans h.was, h1, h2⟩
theorem Sh.drew (h : Sh W ob ba wb x G) : Sh W.drew ob ba wb x G := ⟨h.act, h.was, h.l1, h.l2⟩
theorem Sh.below (h : Sh W ob ba wb x G) (hb : Below (wb + 1) W W') : Sh W' ob ba wb x G := by
  have h1 := h.l1
  have h2 := h.l2
  exact ⟨(hb.block ba (by omega)).trans h.act, h.was.below hb (by omega), h1, h2⟩
theorem Sh.set (h : Sh W ob ba wb x G) (o : Nat) (v : Value) : Sh (W.setCell ⟨ob, o, none⟩ v) ob ba wb x G := by
  have h1 := h.l1
  have h2 := h.l2
  exact ⟨(setBlk _ _ _ _ (by omega)).trans h.act, h.was.other (by omega) _ _, h1, h2⟩
end

theorem below5 (w : World) (b o0 o1 o2 o3 o4 : Nat) (v0 v1 v2 v3 v4 : Value) : Below b w (((((w.setCell ⟨b, o0, none⟩ v0).setCell ⟨b, o1, none⟩ v1).setCell ⟨b, o2, none⟩ v2).setCell ⟨b, o3, none⟩ v3).setCell ⟨b, o4, none⟩ v4) := by
  have st : ∀ (w' : World), Below b w w' → ∀ o v, Below b w (w'.setCell ⟨b, o, none⟩ v) := fun w' h o v => h.setCell (p := ⟨b, o, none⟩) (Nat.le_refl b) v
  exact st _ (st _ (st _ (st _ (st _ (Below.refl _ _) o0 v0) o1 v1) o2 v2) o3 v3) o4 v4
theorem books_move {t : Nat → Gp} {A B : Nat → Int} (h : Books t A B) {n m : Nat} (hn : n < 10) (hm : m < 10) (hh : (t n).there = true) (hmh : (t m).there = true) (Q R : Int) :
    Books (addO (addO t n (-Q) (-R)) m Q R) (updI (updI A n (A n - Q)) m (updI A n (A n - Q) m + Q)) (updI (updI B n (B n - R)) m (updI B n (B n - R) m + R)) := by
  have h1 := h.addO hn hh (-Q) (-R)
  rw [← Int.sub_eq_add_neg, ← Int.sub_eq_add_neg] at h1
  exact h1.addO hm (by rw [(addO_same t n _ _ m).1]; exact hmh) Q R
theorem books_bd {t : Nat → Gp} {Wy : Nat → List (Fin 10)} {c : Nat} {A B : Nat → Int} (hT : Tree t Wy c) (h : Books t A B) {n m : Nat} (hn : n < 10) (hm : m < 10) (hh : (t n).there = true) (hmh : (t m).there = true) {Q R : Int} (hq : 0 ≤ Q ∧ Q ≤ 20) (hr : 0 ≤ R ∧ R ≤ 64) :
    (-100 ≤ updI A n (A n - Q) m ∧ updI A n (A n - Q) m ≤ 64 * c) ∧ (-100 ≤ updI B n (B n - R) m ∧ updI B n (B n - R) m ≤ 64 * c) := by
  have o1 := hT.own n hn
  have o2 := hT.own m hm
  have e1 := h n hn hh
  have e2 := h m hm hmh
  by_cases e : m = n
  · subst e
    rw [updI_same, updI_same]
    omega
  · rw [updI_ne _ _ _ _ e, updI_ne _ _ _ _ e]
    omega
theorem sh_start (W : World) (ob : Nat) (x : Array Value) (t : Nat → Gp) (Wy : Nat → List (Fin 10)) (h : ob < W.heap.size) : Sh ((W.alloc (.cells x 36)).alloc (.cells (encW (fun _ _ => 0)) 77)) ob W.heap.size (W.heap.size + 1) x (wasTo t Wy 0) := by
  have e2 := al2 W (.cells x 36) (.cells (encW (fun _ _ => 0)) 77)
  exact ⟨e2.1, by rw [wasTo_zero]; exact e2.2, h, by omega⟩
theorem wasC_of {t : Nat → Gp} {Wy : Nat → List (Fin 10)} {n : Nat} (h : (t n).there = true) : (t n).par = wasC t Wy n 0 ∧ (t n).lp = wasC t Wy n 1 ∧ (t n).lq = wasC t Wy n 2 ∧ totTo t Wy n Gp.op 10 = wasC t Wy n 3 ∧ totTo t Wy n Gp.oq 10 = wasC t Wy n 4 :=
  ⟨(if_pos h).symm, (if_pos h).symm, (if_pos h).symm, (if_pos h).symm, (if_pos h).symm⟩
theorem wasC_no {t : Nat → Gp} {Wy : Nat → List (Fin 10)} {n : Nat} (h : (t n).there = false) (j : Nat) : (0 : Int) = wasC t Wy n j := by unfold wasC; rw [if_neg (by simp [h])]
/-- A group is told: Of, whatever is there. -/
theorem of_was (b n : Nat) (t : Nat → Gp) (Wy : Nat → List (Fin 10)) (w : World) (h : TAt w b t) (hW : Ways t Wy) (hS : Small t) (hn : n < 10) :
    Calls Try.prog 40 #[.pointer (some ⟨b, 0, none⟩), .int .i64 n] w fun e w' => (∃ er, e = .returned (.tuple #[.agg #[.int .i64 (wasC t Wy n 0), .int .i64 (wasC t Wy n 1), .int .i64 (wasC t Wy n 2), .int .i64 (wasC t Wy n 3), .int .i64 (wasC t Wy n 4)], er])) ∧ Below w.heap.size w w' := by
  cases hh : (t n).there
  · have hw : wr t n ≠ 0 := by
      unfold wr
      rw [if_neg (by omega), Int.toNat_natCast, hh]
      simp
    refine (of_bad b n t w h hw).mono ?_
    rintro e w' ⟨rfl, hb⟩
    refine ⟨⟨errV (wr t n), ?_⟩, hb⟩
    rw [← wasC_no hh 0, ← wasC_no hh 1, ← wasC_no hh 2, ← wasC_no hh 3, ← wasC_no hh 4]
  · refine (of_ok b n t Wy w h hW hS hn hh).mono ?_
    rintro e w' ⟨rfl, hb⟩
    have e := wasC_of (Wy := Wy) hh
    exact ⟨⟨_, by rw [← e.1, ← e.2.1, ← e.2.2.1, ← e.2.2.2.1, ← e.2.2.2.2]⟩, hb⟩
end Go.Proofs.Ytgabceeekkcekaa

/- The document's own tree in memory; Is, chargeable, below, Way, All. -/
import Derived.Test.YtgabceeekkcekaaGz
namespace Go.Proofs.Ytgabceeekkcekaa
open Go.RowKit Go.Shelf

/-- The document's own tree: who is here; five numbers of each. -/
def encU (h : Nat → Bool) (G : Nat → Nat → Int) : Array Value := ((List.range 60).map fun i => if i < 10 then Value.bool (h i) else Value.int .i64 (G ((i - 10) / 5) ((i - 10) % 5))).toArray
theorem encU_size (h : Nat → Bool) (G : Nat → Nat → Int) : (encU h G).size = 60 := by simp [encU]
theorem encU_h (h : Nat → Bool) (G : Nat → Nat → Int) (n : Nat) (hn : n < 10) : (encU h G)[n]? = some (.bool (h n)) := by
  have e3 : n < 60 := by omega
  simp [encU, e3, hn]
theorem encU_g (h : Nat → Bool) (G : Nat → Nat → Int) (n j : Nat) (hn : n < 10) (hj : j < 5) : (encU h G)[10 + n * 5 + j]? = some (.int .i64 (G n j)) := by
  have e1 : (10 + n * 5 + j - 10) / 5 = n := by omega
  have e2 : (10 + n * 5 + j - 10) % 5 = j := by omega
  have e3 : 10 + n * 5 + j < 60 := by omega
  have e4 : ¬ 10 + n * 5 + j < 10 := by omega
  simp [encU, e3, e1, e2, e4]
theorem encU_ext (h : Nat → Bool) (G : Nat → Nat → Int) (c : Array Value) (hs : c.size = 60) (h0 : ∀ n, n < 10 → c[n]? = some (.bool (h n))) (h1 : ∀ n j, n < 10 → j < 5 → c[10 + n * 5 + j]? = some (.int .i64 (G n j))) : c = encU h G := by
  apply Array.ext_getElem?
  intro i
  rcases Nat.lt_or_ge i 60 with hi | hi
  · by_cases e : i < 10
    · rw [h0 i e, encU_h h G i e]
    · rw [show i = 10 + (i - 10) / 5 * 5 + (i - 10) % 5 by omega, h1 _ _ (by omega) (by omega), encU_g h G _ _ (by omega) (by omega)]
  · rw [Array.getElem?_eq_none (by omega), Array.getElem?_eq_none (by rw [encU_size]; omega)]
def UAt (w : World) (b : Nat) (h : Nat → Bool) (G : Nat → Nat → Int) : Prop := w.heap[b]? = some (.cells (encU h G) 100 (0, 0))
def updH (h : Nat → Bool) (n : Nat) (v : Bool) : Nat → Bool := fun k => if k = n then v else h k
def updG (G : Nat → Nat → Int) (n j : Nat) (v : Int) : Nat → Nat → Int := fun k i => if k = n ∧ i = j then v else G k i
section
variable {w : World} {b : Nat} {h : Nat → Bool} {G : Nat → Nat → Int}
theorem UAt.ch (H : UAt w b h G) (n : Nat) (hn : n < 10) : w.cell? ⟨b, n, none⟩ = some (.bool (h n)) := by rw [heap_cell H, encU_h h G n hn]
theorem UAt.cg (H : UAt w b h G) (n j : Nat) (hn : n < 10) (hj : j < 5) : w.cell? ⟨b, 10 + n * 5 + j, none⟩ = some (.int .i64 (G n j)) := by rw [heap_cell H, encU_g h G n j hn hj]
theorem UAt.frozen (H : UAt w b h G) (o : Nat) : w.frozen? ⟨b, o, none⟩ = false := heap_frozen H o
theorem UAt.lt (H : UAt w b h G) : b < w.heap.size := (Array.getElem?_eq_some_iff.1 H).1
theorem UAt.below {w' : World} (H : UAt w b h G) {N : Nat} (hB : Below N w w') (hb : b < N) : UAt w' b h G := (hB.block b hb).trans H
theorem UAt.setH (H : UAt w b h G) (n : Nat) (hn : n < 10) (v : Bool) : UAt (w.setCell ⟨b, n, none⟩ (.bool v)) b (updH h n v) G := by
  unfold UAt
  rw [heap_set H]
  refine congrArg (fun c => some (Obj.cells c 100 (0, 0))) ?_
  refine encU_ext _ _ _ (by simp [encU_size]) (fun m hm => ?_) (fun m j hm hj => ?_)
  · by_cases e : m = n
    · subst e
      rw [Array.getElem?_setIfInBounds_self_of_lt (by rw [encU_size]; omega)]
      simp [updH]
    · rw [Array.getElem?_setIfInBounds_ne (by omega), encU_h h G m hm]
      simp [updH, e]
  · rw [Array.getElem?_setIfInBounds_ne (by omega), encU_g h G m j hm hj]
theorem UAt.setG (H : UAt w b h G) (n j : Nat) (hn : n < 10) (hj : j < 5) (v : Int) : UAt (w.setCell ⟨b, 10 + n * 5 + j, none⟩ (.int .i64 v)) b h (updG G n j v) := by
  unfold UAt
  rw [heap_set H]
  refine congrArg (fun c => some (Obj.cells c 100 (0, 0))) ?_
  refine encU_ext _ _ _ (by simp [encU_size]) (fun m hm => ?_) (fun m i hm hi => ?_)
  · rw [Array.getElem?_setIfInBounds_ne (by omega), encU_h h G m hm]
  · by_cases e : m = n ∧ i = j
    · obtain ⟨rfl, rfl⟩ := e
      rw [Array.getElem?_setIfInBounds_self_of_lt (by rw [encU_size]; omega)]
      simp [updG]
    · rw [Array.getElem?_setIfInBounds_ne (by omega), encU_g h G m i hm hi]
      simp [updG, e]
end

theorem wasC_of' {t : Nat → Gp} {Wy : Nat → List (Fin 10)} {n : Nat} (h : (t n).there = true) : wasC t Wy n 0 = (t n).par ∧ wasC t Wy n 1 = (t n).lp ∧ wasC t Wy n 2 = (t n).lq ∧ wasC t Wy n 3 = totTo t Wy n Gp.op 10 ∧ wasC t Wy n 4 = totTo t Wy n Gp.oq 10 :=
  ⟨if_pos h, if_pos h, if_pos h, if_pos h, if_pos h⟩
/-- The document's own tree says the same. -/
def Rel (t : Nat → Gp) (Wy : Nat → List (Fin 10)) (h : Nat → Bool) (G : Nat → Nat → Int) : Prop := ∀ k, k < 10 → h k = (t k).there ∧ ((t k).there = true → ∀ j, j < 5 → G k j = wasC t Wy k j)
theorem Rel.g {t : Nat → Gp} {Wy : Nat → List (Fin 10)} {h : Nat → Bool} {G : Nat → Nat → Int} (H : Rel t Wy h G) {k : Nat} (hk : k < 10) (hh : (t k).there = true) : G k 0 = (t k).par ∧ G k 1 = (t k).lp ∧ G k 2 = (t k).lq ∧ G k 3 = totTo t Wy k Gp.op 10 ∧ G k 4 = totTo t Wy k Gp.oq 10 := by
  have e := wasC_of' (Wy := Wy) hh
  have r := (H k hk).2 hh
  exact ⟨(r 0 (by omega)).trans e.1, (r 1 (by omega)).trans e.2.1, (r 2 (by omega)).trans e.2.2.1, (r 3 (by omega)).trans e.2.2.2.1, (r 4 (by omega)).trans e.2.2.2.2⟩

set_option maxRecDepth 100000 in
set_option maxHeartbeats 400000 in
theorem is_any (b : Nat) (g : Int) (t : Nat → Gp) (h : Nat → Bool) (G : Nat → Nat → Int) (w : World) (H : UAt w b h G) (hh : ∀ k, k < 10 → h k = (t k).there) : Calls Try.prog 56 #[.pointer (some ⟨b, 0, none⟩), .int .i64 g] w fun e w' => e = .returned (.int .i64 (wr t g)) ∧ w' = w := by
  by_cases h1 : g < 0
  · have e : wr t g = 1 := if_pos (.inl h1)
    rw [e]
    clear e
    go_enter Try.func56, Try.ntmps56
    go_wp2
    go_ret
    exact ⟨rfl, rfl⟩
  · by_cases h2 : 10 ≤ g
    · have e : wr t g = 1 := if_pos (.inr h2)
      rw [e]
      have d1 : decide (g < 0) = false := by simp; omega
      have d2 : 9 < g := by omega
      clear e h1
      go_enter Try.func56, Try.ntmps56
      go_wp2
      go_ret
      exact ⟨rfl, rfl⟩
    · obtain ⟨n, rfl⟩ := Int.eq_ofNat_of_zero_le (show 0 ≤ g by omega)
      have hn : n < 10 := by omega
      have d1 : decide ((n : Int) < 0) = false := by simp
      have d2 : ¬ (9 : Int) < (n : Int) := by omega
      have hnI : (n : Int) < 10 := by omega
      have c := H.ch n hn
      have e : wr t n = if (t n).there = true then 0 else 2 := by unfold wr; rw [if_neg (by omega), Int.toNat_natCast]
      rw [e, ← hh n hn]
      clear e H hh h1 h2
      cases hv : h n
      · rw [hv] at c
        go_enter Try.func56, Try.ntmps56
        go_wp2
        go_ret
        exact ⟨rfl, rfl⟩
      · rw [hv] at c
        go_enter Try.func56, Try.ntmps56
        go_wp2
        go_ret
        exact ⟨rfl, rfl⟩

/-- A row of numbers of one's own. -/
structure RL (w : World) (L : List Nat) (l : Value) (wr : World) : Prop where
  bel : Below w.heap.size w wr
  own : wr.ownsRow w.heap.size 3 1 l L.length (rowOf L)
theorem RL.more {w w1 wr : World} {L : List Nat} {k gg cap N : Nat} {l : Value} (h : RL w L l wr) (hN : L.length = N) (hl : w1.ownsRow w.heap.size 3 1 (.slice (some ⟨gg, 0, none⟩) (N + 1) cap) (N + 1) (rowOf L ++ [.int .i64 k])) (o : Obj) (hg : (wr.alloc o).grownBy w1 l.ownBlock) :
    RL w (L ++ [k]) (.slice (some ⟨gg, 0, none⟩) (N + 1) cap) w1 := by
  have hs := h.bel.size
  refine ⟨(h.bel.alloc hs o).grown hg (by simp; omega) (fun k e => (h.own.lt k e).1), ?_⟩
  have e2 : rowOf (L ++ [k]) = rowOf L ++ [.int .i64 k] := by simp [rowOf]
  rw [e2, show (L ++ [k]).length = N + 1 by simp [hN]]
  exact hl
/-- Where it is no empty one: its cells. -/
theorem RL.cells {w wr : World} {L : List Nat} {l : Value} (h : RL w L l wr) (h0 : 0 < L.length) : ∃ gg cap, l = .slice (some ⟨gg, 0, none⟩) L.length cap ∧ w.heap.size ≤ gg ∧ gg < wr.heap.size ∧ ∀ i, i < L.length → wr.cell? ⟨gg, i, none⟩ = some (.int .i64 (L.getD i 0 : Nat)) := by
  obtain ⟨gg, cap, hv, _, _⟩ := h.own.form h0
  subst hv
  have hl := h.own.lt gg rfl
  refine ⟨gg, cap, rfl, hl.1, hl.2, fun i hi => ?_⟩
  rw [h.own.cellAt i (by omega)]
  exact rowOf_at _ _ _ (by rw [List.getD_eq_getElem?_getD, List.getElem?_eq_getElem hi]; rfl)

set_option maxRecDepth 100000 in
set_option maxHeartbeats 1000000 in
theorem rgall_any (b : Nat) (t : Nat → Gp) (h : Nat → Bool) (G : Nat → Nat → Int) (w : World) (H0 : UAt w b h G) (hh : ∀ k, k < 10 → h k = (t k).there) :
    Calls Try.prog 68 #[.pointer (some ⟨b, 0, none⟩)] w fun e w' => ∃ v, e = .returned v ∧ RL w (thL t 10) v w' := by
  obtain ⟨i0, hi, hz0, hz1, hz2⟩ := info_parts info3
  have H := Hid.intro (And.intro H0 hh)
  have hbl := H0.lt
  clear H0 hh
  go_enter Try.func68, Try.ntmps68
  go_wp2_with fail
  go_loopw [3, 4] (fun l i wr => ∃ (k : Nat), i = .int .i64 k ∧ k ≤ 10 ∧ Hid (RL w (thL t k) l wr)) (fun _ i _ => 10 - (intOf i).toNat)
  case atStart => exact ⟨0, rfl, by omega, Below.refl _ _, World.ownsRow_nil _ _ _ _⟩
  case round =>
    obtain ⟨k, rfl, hk, R⟩ := hrel
    by_cases hlt : k < 10
    · have hltI : (k : Int) < 10 := by omega
      have c0 := (H.out.1.below R.out.bel hbl).ch k hlt
      rw [H.out.2 k hlt] at c0
      cases hth : (t k).there
      · have HTH : Hid (thL t (k + 1) = thL t k) := by unfold Hid; rw [thL_succ, if_neg (by simp [hth])]; simp
        rw [hth] at c0
        clear hth
        go_wp2_with fail
        go_roundw
        case rel => exact ⟨k + 1, by go_num, by omega, by rw [HTH.out]; exact R.out⟩
        case measure => simp [intOf]; omega
      · have HTH : Hid (thL t (k + 1) = thL t k ++ [k]) := by unfold Hid; rw [thL_succ, if_pos hth]
        rw [hth] at c0
        clear hth
        obtain ⟨a, cap, hv⟩ := own_form R.out.own
        rw [hv]
        have HV := Hid.intro hv
        have hlm := thL_len t k
        generalize hN : (thL t k).length = N at *
        have HN := Hid.intro hN
        clear hv hN
        go_wp2_with (at_builtin; refine wpList_append_lies _ rfl _ _ 47 (by rfl) w.heap.size 3 i0 (.int .i64 0) 1 8 Try.underlying47 hi hz0 hz1 hz2 rfl (by decide) (.slice a N cap) N (rowOf (thL t k)) (by rfl) (by rw [← HV.out, ← HN.out]; exact R.out.own.alloc _) ⟨wr.heap.size, 0, none⟩ 1 1 [.int .i64 k] (by rfl) rfl (cell_one_new _ _ _) (by simp [Value.oneCell']) (by decide) (by unfold maxLen; omega) (by omega) (by have := R.out.bel.size; simp; omega) (wr.heap.size + 1) (by simp) ?_; intro gg cap2 w1 hown hgrow hat hlt2; have Q1 : Hid (RL w (thL t k ++ [k]) (.slice (some ⟨gg, 0, none⟩) (N + 1) cap2) w1) := R.out.more HN.out hown _ (by rw [HV.out]; exact hgrow); clear hown hgrow hat hlt2)
        go_roundw
        case rel => exact ⟨k + 1, by go_num, by omega, by rw [HTH.out]; exact Q1.out⟩
        case measure => simp [intOf]; omega
    · have hk10 : k = 10 := by omega
      subst hk10
      go_wp2
      go_ret
      exact ⟨_, rfl, R.out⟩

set_option maxRecDepth 100000 in
set_option maxHeartbeats 1000000 in
theorem rway_any (b n : Nat) (t : Nat → Gp) (Wy : Nat → List (Fin 10)) (c : Nat) (h : Nat → Bool) (G : Nat → Nat → Int) (w : World) (H0 : UAt w b h G) (hT : Tree t Wy c) (hR : Rel t Wy h G) (hn : n < 10) (hh : (t n).there = true) :
    Calls Try.prog 57 #[.pointer (some ⟨b, 0, none⟩), .int .i64 n] w fun e w' => ∃ v, e = .returned v ∧ RL w (vals (Wy n)) v w' := by
  obtain ⟨i0, hi, hz0, hz1, hz2⟩ := info_parts info3
  have H := Hid.intro (And.intro H0 (And.intro hT (And.intro hR hh)))
  have hbl := H0.lt
  have hd := hT.deep n hn
  clear H0 hh hT hR
  go_enter Try.func57, Try.ntmps57
  go_wp2_with fail
  go_loopw [1, 5] (fun p l wr => ∃ (pre rest : List (Fin 10)) (g : Int), p = .int .i64 g ∧ Hid (Wy n = pre ++ rest ∧ Way t g (vals rest) ∧ (rest = [] → g < 0) ∧ RL w (vals pre) l wr)) (fun p _ _ => wleft t p 10)
  case atStart =>
    refine ⟨[], Wy n, n, rfl, rfl, H.out.2.1.ways n hn, fun e => ?_, ⟨Below.refl _ _, World.ownsRow_nil _ _ _ _⟩⟩
    obtain ⟨r, hr, _⟩ := way_cons H.out.2.1.ways hn H.out.2.2.2
    rw [e] at hr
    cases hr
  case round =>
    obtain ⟨pre, rest, g, rfl, HI⟩ := hrel
    cases rest with
    | nil =>
      have hg0 : ¬ 0 ≤ g := by have := HI.out.2.2.1 rfl; omega
      go_wp2
      go_ret
      refine ⟨_, rfl, ?_⟩
      rw [HI.out.1, List.append_nil]
      exact HI.out.2.2.2
    | cons x rest =>
      obtain ⟨hWn, ⟨rfl, hx10, hth, hrest⟩, _, R0⟩ := HI.out
      have R := Hid.intro R0
      have hxI : (x.val : Int) < 10 := by omega
      have hx0 : (0 : Int) ≤ (x.val : Int) := by omega
      have hend := (way_end H.out.2.1 hx10 hth).2 (rest := rest) hrest
      have HX := Hid.intro (And.intro hWn (And.intro hth (And.intro hrest hend)))
      have hlen : pre.length < 4 := by rw [hWn] at hd; simp at hd; omega
      have hrl : (x :: rest).length ≤ 10 := by rw [hWn] at hd; simp at hd ⊢; omega
      obtain ⟨a, cap, hv⟩ := own_form R.out.own
      rw [hv]
      have HV := Hid.intro hv
      have hlm : (vals pre).length < 4 := by simpa [vals] using hlen
      generalize hN : (vals pre).length = N at *
      have HN := Hid.intro hN
      clear hv hN hWn hth hrest hend HI R0 hlen
      go_wp2_with (at_builtin; refine wpList_append_lies _ rfl _ _ 47 (by rfl) w.heap.size 3 i0 (.int .i64 0) 1 8 Try.underlying47 hi hz0 hz1 hz2 rfl (by decide) (.slice a N cap) N (rowOf (vals pre)) (by rfl) (by rw [← HV.out, ← HN.out]; exact R.out.own.alloc _) ⟨wr.heap.size, 0, none⟩ 1 1 [.int .i64 (x.val : Int)] (by rfl) rfl (cell_one_new _ _ _) (by simp [Value.oneCell']) (by decide) (by unfold maxLen; omega) (by omega) (by have := R.out.bel.size; simp; omega) (wr.heap.size + 1) (by simp) ?_; intro gg cap2 w1 hown hgrow hat hlt2; have Q1 : Hid (RL w (vals pre ++ [x.val]) (.slice (some ⟨gg, 0, none⟩) (N + 1) cap2) w1) := R.out.more HN.out hown _ (by rw [HV.out]; exact hgrow); have c0 : w1.cell? ⟨b, 10 + x.val * 5, none⟩ = _ := (H.out.1.below Q1.out.bel hbl).cg x.val 0 hx10 (by omega); rw [(H.out.2.2.1.g hx10 HX.out.2.1).1] at c0; clear hown hgrow hat hlt2)
      go_roundw
      case rel => exact ⟨pre ++ [x], rest, _, rfl, by rw [HX.out.1]; simp, HX.out.2.2.1, HX.out.2.2.2, by rw [show vals (pre ++ [x]) = vals pre ++ [x.val] by simp [vals]]; exact Q1.out⟩
      case measure =>
        have hr := HX.out.2.2.1
        rw [wleft_eq 10 hr (by simp at hrl ⊢; omega), wleft_eq 10 (L := vals (x :: rest)) ⟨rfl, hx10, HX.out.2.1, hr⟩ (by simpa [vals] using hrl)]
        simp [vals]
end Go.Proofs.Ytgabceeekkcekaa

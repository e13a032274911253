/- summed: the rows of numbers that it holds in memory; its loops. -/
import Derived.Test.YtgabceeekkcekaaGi
import Derived.BigQuiet
namespace Go.Proofs.Ytgabceeekkcekaa
open Go.RowKit Go.Shelf

/-- Two numbers for each of ten. -/
def encP (A B : Nat → Int) : Array Value := ((List.range 20).map fun i => Value.int .i64 (if i % 2 = 0 then A (i / 2) else B (i / 2))).toArray
theorem encP_size (A B : Nat → Int) : (encP A B).size = 20 := by simp [encP]
theorem encP_0 (A B : Nat → Int) (m : Nat) (hm : m < 10) : (encP A B)[m * 2]? = some (.int .i64 (A m)) := by
  have e1 : m * 2 / 2 = m := by omega
  have e2 : m * 2 % 2 = 0 := by omega
  have e3 : m * 2 < 20 := by omega
  simp [encP, e3]
theorem encP_1 (A B : Nat → Int) (m : Nat) (hm : m < 10) : (encP A B)[m * 2 + 1]? = some (.int .i64 (B m)) := by
  have e1 : (m * 2 + 1) / 2 = m := by omega
  have e2 : (m * 2 + 1) % 2 = 1 := by omega
  have e3 : m * 2 + 1 < 20 := by omega
  simp [encP, e3, e1, e2]
theorem encP_ext (A B : Nat → Int) (c : Array Value) (hs : c.size = 20) (h0 : ∀ m, m < 10 → c[m * 2]? = some (.int .i64 (A m))) (h1 : ∀ m, m < 10 → c[m * 2 + 1]? = some (.int .i64 (B m))) : c = encP A B := by
  apply Array.ext_getElem?
  intro i
  rcases Nat.lt_or_ge i 20 with hi | hi
  · by_cases e : i % 2 = 0
    · rw [show i = i / 2 * 2 by omega, h0 (i / 2) (by omega), encP_0 A B (i / 2) (by omega)]
    · rw [show i = i / 2 * 2 + 1 by omega, h1 (i / 2) (by omega), encP_1 A B (i / 2) (by omega)]
  · rw [Array.getElem?_eq_none (by omega), Array.getElem?_eq_none (by rw [encP_size]; omega)]
def PAt (w : World) (b : Nat) (A B : Nat → Int) : Prop := w.heap[b]? = some (.cells (encP A B) 74 (0, 0))
def updI (A : Nat → Int) (n : Nat) (v : Int) : Nat → Int := fun k => if k = n then v else A k
theorem updI_same (A : Nat → Int) (n : Nat) (v : Int) : updI A n v n = v := by simp [updI]
theorem updI_ne (A : Nat → Int) (n k : Nat) (v : Int) (h : k ≠ n) : updI A n v k = A k := by simp [updI, h]
section
variable {w : World} {b : Nat} {A B : Nat → Int}
theorem PAt.c0 (h : PAt w b A B) (m : Nat) (hm : m < 10) : w.cell? ⟨b, m * 2, none⟩ = some (.int .i64 (A m)) := by rw [heap_cell h, encP_0 A B m hm]
theorem PAt.c1 (h : PAt w b A B) (m : Nat) (hm : m < 10) : w.cell? ⟨b, m * 2 + 1, none⟩ = some (.int .i64 (B m)) := by rw [heap_cell h, encP_1 A B m hm]
theorem PAt.frozen (h : PAt w b A B) (o : Nat) : w.frozen? ⟨b, o, none⟩ = false := heap_frozen h o
theorem PAt.lt (h : PAt w b A B) : b < w.heap.size := (Array.getElem?_eq_some_iff.1 h).1
theorem PAt.below {w' : World} (h : PAt w b A B) {N : Nat} (hB : Below N w w') (hb : b < N) : PAt w' b A B := (hB.block b hb).trans h
theorem PAt.set0 (h : PAt w b A B) (m : Nat) (hm : m < 10) (v : Int) : PAt (w.setCell ⟨b, m * 2, none⟩ (.int .i64 v)) b (updI A m v) B := by
  unfold PAt
  rw [heap_set h]
  refine congrArg (fun c => some (Obj.cells c 74 (0, 0))) ?_
  refine encP_ext _ _ _ (by simp [encP_size]) (fun n hn => ?_) (fun n hn => ?_)
  · by_cases e : n = m
    · subst e
      rw [updI_same, Array.getElem?_setIfInBounds_self_of_lt (by rw [encP_size]; omega)]
    · rw [updI_ne _ _ _ _ e, Array.getElem?_setIfInBounds_ne (by omega), encP_0 A B n hn]
  · rw [Array.getElem?_setIfInBounds_ne (by omega), encP_1 A B n hn]
theorem PAt.set1 (h : PAt w b A B) (m : Nat) (hm : m < 10) (v : Int) : PAt (w.setCell ⟨b, m * 2 + 1, none⟩ (.int .i64 v)) b A (updI B m v) := by
  unfold PAt
  rw [heap_set h]
  refine congrArg (fun c => some (Obj.cells c 74 (0, 0))) ?_
  refine encP_ext _ _ _ (by simp [encP_size]) (fun n hn => ?_) (fun n hn => ?_)
  · rw [Array.getElem?_setIfInBounds_ne (by omega), encP_0 A B n hn]
  · by_cases e : n = m
    · subst e
      rw [updI_same, Array.getElem?_setIfInBounds_self_of_lt (by rw [encP_size]; omega)]
    · rw [updI_ne _ _ _ _ e, Array.getElem?_setIfInBounds_ne (by omega), encP_1 A B n hn]
theorem PAt.other (h : PAt w b A B) {b' : Nat} (hb : b' ≠ b) (o : Nat) (v : Value) : PAt (w.setCell ⟨b', o, none⟩ v) b A B := (setBlk _ _ _ _ (Ne.symm hb)).trans h
end

/-- Five numbers for each of ten. -/
def encW (G : Nat → Nat → Int) : Array Value := ((List.range 50).map fun i => Value.int .i64 (G (i / 5) (i % 5))).toArray
theorem encW_size (G : Nat → Nat → Int) : (encW G).size = 50 := by simp [encW]
theorem encW_at (G : Nat → Nat → Int) (n j : Nat) (hn : n < 10) (hj : j < 5) : (encW G)[n * 5 + j]? = some (.int .i64 (G n j)) := by
  have e1 : (n * 5 + j) / 5 = n := by omega
  have e2 : (n * 5 + j) % 5 = j := by omega
  have e3 : n * 5 + j < 50 := by omega
  simp [encW, e3, e1, e2]
theorem encW_ext (G : Nat → Nat → Int) (c : Array Value) (hs : c.size = 50) (h : ∀ n j, n < 10 → j < 5 → c[n * 5 + j]? = some (.int .i64 (G n j))) : c = encW G := by
  apply Array.ext_getElem?
  intro i
  rcases Nat.lt_or_ge i 50 with hi | hi
  · have e : i = i / 5 * 5 + i % 5 := by omega
    rw [e, h (i / 5) (i % 5) (by omega) (by omega), encW_at G (i / 5) (i % 5) (by omega) (by omega)]
  · rw [Array.getElem?_eq_none (by omega), Array.getElem?_eq_none (by rw [encW_size]; omega)]
def WAt (w : World) (b : Nat) (G : Nat → Nat → Int) : Prop := w.heap[b]? = some (.cells (encW G) 77 (0, 0))
section
variable {w : World} {b : Nat} {G : Nat → Nat → Int}
theorem WAt.cell (h : WAt w b G) (n j : Nat) (hn : n < 10) (hj : j < 5) : w.cell? ⟨b, n * 5 + j, none⟩ = some (.int .i64 (G n j)) := by rw [heap_cell h, encW_at G n j hn hj]
theorem WAt.frozen (h : WAt w b G) (o : Nat) : w.frozen? ⟨b, o, none⟩ = false := heap_frozen h o
theorem WAt.lt (h : WAt w b G) : b < w.heap.size := (Array.getElem?_eq_some_iff.1 h).1
theorem WAt.below {w' : World} (h : WAt w b G) {N : Nat} (hB : Below N w w') (hb : b < N) : WAt w' b G := (hB.block b hb).trans h
theorem WAt.other (h : WAt w b G) {b' : Nat} (hb : b' ≠ b) (o : Nat) (v : Value) : WAt (w.setCell ⟨b', o, none⟩ v) b G := (setBlk _ _ _ _ (Ne.symm hb)).trans h
end
theorem zero74 : encP (fun _ => 0) (fun _ => 0) = #[Value.int IntKind.i64 0, Value.int IntKind.i64 0, Value.int IntKind.i64 0, Value.int IntKind.i64 0, Value.int IntKind.i64 0, Value.int IntKind.i64 0, Value.int IntKind.i64 0, Value.int IntKind.i64 0, Value.int IntKind.i64 0, Value.int IntKind.i64 0, Value.int IntKind.i64 0, Value.int IntKind.i64 0, Value.int IntKind.i64 0, Value.int IntKind.i64 0, Value.int IntKind.i64 0, Value.int IntKind.i64 0, Value.int IntKind.i64 0, Value.int IntKind.i64 0, Value.int IntKind.i64 0, Value.int IntKind.i64 0] := by kernel_rfl
theorem zero77 : encW (fun _ _ => 0) = #[Value.int IntKind.i64 0, Value.int IntKind.i64 0, Value.int IntKind.i64 0, Value.int IntKind.i64 0, Value.int IntKind.i64 0, Value.int IntKind.i64 0, Value.int IntKind.i64 0, Value.int IntKind.i64 0, Value.int IntKind.i64 0, Value.int IntKind.i64 0, Value.int IntKind.i64 0, Value.int IntKind.i64 0, Value.int IntKind.i64 0, Value.int IntKind.i64 0, Value.int IntKind.i64 0, Value.int IntKind.i64 0, Value.int IntKind.i64 0, Value.int IntKind.i64 0, Value.int IntKind.i64 0, Value.int IntKind.i64 0, Value.int IntKind.i64 0, Value.int IntKind.i64 0, Value.int IntKind.i64 0, Value.int IntKind.i64 0, Value.int IntKind.i64 0, Value.int IntKind.i64 0, Value.int IntKind.i64 0, Value.int IntKind.i64 0, Value.int IntKind.i64 0, Value.int IntKind.i64 0, Value.int IntKind.i64 0, Value.int IntKind.i64 0, Value.int IntKind.i64 0, Value.int IntKind.i64 0, Value.int IntKind.i64 0, Value.int IntKind.i64 0, Value.int IntKind.i64 0, Value.int IntKind.i64 0, Value.int IntKind.i64 0, Value.int IntKind.i64 0, Value.int IntKind.i64 0, Value.int IntKind.i64 0, Value.int IntKind.i64 0, Value.int IntKind.i64 0, Value.int IntKind.i64 0, Value.int IntKind.i64 0, Value.int IntKind.i64 0, Value.int IntKind.i64 0, Value.int IntKind.i64 0, Value.int IntKind.i64 0] := by kernel_rfl

/-- What summed has in its hands. -/
structure Sm (w W : World) (A B : Nat → Int) (G : Nat → Nat → Int) (L : List Nat) (gg s : Nat) (SA SB : Nat → Int) : Prop where
  bel : Below w.heap.size w W
  own : PAt W w.heap.size A B
  was : WAt W (w.heap.size + 1) G
  sum : PAt W s SA SB
  lst : ∀ i, i < L.length → W.cell? ⟨gg, i, none⟩ = some (.int .i64 (L.getD i 0 : Nat))
  ls : gg < s
  lg : w.heap.size + 2 ≤ gg
section
variable {w W W' : World} {A B : Nat → Int} {G : Nat → Nat → Int} {L : List Nat} {gg s : Nat} {SA SB : Nat → Int}
theorem Sm.below (h : Sm w W A B G L gg s SA SB) (hb : Below (s + 1) W W') : Sm w W' A B G L gg s SA SB := by
  have h1 := h.ls
  have h2 := h.lg
  exact ⟨h.bel.trans (hb.mono (by omega)), h.own.below hb (by omega), h.was.below hb (by omega), h.sum.below hb (by omega), fun i hi => (hb.cell (p := ⟨gg, i, none⟩) (show gg < s + 1 by omega)).trans (h.lst i hi), h1, h2⟩
theorem Sm.drew (h : Sm w W A B G L gg s SA SB) : Sm w W.drew A B G L gg s SA SB := h.below (Below.refl _ _).drew
theorem Sm.drewN (h : Sm w W A B G L gg s SA SB) (n : Nat) : Sm w (W.drewN n) A B G L gg s SA SB := h.below (below_drewN (Below.refl _ _) n)
theorem Sm.set0 (h : Sm w W A B G L gg s SA SB) {m : Nat} (hm : m < 10) (v : Int) : Sm w (W.setCell ⟨s, m * 2, none⟩ (.int .i64 v)) A B G L gg s (updI SA m v) SB := by
  have h1 := h.ls
  have h2 := h.lg
  exact ⟨h.bel.setCell (show w.heap.size ≤ s by omega) _, h.own.other (by omega) _ _, h.was.other (by omega) _ _, h.sum.set0 m hm v, fun i hi => by
    rw [World.cell?_setCell_far _ _ _ _ (show s ≠ gg by omega)]; exact h.lst i hi, h1, h2⟩
theorem Sm.set1 (h : Sm w W A B G L gg s SA SB) {m : Nat} (hm : m < 10) (v : Int) : Sm w (W.setCell ⟨s, m * 2 + 1, none⟩ (.int .i64 v)) A B G L gg s SA (updI SB m v) := by
  have h1 := h.ls
  have h2 := h.lg
  exact ⟨h.bel.setCell (show w.heap.size ≤ s by omega) _, h.own.other (by omega) _ _, h.was.other (by omega) _ _, h.sum.set1 m hm v, fun i hi => by
    rw [World.cell?_setCell_far _ _ _ _ (show s ≠ gg by omega)]; exact h.lst i hi, h1, h2⟩
end
/-- Where All has come back, and the sums are made. -/
theorem Sm.start {w W : World} {A B : Nat → Int} {G : Nat → Nat → Int} {t : Nat → Gp} {gg cap N : Nat} (hN : (thL t 10).length = N) (h : AL ((w.alloc (.cells (encP A B) 74)).alloc (.cells (encW G) 77)) t 10 (.slice (some ⟨gg, 0, none⟩) N cap) W) :
    Sm w (W.alloc (.cells (encP (fun _ => 0) (fun _ => 0)) 74)) A B G (thL t 10) gg W.heap.size (fun _ => 0) (fun _ => 0) := by
  have hs := h.bel.size
  simp at hs
  have hl := h.own.lt gg rfl
  simp at hl
  have ha : Below W.heap.size W (W.alloc (.cells (encP (fun _ => 0) (fun _ => 0)) 74)) := (Below.refl _ _).alloc (Nat.le_refl _) _
  have e2 := al2 w (.cells (encP A B) 74) (.cells (encW G) 77)
  have hb1 : Below w.heap.size w ((w.alloc (.cells (encP A B) 74)).alloc (.cells (encW G) 77)) := ((Below.refl _ w).alloc (Nat.le_refl _) _).alloc (by simp) _
  have o1 : PAt W w.heap.size A B := (h.bel.block _ (by simp; omega)).trans e2.1
  have o2 : WAt W (w.heap.size + 1) G := (h.bel.block _ (by simp)).trans e2.2
  refine ⟨(hb1.trans (h.bel.mono (by simp; omega))).trans (ha.mono (by omega)), o1.below ha (by omega), o2.below ha (by omega), heap_alloc_new _ _, fun i hi => ?_, by omega, by omega⟩
  have ho := h.own
  rw [hN] at ho
  rw [ha.cell (p := ⟨gg, i, none⟩) (show gg < W.heap.size by omega), ho.cellAt i (by omega)]
  exact rowOf_at _ _ _ (by rw [List.getD_eq_getElem?_getD, List.getElem?_eq_getElem hi]; rfl)

theorem getD_lt {t : Nat → Gp} {i : Nat} (hi : i < (thL t 10).length) : (thL t 10).getD i 0 < 10 ∧ (t ((thL t 10).getD i 0)).there = true := by
  have h : (thL t 10).getD i 0 ∈ thL t 10 := by
    rw [List.getD_eq_getElem?_getD, List.getElem?_eq_getElem hi]
    exact List.getElem_mem hi
  exact mem_thL.1 h
theorem take_snoc (L : List Nat) {i : Nat} (hi : i < L.length) : L.take (i + 1) = L.take i ++ [L.getD i 0] := by
  rw [List.take_succ_eq_append_getElem hi, List.getD_eq_getElem?_getD, List.getElem?_eq_getElem hi]
  rfl
/-- The sums on the way: those of 'pre' have it already. -/
def onWay (S : Nat → Int) (pre : List (Fin 10)) (v : Int) : Nat → Int := fun m => S m + if m ∈ vals pre then v else 0
theorem onWay_nil (S : Nat → Int) (v : Int) : onWay S [] v = S := by funext m; simp [onWay, vals]
theorem onWay_snoc (S : Nat → Int) (pre : List (Fin 10)) (v : Int) (x : Fin 10) (hx : x.val ∉ vals pre) : updI (onWay S pre v) x.val (onWay S pre v x.val + v) = onWay S (pre ++ [x]) v := by
  funext m
  by_cases e : m = x.val
  · subst e
    rw [updI_same]
    simp only [onWay]
    rw [if_neg hx, if_pos (by simp [vals])]
    omega
  · rw [updI_ne _ _ _ _ e]
    simp only [onWay]
    have : (m ∈ vals (pre ++ [x])) ↔ m ∈ vals pre := by simp [vals, e]
    by_cases h : m ∈ vals pre
    · rw [if_pos h, if_pos (this.2 h)]
    · rw [if_neg h, if_neg (fun h2 => h (this.1 h2))]
theorem onWay_all (t : Nat → Gp) (Wy : Nat → List (Fin 10)) (sel : Gp → Int) (L : List Nat) (j : Nat) : onWay (fun m => sumL t Wy sel m L) (Wy j) (sel (t j)) = fun (m : Nat) => sumL t Wy sel m (L ++ [j]) := by
  funext m
  rw [sumL_snoc]
  simp only [onWay]
  have : (m ∈ vals (Wy j)) ↔ und Wy j m = true := by
    rw [und_iff]
    simp only [vals, List.mem_map]
    constructor
    · rintro ⟨x, hx, e⟩; exact ⟨x, hx, by omega⟩
    · rintro ⟨x, hx, e⟩; exact ⟨x, hx, by omega⟩
  by_cases h : m ∈ vals (Wy j)
  · rw [if_pos h, if_pos (this.1 h)]
  · rw [if_neg h, if_neg (fun h2 => h (this.2 h2))]

theorem way_end {t : Nat → Gp} {Wy : Nat → List (Fin 10)} {c : Nat} (h : Tree t Wy c) {x : Nat} (hx : x < 10) (hh : (t x).there = true) : (t x).par < 10 ∧ ∀ {rest : List (Fin 10)}, Way t (t x).par (vals rest) → rest = [] → (t x).par < 0 := by
  by_cases e : x = 0
  · subst e
    rw [h.root.2]
    exact ⟨by omega, fun _ _ => by omega⟩
  · obtain ⟨m, em, hm, hmh⟩ := h.par x hx hh e
    refine ⟨by omega, fun hw hr => ?_⟩
    rw [hr] at hw
    exact absurd ⟨by omega, by omega, by rw [em, Int.toNat_natCast]; exact hmh⟩ hw

set_option maxRecDepth 100000 in
set_option maxHeartbeats 2000000 in
theorem summed_any (b : Nat) (t : Nat → Gp) (Wy : Nat → List (Fin 10)) (c : Nat) (A B : Nat → Int) (G : Nat → Nat → Int) (w : World) (h : TAt w b t) (hT : Tree t Wy c) (hc : c ≤ 1000) (hO : ∀ k, k < 10 → (t k).there = true → A k = (t k).op ∧ B k = (t k).oq) (hF : Fit t Wy G) :
    Calls Try.prog 41 #[.pointer (some ⟨b, 0, none⟩), .agg (encP A B), .agg (encW G)] w fun e w' => e = .returned (.bool true) ∧ Below w.heap.size w w' := by
  have H : Hid (TAt w b t ∧ Tree t Wy c ∧ (∀ k, k < 10 → (t k).there = true → A k = (t k).op ∧ B k = (t k).oq) ∧ Fit t Wy G) := ⟨h, hT, hO, hF⟩
  have HS := Hid.intro (hT.small hc)
  have hbl : b < w.heap.size := h.lt
  have hN0 : 0 < (thL t 10).length := by
    have : 0 ∈ thL t 10 := mem_thL.2 ⟨by omega, hT.root.1⟩
    exact List.length_pos_of_mem this
  have hN10 := thL_len t 10
  clear h hT hO hF hc
  go_enter Try.func41, Try.ntmps41
  go_wp2_with fail
  refine (gall_any b t _ (H.out.1.below (((Below.refl _ w).alloc (Nat.le_refl _) _).alloc (by simp) _) hbl)).mono ?_
  rintro e W1 ⟨v, rfl, hA⟩
  generalize hN : (thL t 10).length = N at *
  have HN := Hid.intro hN
  have ho := hA.own
  rw [hN] at ho
  obtain ⟨gg, cap, hv, _, _⟩ := ho.form hN0
  subst hv
  have S0 := Sm.start hN hA
  rw [zero74] at S0
  clear hA ho hN
  go_wp2_with fail
  refine wp_gen (fun W => Sm w W A B G (thL t 10) gg W1.heap.size (fun _ => 0) (fun _ => 0)) S0 ?_
  intro W2 hS2
  clear S0
  generalize W1.heap.size = s at *
  go_loopw [9] (fun i wr => ∃ (k : Nat), i = .int .i64 k ∧ k ≤ N ∧ Hid (Sm w wr A B G (thL t 10) gg s (fun m => sumL t Wy Gp.op m ((thL t 10).take k)) (fun m => sumL t Wy Gp.oq m ((thL t 10).take k)))) (fun i _ => N - (intOf i).toNat)
  case atStart => exact ⟨0, rfl, by omega, hS2⟩
  case round =>
    clear hS2
    obtain ⟨k, rfl, hk, HM⟩ := hrel
    by_cases hlt : k < N
    · have hltI : (k : Int) < N := by omega
      have hg := getD_lt (t := t) (i := k) (by rw [HN.out]; exact hlt)
      have cl := HM.out.lst k (by rw [HN.out]; exact hlt)
      generalize hj : (thL t 10).getD k 0 = j at *
      have hO := H.out.2.2.1 j hg.1 hg.2
      have hsm := HS.out j hg.1
      have hj10 : (j : Int) < 10 := by omega
      have a0 := HM.out.own.c0 j hg.1
      have a1 := HM.out.own.c1 j hg.1
      have HJ := Hid.intro (And.intro hj hg)
      have HO := Hid.intro hO
      have na : ¬ A j < 0 := by omega
      have nb : ¬ B j < 0 := by omega
      generalize hPA : A j = PA at *
      generalize hPB : B j = PB at *
      have HP := Hid.intro (And.intro hPA hPB)
      have hpa : 0 ≤ PA ∧ PA ≤ 1000000 := by omega
      have hpb : 0 ≤ PB ∧ PB ≤ 1000000 := by omega
      clear hj hg hO hsm hPA hPB
      have hss := HM.out.ls
      have hsg := HM.out.lg
      have hso : w.heap.size ≠ s := by omega
      have hgs : gg ≠ s := by omega
      have hsl := HM.out.sum.lt
      go_wp2_with fail
      go_loopw [10] (fun p wr => ∃ (pre rest : List (Fin 10)) (g : Int), p = .int .i64 g ∧ Hid (Wy j = pre ++ rest ∧ Way t g (vals rest) ∧ (rest = [] → g < 0) ∧ Sm w wr A B G (thL t 10) gg s (onWay (fun m => sumL t Wy Gp.op m ((thL t 10).take k)) pre PA) (onWay (fun m => sumL t Wy Gp.oq m ((thL t 10).take k)) pre PB))) (fun p _ => wleft t p 10)
      case atStart =>
        have hw := H.out.2.1.ways j HJ.out.2.1
        refine ⟨[], Wy j, j, rfl, rfl, hw, fun e => ?_, ?_⟩
        · obtain ⟨r, hr, _⟩ := way_cons H.out.2.1.ways HJ.out.2.1 HJ.out.2.2
          rw [e] at hr
          cases hr
        · rw [onWay_nil, onWay_nil]
          exact HM.out
      case round =>
        clear cl a0 a1 hsl
        obtain ⟨pre, rest, g, rfl, HI⟩ := hrel
        cases rest with
        | nil =>
          have hg0 : ¬ 0 ≤ g := by have := HI.out.2.2.1 rfl; omega
          go_wp2_with fail
          go_roundw
          case rel =>
            refine ⟨k + 1, by go_num, by omega, ?_⟩
            have e1 := HI.out.1
            rw [List.append_nil] at e1
            have hS := HI.out.2.2.2
            rw [← e1, HO.out.1, HO.out.2, onWay_all, onWay_all, ← HJ.out.1, ← take_snoc _ (by rw [HN.out]; exact hlt)] at hS
            exact hS
          case measure => simp [intOf]; omega
        | cons x rest =>
          obtain ⟨hWj, ⟨rfl, hx10, hth, hrest⟩, _, hS⟩ := HI.out
          have hxp : x.val ∉ vals pre := by
            have := way_nodup (H.out.2.1.ways j HJ.out.2.1)
            rw [hWj] at this
            simp only [vals, List.map_append, List.map_cons, List.nodup_append, List.nodup_cons] at this
            intro hm
            exact this.2.2 _ hm x.val (by simp) rfl
          have hxI : (x.val : Int) < 10 := by omega
          have hx0 : (0 : Int) ≤ (x.val : Int) := by omega
          have hend := way_end H.out.2.1 hx10 hth
          have HX := Hid.intro (And.intro hWj (And.intro hth (And.intro hrest (And.intro hxp (hend.2 (rest := rest) hrest)))))
          have hp10 : ¬ 10 ≤ (t x.val).par := by omega
          clear hWj hth hrest hxp hend HI
          have cl := hS.lst k (by rw [HN.out]; exact hlt)
          rw [HJ.out.1] at cl
          have a0 := hS.own.c0 j HJ.out.2.1
          rw [HP.out.1] at a0
          have s0 := hS.sum.c0 x.val hx10
          have sf := hS.sum.frozen
          have sn := onWay_snoc (fun m => sumL t Wy Gp.op m ((thL t 10).take k)) pre PA x HX.out.2.2.2.1
          have sn2 := onWay_snoc (fun m => sumL t Wy Gp.oq m ((thL t 10).take k)) pre PB x HX.out.2.2.2.1
          have bd : (0 ≤ onWay (fun m => sumL t Wy Gp.op m ((thL t 10).take k)) pre PA x.val ∧ onWay (fun m => sumL t Wy Gp.op m ((thL t 10).take k)) pre PA x.val ≤ 10000000) ∧ (0 ≤ onWay (fun m => sumL t Wy Gp.oq m ((thL t 10).take k)) pre PB x.val ∧ onWay (fun m => sumL t Wy Gp.oq m ((thL t 10).take k)) pre PB x.val ≤ 10000000) := by
            have hall : ∀ i ∈ (thL t 10).take k, i < 10 := fun i hi => (mem_thL.1 (List.mem_of_mem_take hi)).1
            have h1 := sumL_bd (Wy := Wy) (sel := Gp.op) (n := (x.val : Int)) (fun i hi => (HS.out i hi).1) _ hall
            have h2 := sumL_bd (Wy := Wy) (sel := Gp.oq) (n := (x.val : Int)) (fun i hi => (HS.out i hi).2) _ hall
            have h3 : ((thL t 10).take k).length ≤ 10 := by rw [List.length_take]; omega
            simp only [onWay]
            rw [if_neg HX.out.2.2.2.1, if_neg HX.out.2.2.2.1]
            omega
          generalize onWay (fun m => sumL t Wy Gp.op m ((thL t 10).take k)) pre PA = SA at *
          generalize onWay (fun m => sumL t Wy Gp.oq m ((thL t 10).take k)) pre PB = SB at *
          have HM2 := Hid.intro hS
          have HSN := Hid.intro (And.intro sn sn2)
          clear hS sn sn2
          generalize hVA : SA x.val = VA at *
          generalize hVB : SB x.val = VB at *
          have HV := Hid.intro (And.intro hVA hVB)
          clear hVA hVB
          obtain ⟨bd1, bd2⟩ := bd
          go_wp2_with fail
          go_region
          go_wp2_with fail
          refine wp_gen (fun W => Sm w W A B G (thL t 10) gg s (updI SA x.val (VA + PA)) SB) (HM2.out.set0 hx10 (VA + PA)).drew ?_
          intro W5 hS5
          clear cl a0 s0 sf
          have cl := hS5.lst k (by rw [HN.out]; exact hlt)
          rw [HJ.out.1] at cl
          have a1 := hS5.own.c1 j HJ.out.2.1
          rw [HP.out.2] at a1
          have s1 := hS5.sum.c1 x.val hx10
          rw [HV.out.2] at s1
          have sf := hS5.sum.frozen
          have HM5 := Hid.intro hS5
          clear hS5
          go_wp2_with fail
          go_region
          go_wp2_with fail
          have HM6 := Hid.intro (HM5.out.set1 hx10 (VB + PB)).drew
          clear cl a1 s1 sf
          refine (of_ok b x.val t Wy _ (H.out.1.below HM6.out.bel hbl) H.out.2.1.ways HS.out hx10 HX.out.2.1).mono ?_
          rintro e W7 ⟨rfl, hb7⟩
          have HM7 := Hid.intro (HM6.out.below (hb7.mono (by have := HM6.out.sum.lt; omega)))
          have hs7 : s + 1 ≤ W7.heap.size := HM7.out.sum.lt
          clear hb7
          generalize hPR : (t x.val).par = PR at *
          have HPR := Hid.intro hPR
          clear hPR
          go_wp2_with fail
          go_roundw
          case rel =>
            refine ⟨pre ++ [x], rest, PR, rfl, by rw [HX.out.1]; simp, HX.out.2.2.1, HX.out.2.2.2.2, ?_⟩
            have hS := HM7.out.below ((Below.refl _ W7).alloc hs7 (.cells #[.int .i64 PR, .int .i64 (t x.val).lp, .int .i64 (t x.val).lq, .int .i64 (totTo t Wy x.val Gp.op 10), .int .i64 (totTo t Wy x.val Gp.oq 10)] 76))
            rw [HSN.out.1, HSN.out.2] at hS
            exact hS
          case measure =>
            have hd := H.out.2.1.deep j HJ.out.2.1
            rw [HX.out.1] at hd
            simp only [List.length_append, List.length_cons] at hd
            have hr := HX.out.2.2.1
            rw [wleft_eq 10 hr (by simp; omega), wleft_eq 10 (L := vals (x :: rest)) ⟨rfl, hx10, HX.out.2.1, by rw [HPR.out]; exact hr⟩ (by simp [vals]; omega)]
            simp [vals]
    · have hkN : k = N := by omega
      subst hkN
      have hS := HM.out
      rw [show (thL t 10).take k = thL t 10 by rw [← HN.out]; exact List.take_length, show (fun m : Nat => sumL t Wy Gp.op m (thL t 10)) = fun (m : Nat) => totTo t Wy m Gp.op 10 by funext m; exact sumL_thL H.out.2.1.ways 10 (Nat.le_refl _), show (fun m : Nat => sumL t Wy Gp.oq m (thL t 10)) = fun (m : Nat) => totTo t Wy m Gp.oq 10 by funext m; exact sumL_thL H.out.2.1.ways 10 (Nat.le_refl _)] at hS
      have HM2 := Hid.intro hS
      clear HM hS
      go_wp2_with fail
      go_loopw [13] (fun i wr => ∃ (k2 : Nat), i = .int .i64 k2 ∧ k2 ≤ k ∧ Hid (Sm w wr A B G (thL t 10) gg s (fun m => totTo t Wy m Gp.op 10) (fun m => totTo t Wy m Gp.oq 10))) (fun i _ => k - (intOf i).toNat)
      case atStart => exact ⟨0, rfl, by omega, HM2.out⟩
      case round =>
        clear HM2
        obtain ⟨i, rfl, hi, HM⟩ := hrel
        by_cases hlt2 : i < k
        · have hltI : (i : Int) < k := by omega
          have hg := getD_lt (t := t) (i := i) (by rw [HN.out]; exact hlt2)
          have cl := HM.out.lst i (by rw [HN.out]; exact hlt2)
          generalize hj : (thL t 10).getD i 0 = j at *
          have hj10 : (j : Int) < 10 := by omega
          have HJ := Hid.intro (And.intro hj hg)
          clear hj hg
          go_wp2_with fail
          refine (of_ok b j t Wy _ (H.out.1.below HM.out.bel hbl) H.out.2.1.ways HS.out HJ.out.2.1 HJ.out.2.2).mono ?_
          rintro e W7 ⟨rfl, hb7⟩
          have HM7 := Hid.intro (HM.out.below (hb7.mono (by have := HM.out.sum.lt; omega)))
          have hs7 : s + 1 ≤ W7.heap.size := HM7.out.sum.lt
          have hf := H.out.2.2.2 j HJ.out.2.1 HJ.out.2.2
          clear hb7 cl
          generalize hX : totTo t Wy j Gp.op 10 = X at *
          generalize hY : totTo t Wy j Gp.oq 10 = Y at *
          generalize hLP : (t j).lp = LP at *
          generalize hLQ : (t j).lq = LQ at *
          generalize (t j).par = PR at *
          have HXY := Hid.intro (And.intro hX hY)
          have HF := Hid.intro hf
          clear hX hY hLP hLQ hf
          go_wp2_with fail
          have S8 : Sm w (W7.alloc (.cells #[.int .i64 PR, .int .i64 LP, .int .i64 LQ, .int .i64 X, .int .i64 Y] 76)) A B G (thL t 10) gg s (fun m => totTo t Wy m Gp.op 10) (fun m => totTo t Wy m Gp.oq 10) := HM7.out.below ((Below.refl _ W7).alloc hs7 _)
          refine wp_gen (fun W => Sm w W A B G (thL t 10) gg s (fun m => totTo t Wy m Gp.op 10) (fun m => totTo t Wy m Gp.oq 10) ∧ W.heap[W7.heap.size]? = some (.cells #[.int .i64 PR, .int .i64 LP, .int .i64 LQ, .int .i64 X, .int .i64 Y] 76 (0, 0))) ⟨S8, heap_alloc_new _ _⟩ ?_
          rintro W8 ⟨hS8, hC8⟩
          generalize W7.heap.size = g8 at *
          have cl := hS8.lst i (by rw [HN.out]; exact hlt2)
          rw [HJ.out.1] at cl
          have s0 := hS8.sum.c0 j HJ.out.2.1
          have s1 := hS8.sum.c1 j HJ.out.2.1
          have q3 := hS8.was.cell j 3 HJ.out.2.1 (by omega)
          have q4 := hS8.was.cell j 4 HJ.out.2.1 (by omega)
          rw [HXY.out.1] at s0
          rw [HXY.out.2] at s1
          have r1 : W8.cell? ⟨g8, 1, none⟩ = some (.int .i64 LP) := heap_cell hC8 1
          have r2 : W8.cell? ⟨g8, 2, none⟩ = some (.int .i64 LQ) := heap_cell hC8 2
          have r3 : W8.cell? ⟨g8, 3, none⟩ = some (.int .i64 X) := heap_cell hC8 3
          have r4 : W8.cell? ⟨g8, 4, none⟩ = some (.int .i64 Y) := heap_cell hC8 4
          have HM8 := Hid.intro hS8
          clear hS8 hC8 S8 HM7 HM
          generalize G j 3 = G3 at *
          generalize G j 4 = G4 at *
          go_quiet (fail)
          go_wp2_with fail
          have hc1 : decide (0 ≤ LP) = false ∨ (0 ≤ LP ∧ decide (LP < X) = false) ∨ (0 ≤ LP ∧ LP < X ∧ decide (G3 < X) = false) := by
            have := HF.out.1
            simp only [decide_eq_false_iff_not]
            omega
          have hc2 : decide (0 ≤ LQ) = false ∨ (0 ≤ LQ ∧ decide (LQ < Y) = false) ∨ (0 ≤ LQ ∧ LQ < Y ∧ decide (G4 < Y) = false) := by
            have := HF.out.2
            simp only [decide_eq_false_iff_not]
            omega
          rcases hc1 with h1 | ⟨h1, h2⟩ | ⟨h1, h2, h3⟩ <;> rcases hc2 with h4 | ⟨h4, h5⟩ | ⟨h4, h5, h6⟩
          all_goals (go_quiet (fail))
          all_goals (go_wp2_with fail)
          all_goals (go_roundw)
          all_goals (first | exact ⟨i + 1, by go_num, by omega, HM8.out.drewN _⟩ | (simp [intOf]; omega))
        · have hiN : i = k := by omega
          subst hiN
          have cl := HM.out.lst 0 (by rw [HN.out]; exact hN0)
          have h00 : (thL t 10).getD 0 0 = 0 := by
            have h1 : thL t 10 = 0 :: ((List.range 9).map Nat.succ).filter fun j => (t j).there := by
              unfold thL
              rw [show (10 : Nat) = 9 + 1 from rfl, List.range_succ_eq_map, List.filter_cons, if_pos (by exact H.out.2.1.root.1)]
            rw [h1]
            rfl
          rw [h00] at cl
          have hI0 : (0 : Int) < (i : Int) := by omega
          clear h00
          go_wp2_with fail
          go_ret
          exact ⟨rfl, HM.out.bel⟩
end Go.Proofs.Ytgabceeekkcekaa

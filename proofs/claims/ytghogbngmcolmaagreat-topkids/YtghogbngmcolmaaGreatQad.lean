import Derived.Test.YtghogbngmcolmaaGreatQac
namespace Go.Proofs.YtghogbngmcolmaaGreat.Gr
open Go.RowKit Go.Shelf
attribute [local go_sem] Oper.semAt_some
theorem keeps_of_below {W W' : World} (h : Below W.heap.size W W') : KeepsOthers W W' :=
  ⟨h.size, fun k _ hk _ => (h.block k (Array.getElem?_eq_some_iff.1 hk).1).trans hk⟩
theorem K2.of_below {b bt : Nat} {W W' : World} (h : Below W.heap.size W W') (h1 : b < W.heap.size) (h2 : bt < W.heap.size) : K2 b bt W W' := ⟨h.block b h1, h.block bt h2⟩
def lackB (t : Nat → Gp) (Wy : Nat → List (Fin 10)) (p q : Int) (y : Fin 10) : Bool :=
  passB (totTo t Wy y.val Gp.op 10) p (t y.val).lp || passB (totTo t Wy y.val Gp.oq 10) q (t y.val).lq
structure Lk (w W : World) (b : Nat) (p q g : Int) (f : Bool) : Prop where
  bel : Below w.heap.size w W
  bt : W.heap[w.heap.size]? = some (.cells #[.pointer (some ⟨b, 0, none⟩)] 70 (0, 0))
  bm : W.heap[w.heap.size + 1]? = some (.cells #[.int .i64 p, .int .i64 q] 125 (0, 0))
  r1 : W.heap[w.heap.size + 1 + 1]? = some (.cells #[.int .i64 g] 3 (0, 0))
  r2 : W.heap[w.heap.size + 1 + 1 + 1]? = some (.cells #[.bool f] 4 (0, 0))
theorem Lk.below {w W W' : World} {b : Nat} {p q g : Int} {f : Bool} (h : Lk w W b p q g f) (hb : Below W.heap.size W W') : Lk w W' b p q g f := by
  have h1 := (Array.getElem?_eq_some_iff.1 h.r2).1
  exact ⟨h.bel.trans (hb.mono h.bel.size), (hb.block _ (by omega)).trans h.bt, (hb.block _ (by omega)).trans h.bm, (hb.block _ (by omega)).trans h.r1, (hb.block _ h1).trans h.r2⟩
theorem Lk.own (w : World) (b : Nat) (p q g : Int) (f : Bool) {β : Type} : OwnFrom (β := β) (w.heap.size + 1 + 1 + 1 + 1 + 1 + 1) (fun _ W => Lk w W b p q g f) := fun s W W' row hs hg hr => by
  have h1 := (Array.getElem?_eq_some_iff.1 hs.r2).1
  have hk : ∀ k, k < w.heap.size + 1 + 1 + 1 + 1 → W'.heap[k]? = W.heap[k]? := fun k hk => hg.block k (by omega) (fun e => by have := (hr k e.symm).1; omega)
  refine ⟨hs.bel.grown hg (by omega) (fun k e => by have := (hr k e).1; omega), (hk _ (by omega)).trans hs.bt, (hk _ (by omega)).trans hs.bm, (hk _ (by omega)).trans hs.r1, (hk _ (by omega)).trans hs.r2⟩
theorem lk_start (w : World) (b : Nat) (p q g : Int) (o5 o6 : Obj) : Lk w ((((((w.alloc (.cells #[.pointer (some ⟨b, 0, none⟩)] 70)).alloc (.cells #[.int .i64 p, .int .i64 q] 125)).alloc (.cells #[.int .i64 g] 3)).alloc (.cells #[.bool false] 4)).alloc o5).alloc o6) b p q g false := by
  have A := al4 w (.cells #[.pointer (some ⟨b, 0, none⟩)] 70) (.cells #[.int .i64 p, .int .i64 q] 125) (.cells #[.int .i64 g] 3) (.cells #[.bool false] 4)
  have B := al4_below w (.cells #[.pointer (some ⟨b, 0, none⟩)] 70) (.cells #[.int .i64 p, .int .i64 q] 125) (.cells #[.int .i64 g] 3) (.cells #[.bool false] 4)
  have hs := World.size_alloc
  refine Lk.below ⟨B, A.1, A.2.1, A.2.2.1, A.2.2.2⟩ (((Below.refl _ _).alloc (Nat.le_refl _) _).alloc (by simp) _)
theorem lk_boxes (w : World) (o1 o2 o3 o4 o5 o6 : Obj) : ((((((w.alloc o1).alloc o2).alloc o3).alloc o4).alloc o5).alloc o6).heap[w.heap.size + 1 + 1 + 1 + 1]? = some o5 ∧ ((((((w.alloc o1).alloc o2).alloc o3).alloc o4).alloc o5).alloc o6).heap[w.heap.size + 1 + 1 + 1 + 1 + 1]? = some o6 := by
  have A := al2 ((((w.alloc o1).alloc o2).alloc o3).alloc o4) o5 o6
  simp only [World.size_alloc] at A
  exact A
theorem Lk.fin {w W : World} {b : Nat} {p q g : Int} {f : Bool} (h : Lk w W b p q g f) (g' : Int) (f' : Bool) : Lk w ((W.setCell ⟨w.heap.size + 1 + 1, 0, none⟩ (.int .i64 g')).setCell ⟨w.heap.size + 1 + 1 + 1, 0, none⟩ (.bool f')) b p q g' f' := by
  have e1 : (W.setCell ⟨w.heap.size + 1 + 1, 0, none⟩ (.int .i64 g')).heap[w.heap.size + 1 + 1]? = some (.cells #[.int .i64 g'] 3 (0, 0)) := by rw [heap_set h.r1]; rfl
  have e2 : (W.setCell ⟨w.heap.size + 1 + 1, 0, none⟩ (.int .i64 g')).heap[w.heap.size + 1 + 1 + 1]? = some (.cells #[.bool f] 4 (0, 0)) := by rw [setBlk _ _ _ _ (by omega)]; exact h.r2
  refine ⟨(h.bel.setCell (p := ⟨w.heap.size + 1 + 1, 0, none⟩) (by simp; omega) _).setCell (p := ⟨w.heap.size + 1 + 1 + 1, 0, none⟩) (by simp; omega) _, ?_, ?_, ?_, ?_⟩
  · rw [setBlk _ _ _ _ (by omega), setBlk _ _ _ _ (by omega)]; exact h.bt
  · rw [setBlk _ _ _ _ (by omega), setBlk _ _ _ _ (by omega)]; exact h.bm
  · rw [setBlk _ _ _ _ (by omega)]; exact e1
  · rw [heap_set e2]; rfl
set_option maxRecDepth 100000 in
set_option maxHeartbeats 400000 in
theorem lacking_any (b : Nat) (g p q : Int) (t : Nat → Gp) (Wy : Nat → List (Fin 10)) (xs : List (Fin 10)) (w : World) (hT : TAt w b t) (hW : Ways t Wy) (hS : Small t) (hL : Way t g (vals xs)) (hp : 0 ≤ p ∧ p ≤ 1000) (hq : 0 ≤ q ∧ q ≤ 1000) :
    Calls Tryz.prog 66 #[.pointer (some ⟨b, 0, none⟩), .int .i64 g, .agg #[.int .i64 p, .int .i64 q]] w fun e W' => (((∀ y ∈ xs, lackB t Wy p q y = false) ∧ e = .returned (.tuple #[.int .i64 0, .bool false])) ∨
      (∃ pre x rest, xs = pre ++ x :: rest ∧ (∀ y ∈ pre, lackB t Wy p q y = false) ∧ lackB t Wy p q x = true ∧ e = .returned (.tuple #[.int .i64 (x.val : Int), .bool true]))) ∧ Below w.heap.size w W' := by
  refine (callsIn_wide (n := 4)).1 ?_
  refine callsIn_of_wp_marks Tryz.func66 rfl trivial ?_ rfl
  simp only [Tryz.ntmps66, List.size_toArray, List.length_cons, List.length_nil, Nat.reduceAdd, Nat.reduceSub, Array.replicate_succ, Array.replicate_zero, List.push_toArray, List.append_toArray, List.nil_append, List.cons_append]
  gi_wp2_with (refine ⟨trivial, ?_⟩; gi_at_call 111; refine (callsIn_wide.2 (way_any b g _)).mono ?_; rintro e w' ⟨rfl, rfl⟩)
  have hLk := lk_start w b p q 0 (.cells #[.pointer (some ⟨b, 0, none⟩)] 70) (.cells #[.int .i64 g] 3)
  have hbx := lk_boxes w (.cells #[.pointer (some ⟨b, 0, none⟩)] 70) (.cells #[.int .i64 p, .int .i64 q] 125) (.cells #[.int .i64 0] 3) (.cells #[.bool false] 4) (.cells #[.pointer (some ⟨b, 0, none⟩)] 70) (.cells #[.int .i64 g] 3)
  have c5 := cell_box hbx.2
  have hbl := hT.lt
  refine wpIn_rangeFunc_ownF rfl (by omega) (gf := 140) (lb := #[.pointer (some ⟨w.heap.size + 1 + 1 + 1 + 1 + 1, 0, none⟩), .pointer (some ⟨w.heap.size + 1 + 1 + 1 + 1, 0, none⟩)]) rfl trivial (enters_of Tryz.func140 (by kernel_rfl) rfl)
    (way_stops 3 (by omega) (w.heap.size + 1 + 1 + 1 + 1 + 1) (w.heap.size + 1 + 1 + 1 + 1) b g t xs _ (by simp) c5.1 hbx.1 (hT.below hLk.bel hbl) hL) K2.t (K2.b (by simp; omega) (by simp)) (Below.refl _ _) (fun _ => rfl)
    (fun pre W => (∀ y ∈ pre, lackB t Wy p q y = false) ∧ Lk w W b p q 0 false ∧ w.heap.size + 1 + 1 + 1 + 1 + 1 + 1 ≤ W.heap.size)
    (fun c pre W => (c = .ret ∧ ∃ pre0 x, pre = pre0 ++ [x] ∧ (∀ y ∈ pre0, lackB t Wy p q y = false) ∧ lackB t Wy p q x = true ∧ Lk w W b p q (x.val : Int) true))
    (fun s W W' row hs hg hr => ⟨hs.1, Lk.own w b p q 0 false s W W' row hs.2.1 hg (fun r e => by have := hr r e; simpa using this), by have := hg.size; omega⟩)
    (fun c s W W' row hs hg hr => ⟨hs.1, by
      obtain ⟨pre0, x, h1, h2, h3, h4⟩ := hs.2
      exact ⟨pre0, x, h1, h2, h3, Lk.own w b p q (x.val : Int) true s W W' row h4 hg (fun r e => by have := hr r e; simpa using this)⟩⟩)
    ⟨by simp, hLk, by simp⟩
    (fun x => { tmps := #[.pointer (some ⟨b, 0, none⟩), .int .i64 g, .agg #[.int .i64 p, .int .i64 q], .pointer (some ⟨w.heap.size, 0, none⟩), undef, .pointer (some ⟨w.heap.size + 1, 0, none⟩), .pointer (some ⟨w.heap.size + 1 + 1, 0, none⟩), .pointer (some ⟨w.heap.size + 1 + 1 + 1, 0, none⟩), .int .i64 (x.val : Int), undef, undef, .pointer (some ⟨b, 0, none⟩), .int .i64 g, .func (.func 140) #[] #[.pointer (some ⟨w.heap.size + 1 + 1 + 1 + 1 + 1, 0, none⟩), .pointer (some ⟨w.heap.size + 1 + 1 + 1 + 1, 0, none⟩)], .int .i64 (x.val : Int), undef, undef, undef, undef, undef, undef, undef, undef, undef, undef, undef, undef, undef, undef, undef, undef, undef, undef, undef, undef, undef, undef, undef, undef, undef, undef, undef], defers := [] }) ?assign ?body ?done ?stop
  case assign =>
    intro l x W K hK
    gi_wp2
    exact hK
  case body =>
    rintro l pre x W ⟨hpre, hLk, hsz⟩ _
    have T1 : Hid (TAt W b t) := hT.below hLk.bel hbl
    have L1 : Hid (Lk w W b p q 0 false) := hLk
    have HP : Hid (∀ y ∈ pre, lackB t Wy p q y = false) := hpre
    have hmx : Tryz.prog.follows .mixedOrders = true := by kernel_rfl
    have d0 : W.cell? ⟨w.heap.size, 0, none⟩ = some (.pointer (some ⟨b, 0, none⟩)) := by rw [heap_cell hLk.bt]; rfl
    have d1 : W.cell? ⟨b, x.val * 6 + 2, none⟩ = some (.int .i64 (t x.val).lp) := T1.out.cell x.val 2 x.isLt (by omega)
    have d2 : W.cell? ⟨b, x.val * 6 + 2 + 1, none⟩ = some (.int .i64 (t x.val).lq) := T1.out.cell x.val 3 x.isLt (by omega)
    have d3 : W.cell? ⟨b, x.val * 6 + 3, none⟩ = some (.int .i64 (t x.val).lq) := d2
    have hxI : (x.val : Int) < 10 := by have := x.isLt; omega
    clear hpre hLk hL c5 hbx
    gi_wp2
    have B1 := totTo_bd Wy x.val (fun k hk => (hS k hk).1) 10 (by omega)
    have B2 := totTo_bd Wy x.val (fun k hk => (hS k hk).2) 10 (by omega)
    refine lack_reg (t := t) (Wy := Wy) (x := x.val) ?_ (fun _ _ _ _ _ h => h) T1.out hW hS x.isLt d0 ?_
    · rintro ⟨a, w, h⟩
      exact h
    intro n9 n10 V c15 c16 c17 c18 c19 c20 c21 c22 c23 c24 F
    have eL : lackB t Wy p q x = (passB (totTo t Wy x.val Gp.op 10) p (t x.val).lp || passB (totTo t Wy x.val Gp.oq 10) q (t x.val).lq) := rfl
    have L2 : Hid (Lk w V b p q 0 false) := L1.out.below F.bel
    have FB : Hid (Below W.heap.size W V) := F.bel
    have a0 : V.cell? ⟨n9, 0, none⟩ = some (.int .i64 (totTo t Wy x.val Gp.op 10)) := by rw [heap_cell F.c9]; rfl
    have a1 : V.cell? ⟨n9, 1, none⟩ = some (.int .i64 (totTo t Wy x.val Gp.oq 10)) := by rw [heap_cell F.c9]; rfl
    have b0 : V.cell? ⟨n10, 0, none⟩ = some (.int .i64 (t x.val).lp) := by rw [heap_cell F.c10]; rfl
    have b1 : V.cell? ⟨n10, 1, none⟩ = some (.int .i64 (t x.val).lq) := by rw [heap_cell F.c10]; rfl
    have m0 : V.cell? ⟨w.heap.size + 1, 0, none⟩ = some (.int .i64 p) := by rw [heap_cell L2.out.bm]; rfl
    have m1 : V.cell? ⟨w.heap.size + 1, 1, none⟩ = some (.int .i64 q) := by rw [heap_cell L2.out.bm]; rfl
    have r1 := cell_box L2.out.r1
    have r2 := cell_box L2.out.r2
    obtain ⟨r1c, r1f⟩ := r1
    obtain ⟨r2c, r2f⟩ := r2
    have EL : Hid (lackB t Wy p q x = (passB (totTo t Wy x.val Gp.op 10) p (t x.val).lp || passB (totTo t Wy x.val Gp.oq 10) q (t x.val).lq)) := eL
    clear F d0 d1 d2 d3 eL
    generalize totTo t Wy x.val Gp.op 10 = X at *
    generalize totTo t Wy x.val Gp.oq 10 = Y at *
    generalize (t x.val).lp = LP at *
    generalize (t x.val).lq = LQ at *
    have HB : Hid ((0 ≤ X ∧ X ≤ 100000000) ∧ (0 ≤ Y ∧ Y ≤ 100000000)) := ⟨⟨B1.1, by omega⟩, ⟨B2.1, by omega⟩⟩
    have HPQ : Hid ((0 ≤ p ∧ p ≤ 1000) ∧ (0 ≤ q ∧ q ≤ 1000)) := ⟨hp, hq⟩
    clear B1 B2 hp hq
    have hlt : Hid (w.heap.size + 1 + 1 + 1 + 1 + 1 + 1 ≤ V.heap.size) := by have := FB.out.size; exact Nat.le_trans hsz this
    cases h1 : passB X p LP
    · cases h2 : passB Y q LQ
      · have E0 : Hid (lackB t Wy p q x = false) := by rw [EL.out, h1, h2]; rfl
        clear EL
        gi_wp2_with (refine ⟨trivial, ?_⟩; gi_at_call 113; refine (CallsIn.inRound l (callsIn_wide.2 (passes_any _ _ _ _ (by first | exact HB.out.1 | exact HB.out.2) (by first | exact HPQ.out.1 | exact HPQ.out.2)))).mono ?_; rintro e w' ⟨rfl, rfl⟩; first | rw [h1] | rw [h2])
        exact ⟨keeps_of_below FB.out, K2.of_below FB.out (by have := T1.out.lt; omega) (by omega), fun y hy => (List.mem_append.1 hy).elim (HP.out y) (fun e => by simp at e; subst e; exact E0.out), L2.out, hlt.out⟩
      · have E0 : Hid (lackB t Wy p q x = true) := by rw [EL.out, h1, h2]; rfl
        clear EL
        gi_wp2_with (refine ⟨trivial, ?_⟩; gi_at_call 113; refine (CallsIn.inRound l (callsIn_wide.2 (passes_any _ _ _ _ (by first | exact HB.out.1 | exact HB.out.2) (by first | exact HPQ.out.1 | exact HPQ.out.2)))).mono ?_; rintro e w' ⟨rfl, rfl⟩; first | rw [h1] | rw [h2])
        exact ⟨((keeps_of_below FB.out).trans (KeepsOthers.setCell _ _ _)).trans (KeepsOthers.setCell _ _ _), rfl, pre, x, rfl, HP.out, E0.out, L2.out.fin _ _⟩
    · have E0 : Hid (lackB t Wy p q x = true) := by rw [EL.out, h1]; rfl
      clear EL
      gi_wp2_with (refine ⟨trivial, ?_⟩; gi_at_call 113; refine (CallsIn.inRound l (callsIn_wide.2 (passes_any X p LP _ HB.out.1 HPQ.out.1))).mono ?_; rintro e w' ⟨rfl, rfl⟩; rw [h1])
      refine ⟨trivial, ?_⟩
      gi_wp2
      exact ⟨((keeps_of_below FB.out).trans (KeepsOthers.setCell _ _ _)).trans (KeepsOthers.setCell _ _ _), rfl, pre, x, rfl, HP.out, E0.out, L2.out.fin _ _⟩
  case done =>
    rintro D ys W hD rfl ⟨hne, hLk, hsz⟩ hK
    have r1 := cell_box hLk.r1
    have r2 := cell_box hLk.r2
    obtain ⟨r1c, r1f⟩ := r1
    obtain ⟨r2c, r2f⟩ := r2
    gi_wp2
    have hF := hLk.fin 0 false
    have hK' := (KeepsOthers.setCell _ ⟨w.heap.size + 1 + 1 + 1, 0, none⟩ (.bool false)).same D _ ((KeepsOthers.setCell W ⟨w.heap.size + 1 + 1, 0, none⟩ (.int .i64 0)).same D _ hK rfl) rfl
    refine ⟨by simp, .inl ⟨_, _, rfl, run_takeDeferred hK', ?_⟩⟩
    have hg := grownBy_putObj' ((W.setCell ⟨w.heap.size + 1 + 1, 0, none⟩ (.int .i64 0)).setCell ⟨w.heap.size + 1 + 1 + 1, 0, none⟩ (.bool false)) D (.deferred none)
    have q1 := cell_kept (cell_box hF.r1).1 hg (fun r e => by cases e; exact ⟨_, hK', rfl⟩)
    have q2 := cell_kept (cell_box hF.r2).1 hg (fun r e => by cases e; exact ⟨_, hK', rfl⟩)
    refine ⟨.tuple #[.int .i64 0, .bool false], ?_, .inl ⟨hne, rfl⟩, hF.bel.trans (belowK_b (w := w) (Nat.le_refl _) _ D _ _ (by simp at hD; omega) hK' rfl rfl)⟩
    simp [results, Tryz.f66, go_sem, q1, q2]
  case stop =>
    rintro D c pre W hD hpre ⟨rfl, pre0, x, rfl, hne, hx, hF⟩ hK
    gi_wp2
    refine ⟨by simp, .inl ⟨_, _, rfl, run_takeDeferred hK, ?_⟩⟩
    have hg := grownBy_putObj' W D (.deferred none)
    have q1 := cell_kept (cell_box hF.r1).1 hg (fun r e => by cases e; exact ⟨_, hK, rfl⟩)
    have q2 := cell_kept (cell_box hF.r2).1 hg (fun r e => by cases e; exact ⟨_, hK, rfl⟩)
    obtain ⟨rest, hrest⟩ := hpre
    refine ⟨.tuple #[.int .i64 (x.val : Int), .bool true], ?_, .inr ⟨pre0, x, rest, by rw [← hrest]; simp, hne, hx, rfl⟩, hF.bel.trans (belowK_b (w := w) (Nat.le_refl _) W D _ _ (by simp at hD; omega) hK rfl rfl)⟩
    simp [results, Tryz.f66, go_sem, q1, q2]
end Go.Proofs.YtghogbngmcolmaaGreat.Gr
namespace Go.Proofs.YtghogbngmcolmaaGreat.Gr
open Go.RowKit Go.Shelf
structure Frm (b : Nat) (w w' : World) : Prop where
  os : w'.os = w.os
  tape : w'.tape = w.tape
  output : w'.output = w.output
  size : w.heap.size ≤ w'.heap.size
  block : ∀ k, k < w.heap.size → k ≠ b → w'.heap[k]? = w.heap[k]?
theorem Frm.of_below {b : Nat} {w w' : World} (h : Below w.heap.size w w') : Frm b w w' := ⟨h.os, h.tape, h.output, h.size, fun k hk _ => h.block k hk⟩
theorem Frm.setCell {b : Nat} {u w : World} (h : Frm b u w) (o : Nat) (v : Value) : Frm b u (w.setCell ⟨b, o, none⟩ v) :=
  ⟨h.os, h.tape, h.output, by simpa [World.setCell] using h.size, fun k hk hn => (setBlk _ _ _ _ hn).trans (h.block k hk hn)⟩
theorem Frm.drew {b : Nat} {u w : World} (h : Frm b u w) : Frm b u w.drew := ⟨h.os, h.tape, h.output, h.size, h.block⟩
def newGp (p : Int) : Gp := ⟨true, p, -1, -1, 0, 0⟩
def noGp : Gp := ⟨false, 0, 0, 0, 0, 0⟩
theorem TAt.put6 {w : World} {b : Nat} {t : Nat → Gp} (h : TAt w b t) (n : Nat) (hn : n < 10) (g : Gp) :
    TAt ((((((w.setCell ⟨b, n * 6, none⟩ (.bool g.there)).setCell ⟨b, n * 6 + 1, none⟩ (.int .i64 g.par)).setCell ⟨b, n * 6 + 2, none⟩ (.int .i64 g.lp)).setCell ⟨b, n * 6 + 3, none⟩ (.int .i64 g.lq)).setCell ⟨b, n * 6 + 4, none⟩ (.int .i64 g.op)).setCell ⟨b, n * 6 + 5, none⟩ (.int .i64 g.oq)) b (updT t n g) := by
  unfold TAt
  rw [heap_set (heap_set (heap_set (heap_set (heap_set (heap_set h (n * 6) _) (n * 6 + 1) _) (n * 6 + 2) _) (n * 6 + 3) _) (n * 6 + 4) _)]
  refine congrArg (fun c => some (Obj.cells c 132 (0, 0))) ?_
  refine encT_ext _ _ (by simp [encT_size]) fun m i hm hi => ?_
  have hsz := encT_size t
  by_cases e : m = n
  · subst e
    rw [updT_same]
    match i, hi with
    | 0, _ => simp [Array.getElem?_setIfInBounds, hsz, Gp.cell]; omega
    | 1, _ => simp [Array.getElem?_setIfInBounds, hsz, Gp.cell]; omega
    | 2, _ => simp [Array.getElem?_setIfInBounds, hsz, Gp.cell]; omega
    | 3, _ => simp [Array.getElem?_setIfInBounds, hsz, Gp.cell]; omega
    | 4, _ => simp [Array.getElem?_setIfInBounds, hsz, Gp.cell]; omega
    | 5, _ => simp [Array.getElem?_setIfInBounds, hsz, Gp.cell]; omega
  · rw [updT_ne _ _ _ _ e, Array.getElem?_setIfInBounds_ne (by omega), Array.getElem?_setIfInBounds_ne (by omega), Array.getElem?_setIfInBounds_ne (by omega), Array.getElem?_setIfInBounds_ne (by omega), Array.getElem?_setIfInBounds_ne (by omega), Array.getElem?_setIfInBounds_ne (by omega), encT_at t m i hm hi]
set_option maxRecDepth 100000 in
set_option maxHeartbeats 400000 in
theorem newGroup_any (p : Int) (w : World) : Calls Tryz.prog 98 #[.int .i64 p] w fun e w' => e = .returned (.agg #[.bool true, .int .i64 p, .int .i64 (-1), .int .i64 (-1), .int .i64 0, .int .i64 0]) ∧ Below w.heap.size w w' := by
  go_enter Tryz.func98, Tryz.ntmps98
  go_wp2
  refine bodyPost_ret (v := .agg #[.bool true, .int .i64 p, .int .i64 (-1), .int .i64 (-1), .int .i64 0, .int .i64 0]) (by simp [results, Tryz.results98, go_sem]) rfl ⟨rfl, (Below.refl _ _).alloc (Nat.le_refl _) _⟩
theorem tat_zero (w : World) : TAt (w.alloc (.cells (encT fun _ => noGp) 132)) w.heap.size (fun _ => noGp) := heap_alloc_new w _
theorem zero96 : encT (fun _ => noGp) = #[Value.bool false, Value.int IntKind.i64 0, Value.int IntKind.i64 0, Value.int IntKind.i64 0, Value.int IntKind.i64 0, Value.int IntKind.i64 0, Value.bool false, Value.int IntKind.i64 0, Value.int IntKind.i64 0, Value.int IntKind.i64 0, Value.int IntKind.i64 0, Value.int IntKind.i64 0, Value.bool false, Value.int IntKind.i64 0, Value.int IntKind.i64 0, Value.int IntKind.i64 0, Value.int IntKind.i64 0, Value.int IntKind.i64 0, Value.bool false, Value.int IntKind.i64 0, Value.int IntKind.i64 0, Value.int IntKind.i64 0, Value.int IntKind.i64 0, Value.int IntKind.i64 0, Value.bool false, Value.int IntKind.i64 0, Value.int IntKind.i64 0, Value.int IntKind.i64 0, Value.int IntKind.i64 0, Value.int IntKind.i64 0, Value.bool false, Value.int IntKind.i64 0, Value.int IntKind.i64 0, Value.int IntKind.i64 0, Value.int IntKind.i64 0, Value.int IntKind.i64 0, Value.bool false, Value.int IntKind.i64 0, Value.int IntKind.i64 0, Value.int IntKind.i64 0, Value.int IntKind.i64 0, Value.int IntKind.i64 0, Value.bool false, Value.int IntKind.i64 0, Value.int IntKind.i64 0, Value.int IntKind.i64 0, Value.int IntKind.i64 0, Value.int IntKind.i64 0, Value.bool false, Value.int IntKind.i64 0, Value.int IntKind.i64 0, Value.int IntKind.i64 0, Value.int IntKind.i64 0, Value.int IntKind.i64 0, Value.bool false, Value.int IntKind.i64 0, Value.int IntKind.i64 0, Value.int IntKind.i64 0, Value.int IntKind.i64 0, Value.int IntKind.i64 0] := by kernel_rfl
set_option maxRecDepth 100000 in
set_option maxHeartbeats 400000 in
theorem new_any (w : World) : Calls Tryz.prog 53 #[] w fun e w' => e = .returned (.pointer (some ⟨w.heap.size, 0, none⟩)) ∧ TAt w' w.heap.size (updT (fun _ => noGp) 0 (newGp (-1))) ∧ Below w.heap.size w w' := by
  have Z := tat_zero w
  rw [zero96] at Z
  go_enter Tryz.func53, Tryz.ntmps53
  go_wp2_with fail
  refine wp_gen (fun W => TAt W w.heap.size (fun _ => noGp) ∧ Below w.heap.size w W) ⟨Z, (Below.refl _ _).alloc (Nat.le_refl _) _⟩ ?_
  rintro W ⟨hT, hB⟩
  have HT : Hid (TAt W w.heap.size (fun _ => noGp)) := hT
  have HB : Hid (Below w.heap.size w W) := hB
  clear Z hT hB
  go_region_held3 (fun _ => True) (trivial) ((go_at_call 98; refine (newGroup_any _ _).mono ?_; rintro e w2 ⟨rfl, hb2⟩; have T2 : TAt w2 w.heap.size (fun _ => noGp) := HT.out.drew.below hb2 HT.out.lt; have c0 := T2.cell 0 0 (by omega) (by omega); have c1 := T2.cell 0 1 (by omega) (by omega); have c2 := T2.cell 0 2 (by omega) (by omega); have c3 := T2.cell 0 3 (by omega) (by omega); have c4 := T2.cell 0 4 (by omega) (by omega); have c5 := T2.cell 0 5 (by omega) (by omega); have cf := T2.frozen; simp only [Nat.zero_mul, Nat.zero_add] at c0 c1 c2 c3 c4 c5))
  have HT2 : Hid (TAt w2 w.heap.size (fun _ => noGp)) := T2
  have HB2 : Hid (Below w.heap.size w w2) := HB.out.trans ((Below.refl _ W).drew.trans (hb2.mono (by have := HB.out.size; exact this)))
  clear T2 c0 c1 c2 c3 c4 c5 cf hb2
  go_wp2
  go_ret
  refine ⟨rfl, HT2.out.put6 0 (by omega) (newGp (-1)), ?_⟩
  exact (((((HB2.out.setCell (Nat.le_refl _) _).setCell (Nat.le_refl _) _).setCell (Nat.le_refl _) _).setCell (Nat.le_refl _) _).setCell (Nat.le_refl _) _).setCell (Nat.le_refl _) _
def errV (k : Int) : Value := if k = 0 then .nilIface else .iface 60 (.int .i64 k)
theorem wr_zero {t : Nat → Gp} {g : Int} (h : wr t g = 0) : ∃ n : Nat, g = n ∧ n < 10 ∧ (t n).there = true := by
  unfold wr at h
  by_cases hb : g < 0 ∨ 10 ≤ g
  · rw [if_pos hb] at h; simp at h
  · rw [if_neg hb] at h
    obtain ⟨n, rfl⟩ := Int.eq_ofNat_of_zero_le (show 0 ≤ g by omega)
    refine ⟨n, rfl, by omega, ?_⟩
    rw [Int.toNat_natCast] at h
    cases hh : (t n).there
    · rw [hh] at h; simp at h
    · rfl
end Go.Proofs.YtghogbngmcolmaaGreat.Gr
namespace Go.Proofs.YtghogbngmcolmaaGreat.Gr
open Go.RowKit Go.Shelf
theorem updT_updT (t : Nat → Gp) (n : Nat) (g g' : Gp) : updT (updT t n g) n g' = updT t n g' := by
  funext k
  unfold updT
  split <;> rfl
def refE (t : Nat → Gp) (g p q : Int) : Int := if wr t g = 0 then (if fromB p q 0 = true then 0 else 1) else wr t g
theorem refuses_any (b : Nat) (g p q : Int) (t : Nat → Gp) (w : World) (h : TAt w b t) : Calls Tryz.prog 65 #[.pointer (some ⟨b, 0, none⟩), .int .i64 g, .agg #[.int .i64 p, .int .i64 q]] w fun e w' => e = .returned (errV (refE t g p q)) ∧ Below w.heap.size w w' := by
  unfold refE
  by_cases hw : wr t g = 0
  · rw [if_pos hw]
    obtain ⟨n, rfl, hn, hh⟩ := wr_zero hw
    cases hf : fromB p q 0
    · exact refuses_bound b n p q t w h hn hh hf
    · exact refuses_ok b n p q t w h hn hh hf
  · rw [if_neg hw]
    unfold wr at hw ⊢
    by_cases hb : g < 0 ∨ 10 ≤ g
    · rw [if_pos hb]; exact refuses_bad b g p q w hb
    · rw [if_neg hb] at hw ⊢
      obtain ⟨n, rfl⟩ := Int.eq_ofNat_of_zero_le (show 0 ≤ g by omega)
      rw [Int.toNat_natCast] at hw ⊢
      cases hh : (t n).there
      · exact refuses_none b n p q t w h (by omega) hh
      · rw [hh] at hw; simp at hw
theorem fromB_iff {p q l : Int} : fromB p q l = true ↔ (l ≤ p ∧ p ≤ 20 ∧ l ≤ q ∧ q ≤ 64) := by unfold fromB; exact decide_eq_true_iff
theorem refE_zero {t : Nat → Gp} {g p q : Int} (h : refE t g p q = 0) : ∃ n : Nat, g = n ∧ n < 10 ∧ (t n).there = true ∧ (0 ≤ p ∧ p ≤ 20) ∧ (0 ≤ q ∧ q ≤ 64) := by
  unfold refE at h
  by_cases hw : wr t g = 0
  · rw [if_pos hw] at h
    obtain ⟨n, e, hn, hh⟩ := wr_zero hw
    cases hf : fromB p q 0
    · rw [hf] at h; simp at h
    · have := fromB_iff.1 hf
      exact ⟨n, e, hn, hh, ⟨this.1, this.2.1⟩, this.2.2.1, this.2.2.2⟩
  · rw [if_neg hw] at h; exact absurd h hw
end Go.Proofs.YtghogbngmcolmaaGreat.Gr

/- newGroup, New, Of. -/
import Derived.Test.YtgabceeekkcekaaGl
namespace Go.Proofs.Ytgabceeekkcekaa
open Go.RowKit Go.Shelf

/-- All as it was, but the block b. -/
structure Frm (b : Nat) (w w' : World) : Prop where
  os : w'.os = w.os
  tape : w'.tape = w.tape
  output : w'.output = w.output
  size : w.heap.size ≤ w'.heap.size
  block : ∀ k, k < w.heap.size → k ≠ b → w'.heap[k]? = w.heap[k]?
theorem Frm.of_below {b : Nat} {w w' : World} (h : Below w.heap.size w w') : Frm b w w' := ⟨h.os, h.tape, h.output, h.size, fun k hk _ => h.block k hk⟩
theorem Frm.refl (b : Nat) (w : World) : Frm b w w := ⟨rfl, rfl, rfl, Nat.le_refl _, fun _ _ _ => rfl⟩
theorem Frm.trans {b : Nat} {u v w : World} (h : Frm b u v) (k : Frm b v w) : Frm b u w :=
  ⟨k.os.trans h.os, k.tape.trans h.tape, k.output.trans h.output, Nat.le_trans h.size k.size, fun j hj hn => (k.block j (Nat.lt_of_lt_of_le hj h.size) hn).trans (h.block j hj hn)⟩
theorem Frm.setCell {b : Nat} {u w : World} (h : Frm b u w) (o : Nat) (v : Value) : Frm b u (w.setCell ⟨b, o, none⟩ v) :=
  ⟨h.os, h.tape, h.output, by simpa [World.setCell] using h.size, fun k hk hn => (setBlk _ _ _ _ hn).trans (h.block k hk hn)⟩
theorem Frm.drew {b : Nat} {u w : World} (h : Frm b u w) : Frm b u w.drew := ⟨h.os, h.tape, h.output, h.size, h.block⟩
/-- Seen from below the block. -/
theorem Frm.below {b B : Nat} {u w w' : World} (h : Frm b w w') (hb : Below B u w) (hB : B ≤ b) (hs : B ≤ w.heap.size) : Below B u w' :=
  hb.trans ⟨h.os, h.tape, h.output, h.size, fun k hk => h.block k (by omega) (by omega)⟩

def newGp (p : Int) : Gp := ⟨true, p, -1, -1, 0, 0⟩
def noGp : Gp := ⟨false, 0, 0, 0, 0, 0⟩


theorem TAt.put6 {w : World} {b : Nat} {t : Nat → Gp} (h : TAt w b t) (n : Nat) (hn : n < 10) (g : Gp) :
    TAt ((((((w.setCell ⟨b, n * 6, none⟩ (.bool g.there)).setCell ⟨b, n * 6 + 1, none⟩ (.int .i64 g.par)).setCell ⟨b, n * 6 + 2, none⟩ (.int .i64 g.lp)).setCell ⟨b, n * 6 + 3, none⟩ (.int .i64 g.lq)).setCell ⟨b, n * 6 + 4, none⟩ (.int .i64 g.op)).setCell ⟨b, n * 6 + 5, none⟩ (.int .i64 g.oq)) b (updT t n g) := by
  unfold TAt
  rw [heap_set (heap_set (heap_set (heap_set (heap_set (heap_set h (n * 6) _) (n * 6 + 1) _) (n * 6 + 2) _) (n * 6 + 3) _) (n * 6 + 4) _)]
  refine congrArg (fun c => some (Obj.cells c 96 (0, 0))) ?_
  refine encT_ext _ _ (by simp [encT_size]) fun m i hm hi => ?_
  have hsz := encT_size t
  by_cases e : m = n
  · subst e
    rw [updT_same]
    match i, hi with
    | 0, _ => simp [Array.getElem?_setIfInBounds, hsz, Gp.cell]; omega
    | 1, _ => simp [Array.getElem?_setIfInBounds, hsz, Gp.cell]; omega
    | 2, _ => simp [Array.getElem?_setIfInBounds, hsz, Gp.cell]; omega
    | 3, _ => simp [Array.getElem?_setIfInBounds, hsz, Gp.cell]; omega
    | 4, _ => simp [Array.getElem?_setIfInBounds, hsz, Gp.cell]; omega
    | 5, _ => simp [Array.getElem?_setIfInBounds, hsz, Gp.cell]; omega
  · rw [updT_ne _ _ _ _ e, Array.getElem?_setIfInBounds_ne (by omega), Array.getElem?_setIfInBounds_ne (by omega), Array.getElem?_setIfInBounds_ne (by omega), Array.getElem?_setIfInBounds_ne (by omega), Array.getElem?_setIfInBounds_ne (by omega), Array.getElem?_setIfInBounds_ne (by omega), encT_at t m i hm hi]

set_option maxRecDepth 100000 in
set_option maxHeartbeats 400000 in
theorem newGroup_any (p : Int) (w : World) : Calls Try.prog 53 #[.int .i64 p] w fun e w' => e = .returned (.agg #[.bool true, .int .i64 p, .int .i64 (-1), .int .i64 (-1), .int .i64 0, .int .i64 0]) ∧ Below w.heap.size w w' := by
  go_enter Try.func53, Try.ntmps53
  go_wp2
  refine bodyPost_ret (v := .agg #[.bool true, .int .i64 p, .int .i64 (-1), .int .i64 (-1), .int .i64 0, .int .i64 0]) (by simp [results, Try.results53, go_sem]) rfl ⟨rfl, (Below.refl _ _).alloc (Nat.le_refl _) _⟩

theorem tat_zero (w : World) : TAt (w.alloc (.cells (encT fun _ => noGp) 96)) w.heap.size (fun _ => noGp) := heap_alloc_new w _
theorem zero96 : encT (fun _ => noGp) = #[Value.bool false, Value.int IntKind.i64 0, Value.int IntKind.i64 0, Value.int IntKind.i64 0, Value.int IntKind.i64 0, Value.int IntKind.i64 0, Value.bool false, Value.int IntKind.i64 0, Value.int IntKind.i64 0, Value.int IntKind.i64 0, Value.int IntKind.i64 0, Value.int IntKind.i64 0, Value.bool false, Value.int IntKind.i64 0, Value.int IntKind.i64 0, Value.int IntKind.i64 0, Value.int IntKind.i64 0, Value.int IntKind.i64 0, Value.bool false, Value.int IntKind.i64 0, Value.int IntKind.i64 0, Value.int IntKind.i64 0, Value.int IntKind.i64 0, Value.int IntKind.i64 0, Value.bool false, Value.int IntKind.i64 0, Value.int IntKind.i64 0, Value.int IntKind.i64 0, Value.int IntKind.i64 0, Value.int IntKind.i64 0, Value.bool false, Value.int IntKind.i64 0, Value.int IntKind.i64 0, Value.int IntKind.i64 0, Value.int IntKind.i64 0, Value.int IntKind.i64 0, Value.bool false, Value.int IntKind.i64 0, Value.int IntKind.i64 0, Value.int IntKind.i64 0, Value.int IntKind.i64 0, Value.int IntKind.i64 0, Value.bool false, Value.int IntKind.i64 0, Value.int IntKind.i64 0, Value.int IntKind.i64 0, Value.int IntKind.i64 0, Value.int IntKind.i64 0, Value.bool false, Value.int IntKind.i64 0, Value.int IntKind.i64 0, Value.int IntKind.i64 0, Value.int IntKind.i64 0, Value.int IntKind.i64 0, Value.bool false, Value.int IntKind.i64 0, Value.int IntKind.i64 0, Value.int IntKind.i64 0, Value.int IntKind.i64 0, Value.int IntKind.i64 0] := by kernel_rfl

set_option maxRecDepth 100000 in
set_option maxHeartbeats 400000 in
theorem new_any (w : World) : Calls Try.prog 21 #[] w fun e w' => e = .returned (.pointer (some ⟨w.heap.size, 0, none⟩)) ∧ TAt w' w.heap.size (updT (fun _ => noGp) 0 (newGp (-1))) ∧ Below w.heap.size w w' := by
  have Z := tat_zero w
  rw [zero96] at Z
  go_enter Try.func21, Try.ntmps21
  go_wp2_with fail
  refine wp_gen (fun W => TAt W w.heap.size (fun _ => noGp) ∧ Below w.heap.size w W) ⟨Z, (Below.refl _ _).alloc (Nat.le_refl _) _⟩ ?_
  rintro W ⟨hT, hB⟩
  have HT : Hid (TAt W w.heap.size (fun _ => noGp)) := hT
  have HB : Hid (Below w.heap.size w W) := hB
  clear Z hT hB
  go_region_held3 (fun _ => True) (trivial) ((go_at_call 53; refine (newGroup_any _ _).mono ?_; rintro e w2 ⟨rfl, hb2⟩; have T2 : TAt w2 w.heap.size (fun _ => noGp) := HT.out.drew.below hb2 HT.out.lt; have c0 := T2.cell 0 0 (by omega) (by omega); have c1 := T2.cell 0 1 (by omega) (by omega); have c2 := T2.cell 0 2 (by omega) (by omega); have c3 := T2.cell 0 3 (by omega) (by omega); have c4 := T2.cell 0 4 (by omega) (by omega); have c5 := T2.cell 0 5 (by omega) (by omega); have cf := T2.frozen; simp only [Nat.zero_mul, Nat.zero_add] at c0 c1 c2 c3 c4 c5))
  have HT2 : Hid (TAt w2 w.heap.size (fun _ => noGp)) := T2
  have HB2 : Hid (Below w.heap.size w w2) := HB.out.trans ((Below.refl _ W).drew.trans (hb2.mono (by have := HB.out.size; exact this)))
  clear T2 c0 c1 c2 c3 c4 c5 cf hb2
  go_wp2
  go_ret
  refine ⟨rfl, HT2.out.put6 0 (by omega) (newGp (-1)), ?_⟩
  exact (((((HB2.out.setCell (Nat.le_refl _) _).setCell (Nat.le_refl _) _).setCell (Nat.le_refl _) _).setCell (Nat.le_refl _) _).setCell (Nat.le_refl _) _).setCell (Nat.le_refl _) _

/-- An error by its number; 0: none. -/
def errV (k : Int) : Value := if k = 0 then .nilIface else .iface 81 (.int .i64 k)
theorem wrong_any (b : Nat) (g : Int) (t : Nat → Gp) (w : World) (h : TAt w b t) : Calls Try.prog 54 #[.pointer (some ⟨b, 0, none⟩), .int .i64 g] w fun e w' => e = .returned (errV (wr t g)) ∧ w' = w := by
  unfold wr
  by_cases hb : g < 0 ∨ 10 ≤ g
  · rw [if_pos hb]; exact wrong_bad b g w hb
  · rw [if_neg hb]
    obtain ⟨n, rfl⟩ := Int.eq_ofNat_of_zero_le (show 0 ≤ g by omega)
    cases hh : (t n).there
    · rw [Int.toNat_natCast, hh]; exact wrong_none b n t w h (by omega) hh
    · rw [Int.toNat_natCast, hh]; exact wrong_ok b n t w h (by omega) hh
theorem wr_zero {t : Nat → Gp} {g : Int} (h : wr t g = 0) : ∃ n : Nat, g = n ∧ n < 10 ∧ (t n).there = true := by
  unfold wr at h
  by_cases hb : g < 0 ∨ 10 ≤ g
  · rw [if_pos hb] at h; simp at h
  · rw [if_neg hb] at h
    obtain ⟨n, rfl⟩ := Int.eq_ofNat_of_zero_le (show 0 ≤ g by omega)
    refine ⟨n, rfl, by omega, ?_⟩
    rw [Int.toNat_natCast] at h
    cases hh : (t n).there
    · rw [hh] at h; simp at h
    · rfl
theorem wr_cases (t : Nat → Gp) (g : Int) : wr t g = 0 ∨ wr t g = 1 ∨ wr t g = 2 := by
  unfold wr
  split
  · simp
  · split <;> simp

set_option maxRecDepth 100000 in
set_option maxHeartbeats 400000 in
theorem of_bad (b : Nat) (g : Int) (t : Nat → Gp) (w : World) (h : TAt w b t) (hw : wr t g ≠ 0) : Calls Try.prog 40 #[.pointer (some ⟨b, 0, none⟩), .int .i64 g] w fun e w' => e = .returned (.tuple #[.agg #[.int .i64 0, .int .i64 0, .int .i64 0, .int .i64 0, .int .i64 0], errV (wr t g)]) ∧ Below w.heap.size w w' := by
  have HT : Hid (TAt w b t) := h
  have HW : Hid (errV (wr t g) = .iface 81 (.int .i64 (wr t g))) := if_neg hw
  clear h hw
  go_enter Try.func40, Try.ntmps40
  go_wp2_with fail
  refine (wrong_any b g t _ (HT.out.below ((Below.refl _ _).alloc (Nat.le_refl _) _) HT.out.lt)).mono ?_
  rintro e w1 ⟨rfl, hw1⟩
  subst hw1
  rw [HW.out]
  go_wp2
  refine bodyPost_ret (v := .tuple #[.agg #[.int .i64 0, .int .i64 0, .int .i64 0, .int .i64 0, .int .i64 0], .iface 81 (.int .i64 (wr t g))]) (by simp [results, Try.results40, go_sem]) rfl ⟨by rw [HW.out], (Below.refl _ _).alloc (Nat.le_refl _) _⟩

/-- What 'Of' has made when it reads. -/
structure OfR (w V : World) (b n8 : Nat) (t : Nat → Gp) (X Y : Int) : Prop where
  tat : TAt V b t
  bel : Below w.heap.size w V
  res : V.heap[w.heap.size]? = some (.cells #[.int .i64 0, .int .i64 0, .int .i64 0, .int .i64 0, .int .i64 0] 76 (0, 0))
  sum : V.heap[n8]? = some (.cells #[.int .i64 X, .int .i64 Y] 91 (0, 0))
  lt : w.heap.size < n8
theorem alF {W V : World} {c : Array Value} {ty : TypeId} (hb : Below (W.drew.alloc (.cells c ty)).heap.size (W.drew.alloc (.cells c ty)) V) : V.heap[W.heap.size]? = some (.cells c ty (0, 0)) :=
  (hb.block W.heap.size (by simp)).trans (heap_alloc_new W.drew (.cells c ty))

set_option maxRecDepth 100000 in
set_option maxHeartbeats 1000000 in
theorem of_ok (b n : Nat) (t : Nat → Gp) (Wy : Nat → List (Fin 10)) (w : World) (h : TAt w b t) (hW : Ways t Wy) (hS : Small t) (hn : n < 10) (hh : (t n).there = true) :
    Calls Try.prog 40 #[.pointer (some ⟨b, 0, none⟩), .int .i64 n] w fun e w' => e = .returned (.tuple #[.agg #[.int .i64 (t n).par, .int .i64 (t n).lp, .int .i64 (t n).lq, .int .i64 (totTo t Wy n Gp.op 10), .int .i64 (totTo t Wy n Gp.oq 10)], .nilIface]) ∧ Below w.heap.size w w' := by
  have HT : Hid (TAt w b t) := h
  have HH : Hid ((t n).there = true) := hh
  have HWS : Hid (Ways t Wy ∧ Small t) := ⟨hW, hS⟩
  have hnI : (n : Int) < 10 := by omega
  clear h hh hW hS
  go_enter Try.func40, Try.ntmps40
  go_wp2_with fail
  refine (wrong_ok b n t _ (HT.out.below ((Below.refl _ _).alloc (Nat.le_refl _) _) HT.out.lt) hn HH.out).mono ?_
  rintro e w1 ⟨rfl, hw1⟩
  subst hw1
  go_wp2_with fail
  refine wp_gen (fun W => TAt W b t ∧ Below w.heap.size w W ∧ W.heap[w.heap.size]? = some (.cells #[.int .i64 0, .int .i64 0, .int .i64 0, .int .i64 0, .int .i64 0] 76 (0, 0))) ⟨HT.out.below ((Below.refl _ _).alloc (Nat.le_refl _) _) HT.out.lt, (Below.refl _ _).alloc (Nat.le_refl _) _, heap_alloc_new w _⟩ ?_
  rintro W ⟨hT, hB, hR⟩
  have T1 : Hid (TAt W b t) := hT
  have B1 : Hid (Below w.heap.size w W) := hB
  have R1 : Hid (W.heap[w.heap.size]? = some (.cells #[.int .i64 0, .int .i64 0, .int .i64 0, .int .i64 0, .int .i64 0] 76 (0, 0))) := hR
  clear hT hB hR
  generalize hX : totTo t Wy n Gp.op 10 = X
  generalize hY : totTo t Wy n Gp.oq 10 = Y
  have HX : Hid (totTo t Wy n Gp.op 10 = X ∧ totTo t Wy n Gp.oq 10 = Y) := ⟨hX, hY⟩
  clear hX hY
  have hbl : Hid (b < w.heap.size) := HT.out.lt
  go_region_held3 (fun _ => True) (trivial) ((go_at_call 58; refine (total_any b n t Wy _ (by first | exact T1.out.drew | exact T1.out.drew.below ((Below.refl _ _).alloc (Nat.le_refl _) _) T1.out.lt) HWS.out.1 HWS.out.2).mono ?_; rintro e w2 ⟨rfl, hb2⟩; rw [HX.out.1, HX.out.2]; first | (have Q := alF hb2; have q0 : w2.cell? ⟨W.heap.size, 0, none⟩ = some (.int .i64 0) := (heap_cell Q 0); have q1 : w2.cell? ⟨W.heap.size, 1, none⟩ = some (.int .i64 0) := (heap_cell Q 1); have qf := heap_frozen Q; clear Q) | skip))
  · have HB2 : Hid (Below W.heap.size W w2) := (Below.refl _ W).drew.trans hb2
    have hne : ∀ k, k < W.heap.size → k ≠ w2.heap.size := fun k hk => by have := HB2.out.size; omega
    clear hb2
    go_wp2_with fail
    refine wp_gen (fun V => OfR w V b w2.heap.size t X Y) ⟨T1.out.below (HB2.out.alloc HB2.out.size _) T1.out.lt, B1.out.trans ((HB2.out.alloc HB2.out.size _).mono B1.out.size), ((HB2.out.alloc HB2.out.size _).block _ (Array.getElem?_eq_some_iff.1 R1.out).1).trans R1.out, heap_alloc_new _ _, Nat.lt_of_lt_of_le (Array.getElem?_eq_some_iff.1 R1.out).1 HB2.out.size⟩ ?_
    intro V hV
    have g1 : V.cell? ⟨b, n * 6 + 1, none⟩ = some (.int .i64 (t n).par) := hV.tat.cell n 1 hn (by omega)
    have g2 : V.cell? ⟨b, n * 6 + 2, none⟩ = some (.int .i64 (t n).lp) := hV.tat.cell n 2 hn (by omega)
    have g3 : V.cell? ⟨b, n * 6 + 2 + 1, none⟩ = some (.int .i64 (t n).lq) := hV.tat.cell n 3 hn (by omega)
    have x0 : V.cell? ⟨w2.heap.size, 0, none⟩ = some (.int .i64 X) := heap_cell hV.sum 0
    have x1 : V.cell? ⟨w2.heap.size, 1, none⟩ = some (.int .i64 Y) := heap_cell hV.sum 1
    have r0 : V.cell? ⟨w.heap.size, 0, none⟩ = some (.int .i64 0) := heap_cell hV.res 0
    have r1 : V.cell? ⟨w.heap.size, 1, none⟩ = some (.int .i64 0) := heap_cell hV.res 1
    have r2 : V.cell? ⟨w.heap.size, 2, none⟩ = some (.int .i64 0) := heap_cell hV.res 2
    have r3 : V.cell? ⟨w.heap.size, 3, none⟩ = some (.int .i64 0) := heap_cell hV.res 3
    have r4 : V.cell? ⟨w.heap.size, 4, none⟩ = some (.int .i64 0) := heap_cell hV.res 4
    have rf := heap_frozen hV.res
    have ne1 : w.heap.size ≠ b := by have := hbl.out; omega
    have ne2 : w.heap.size ≠ w2.heap.size := by have := hV.lt; omega
    have HB : Hid (Below w.heap.size w V) := hV.bel
    clear hV
    generalize hPA : (t n).par = PA at *
    generalize hLP : (t n).lp = LP at *
    generalize hLQ : (t n).lq = LQ at *
    have HPL : Hid ((t n).par = PA ∧ (t n).lp = LP ∧ (t n).lq = LQ) := ⟨hPA, hLP, hLQ⟩
    clear hPA hLP hLQ
    go_region_held3 (fun w' => w'.cell? ⟨b, n * 6 + 1, none⟩ = some (.int .i64 PA) ∧ w'.cell? ⟨b, n * 6 + 2, none⟩ = some (.int .i64 LP) ∧ w'.cell? ⟨b, n * 6 + 2 + 1, none⟩ = some (.int .i64 LQ) ∧ w'.cell? ⟨w2.heap.size, 0, none⟩ = some (.int .i64 X) ∧ w'.cell? ⟨w2.heap.size, 1, none⟩ = some (.int .i64 Y)) (go_keep) (fail)
    go_wp2
    refine bodyPost_ret (v := .tuple #[.agg #[.int .i64 PA, .int .i64 LP, .int .i64 LQ, .int .i64 X, .int .i64 Y], .nilIface]) (by simp [results, Try.results40, go_sem, r0, r1, r2, r3, r4]) rfl ⟨by rw [HX.out.1, HX.out.2, HPL.out.1, HPL.out.2.1, HPL.out.2.2], ?_⟩
    exact (((((HB.out.setCell (Nat.le_refl _) _).setCell (Nat.le_refl _) _).setCell (Nat.le_refl _) _).setCell (Nat.le_refl _) _).setCell (Nat.le_refl _) _).drew
  · have HB2 : Hid (Below W.heap.size W w2) := ((Below.refl _ W).drew.alloc (Nat.le_refl _) _).trans (hb2.mono (by simp))
    have HQ : Hid (w2.heap[W.heap.size]? = some (.cells #[.int .i64 0, .int .i64 0] 91 (0, 0))) := alF hb2
    clear hb2
    go_wp2_with fail
    refine wp_gen (fun V => OfR w V b W.heap.size t X Y) ⟨T1.out.below ((HB2.out.setCell (Nat.le_refl _) _).setCell (Nat.le_refl _) _) T1.out.lt, B1.out.trans (((HB2.out.setCell (Nat.le_refl _) _).setCell (Nat.le_refl _) _).mono B1.out.size), (((HB2.out.setCell (Nat.le_refl _) _).setCell (Nat.le_refl _) _).block _ (Array.getElem?_eq_some_iff.1 R1.out).1).trans R1.out, by rw [heap_set (heap_set HQ.out 0 (.int .i64 X))]; rfl, (Array.getElem?_eq_some_iff.1 R1.out).1⟩ ?_
    intro V hV
    have g1 : V.cell? ⟨b, n * 6 + 1, none⟩ = some (.int .i64 (t n).par) := hV.tat.cell n 1 hn (by omega)
    have g2 : V.cell? ⟨b, n * 6 + 2, none⟩ = some (.int .i64 (t n).lp) := hV.tat.cell n 2 hn (by omega)
    have g3 : V.cell? ⟨b, n * 6 + 2 + 1, none⟩ = some (.int .i64 (t n).lq) := hV.tat.cell n 3 hn (by omega)
    have x0 : V.cell? ⟨W.heap.size, 0, none⟩ = some (.int .i64 X) := heap_cell hV.sum 0
    have x1 : V.cell? ⟨W.heap.size, 1, none⟩ = some (.int .i64 Y) := heap_cell hV.sum 1
    have r0 : V.cell? ⟨w.heap.size, 0, none⟩ = some (.int .i64 0) := heap_cell hV.res 0
    have r1 : V.cell? ⟨w.heap.size, 1, none⟩ = some (.int .i64 0) := heap_cell hV.res 1
    have r2 : V.cell? ⟨w.heap.size, 2, none⟩ = some (.int .i64 0) := heap_cell hV.res 2
    have r3 : V.cell? ⟨w.heap.size, 3, none⟩ = some (.int .i64 0) := heap_cell hV.res 3
    have r4 : V.cell? ⟨w.heap.size, 4, none⟩ = some (.int .i64 0) := heap_cell hV.res 4
    have rf := heap_frozen hV.res
    have ne1 : w.heap.size ≠ b := by have := hbl.out; omega
    have ne2 : w.heap.size ≠ W.heap.size := by have := hV.lt; omega
    have HB : Hid (Below w.heap.size w V) := hV.bel
    clear hV
    generalize hPA : (t n).par = PA at *
    generalize hLP : (t n).lp = LP at *
    generalize hLQ : (t n).lq = LQ at *
    have HPL : Hid ((t n).par = PA ∧ (t n).lp = LP ∧ (t n).lq = LQ) := ⟨hPA, hLP, hLQ⟩
    clear hPA hLP hLQ
    go_region_held3 (fun w' => w'.cell? ⟨b, n * 6 + 1, none⟩ = some (.int .i64 PA) ∧ w'.cell? ⟨b, n * 6 + 2, none⟩ = some (.int .i64 LP) ∧ w'.cell? ⟨b, n * 6 + 2 + 1, none⟩ = some (.int .i64 LQ) ∧ w'.cell? ⟨W.heap.size, 0, none⟩ = some (.int .i64 X) ∧ w'.cell? ⟨W.heap.size, 1, none⟩ = some (.int .i64 Y)) (go_keep) (fail)
    go_wp2
    refine bodyPost_ret (v := .tuple #[.agg #[.int .i64 PA, .int .i64 LP, .int .i64 LQ, .int .i64 X, .int .i64 Y], .nilIface]) (by simp [results, Try.results40, go_sem, r0, r1, r2, r3, r4]) rfl ⟨by rw [HX.out.1, HX.out.2, HPL.out.1, HPL.out.2.1, HPL.out.2.2], ?_⟩
    exact (((((HB.out.setCell (Nat.le_refl _) _).setCell (Nat.le_refl _) _).setCell (Nat.le_refl _) _).setCell (Nat.le_refl _) _).setCell (Nat.le_refl _) _).drew
end Go.Proofs.Ytgabceeekkcekaa

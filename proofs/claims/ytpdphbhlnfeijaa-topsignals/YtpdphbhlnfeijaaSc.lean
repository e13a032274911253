/- The code's box: first, Ends, Take, Child. -/
import Derived.Test.YtpdphbhlnfeijaaSb
import Derived.Laws.Tables
namespace Go.Proofs.Ytpdphbhlnfeijaa
open Go.RowKit
open Sg (S1)

section
variable {P : Program}
theorem loadVar_at (w : World) (b o n : Nat) (ty e : TypeId) (cs : Array Value) (hc : ∀ j, j < cs.size → w.cell? ⟨b, o + j, none⟩ = cs[j]?)
    (hu : P.underlying ty = some (.array n e)) (hi : (P.info? ty).map (·.size) = some cs.size) : (loadVar ty ⟨b, o, none⟩).run P w = .ok (.agg cs) w := by
  have hl := run_loadCells_list (P := P) w ⟨b, o, none⟩ cs.toList (fun j v hv => by
    rw [Array.getElem?_toList] at hv
    rw [addNoneO, hc j (Array.getElem?_eq_some_iff.1 hv).1, hv])
  rw [Array.length_toList, Array.toArray_toList] at hl
  obtain ⟨i, hq, hs⟩ := Option.map_eq_some_iff.1 hi
  have ha : (isAgg ty).run P w = .ok true w := by unfold isAgg; rw [Sem.run_bind, run_underlying hu w]; simp
  simp [loadVar, Sem.run_bind, ha, sizeOf, typeInfo, hq, hs, hl]
theorem wpList_load_at {ops : Array Oper} {rest : List Oper} {x : Oper} {a : Act} {w : World} {Q : Exit → Act → World → Prop} (hgd : x.guard = none) (ty : TypeId) (y : Operand) (ho : x.op = .load ty y)
    (b o : Nat) (hx : a.eval y = .pointer (some ⟨b, o, none⟩)) (cs : Array Value) (n : Nat) (e : TypeId) (hc : ∀ j, j < cs.size → w.cell? ⟨b, o + j, none⟩ = cs[j]?)
    (hu : P.underlying ty = some (.array n e)) (hi : (P.info? ty).map (·.size) = some cs.size)
    (h : wpList P ops Q rest (a.put x.dst (.agg cs)) w) : wpList P ops Q (x :: rest) a w :=
  wpList_plain hgd fun _ hK => by
    have := loadVar_at w b o n ty e cs hc hu hi
    unfold Oper.wp execOp
    simp only [ho, hx, Instr.loadAt, Instr.sureAddr, Sem.run_bind, Sem.run_pure, Result.andThen_ok, this]
    exact hK _ _ h
end
/-- The cells of a box. -/
def boxA (X : Nat → S1) : Array Value := ((List.range 24).map fun o => Sg.cel (X (o / 3 + 1)) (o % 3)).toArray
theorem boxA_size (X : Nat → S1) : (boxA X).size = 24 := by simp [boxA]
theorem boxA_at (X : Nat → S1) (o : Nat) (h : o < 24) : (boxA X)[o]? = some (Sg.cel (X (o / 3 + 1)) (o % 3)) := by simp [boxA, h]
theorem boxA_ex (X : Nat → S1) (x : Nat) (h : x < 8) : (boxA X).extract (x * 3) (x * 3 + 3) = #[.bool (X (x + 1)).wt, .bool (X (x + 1)).hd, .int .i64 (X (x + 1)).hw] := by
  apply Array.ext_getElem?
  intro i
  rw [Array.getElem?_extract]
  by_cases hi : i < 3
  · rw [if_pos (by rw [boxA_size]; omega), boxA_at X _ (by omega), show (x * 3 + i) / 3 = x by omega, show (x * 3 + i) % 3 = i by omega]
    match i, hi with
    | 0, _ => rfl
    | 1, _ => rfl
    | 2, _ => rfl
  · rw [if_neg (by rw [boxA_size]; omega), Array.getElem?_eq_none (by simp; omega)]
theorem CX.all {w : World} {b : Nat} {X : Nat → S1} (h : CX w b X) (j : Nat) (hj : j < (boxA X).size) : w.cell? ⟨b, 0 + j, none⟩ = (boxA X)[j]? := by
  rw [boxA_size] at hj
  rw [boxA_at X j hj]
  have := h.cel (j / 3) (by omega) (j % 3) (by omega)
  rw [show j / 3 * 3 + j % 3 = 0 + j by omega] at this
  exact this
theorem CX.of_blk {w : World} {b : Nat} {X : Nat → S1} {T : TypeId} (h : w.heap[b]? = some (.cells (boxA X) T (0, 0))) : CX w b X :=
  ⟨⟨_, T, h, boxA_size X⟩, fun i hi j hj => by
    rw [cell_blk h, boxA_at X _ (by omega), show (i * 3 + j) / 3 = i by omega, show (i * 3 + j) % 3 = j by omega]⟩
theorem CX.congr {w : World} {b : Nat} {X Y : Nat → S1} (h : CX w b X) (e : ∀ n, 1 ≤ n → n ≤ 8 → X n = Y n) : CX w b Y :=
  ⟨h.blk, fun i hi j hj => by rw [← e (i + 1) (by omega) (by omega)]; exact h.cel i hi j hj⟩
theorem index_box (X : Nat → S1) (x : Nat) (h : x < 8) (w : World) : Sem.run Try.prog (Instr.index 28 (Value.agg (boxA X)) (Value.int IntKind.i64 x)) w = .ok (.agg #[.bool (X (x + 1)).wt, .bool (X (x + 1)).hd, .int .i64 (X (x + 1)).hw]) w := by
  have hu : Try.prog.underlying 28 = some (.array 8 27) := by kernel_rfl
  have hx := boxA_ex X x h
  have h1 : (x : Int) < 8 := by omega
  simp [Instr.index, Sem.run_bind, run_underlying hu, go_sem, hx]
  intro c; omega
set_option maxRecDepth 100000 in
theorem box_built (X : Nat → S1) : Try.prog.built 30 [(0, .agg (boxA X))] = some (boxA X) := by kernel_rfl
theorem box_zero : Try.prog.built 30 [] = some (boxA Sg.nul) := by kernel_rfl
section
variable {ops : Array Oper} {rest : List Oper} {x : Oper} {a : Act} {w : World} {Q : Exit → Act → World → Prop}
theorem wp_buildBox (A : Array Value) {y : Operand} (hgd : x.guard = none) (ho : x.op = .build 30 #[(0, y)]) (hy : a.eval y = .agg A) (hb : Try.prog.built 30 [(0, .agg A)] = some A) (h : wpList Try.prog ops Q rest (a.put x.dst (.agg A)) w) : wpList Try.prog ops Q (x :: rest) a w :=
  wpList_build hgd 30 #[(0, y)] ho (by simp [hy, hb]) (by simpa [hy, hb] using h)
theorem wp_buildBox0 (hgd : x.guard = none) (ho : x.op = .build 30 #[]) (h : wpList Try.prog ops Q rest (a.put x.dst (.agg (boxA Sg.nul))) w) : wpList Try.prog ops Q (x :: rest) a w :=
  wpList_build hgd 30 #[] ho (by simp [box_zero]) (by simpa [box_zero] using h)
end
def Sg.isB (n : Nat) : Bool := decide (0 < n)
set_option maxRecDepth 100000 in
set_option maxHeartbeats 1000000 in
theorem first_any (b : Nat) (k : Int) (X : Nat → S1) (w : World) (h : CX w b X) :
    Calls Try.prog 23 #[.pointer (some ⟨b, 0, none⟩), .int .i64 k] w fun e w' => ∃ n : Nat, e = .returned (.tuple #[.int .i64 n, .bool (Sg.isB n)]) ∧ Sg.FirTo X k n ∧ Below w.heap.size w w' := by
  have HS := Hid.intro h
  clear h
  have hsz : Hid ((Try.prog.info? 28).map (·.size) = some (boxA X).size) := Hid.intro (by rw [boxA_size]; kernel_rfl)
  go_enter Try.func23, Try.ntmps23
  go_wp2_with (refine wpList_load_at rfl 28 _ rfl b 0 rfl (boxA X) 8 27 HS.out.all (by kernel_rfl) hsz.out ?_)
  go_loopw [12] (fun i wr => ∃ (x : Nat), i = .int .i64 x ∧ x ≤ 8 ∧ Hid (Below w.heap.size w wr ∧ ∀ j, 1 ≤ j → j < x + 1 → Sg.ok X k j = false)) (fun i _ => 8 - (intOf i).toNat)
  case atStart => exact ⟨0, rfl, by omega, Below.refl _ _, fun j h1 h2 => by omega⟩
  case round =>
    obtain ⟨x, rfl, hx8, HN⟩ := hrel
    by_cases hx : x < 8
    · have hxI : (x : Int) < 8 := by omega
      have hix := index_box X x hx wr
      have HKB : Hid (Sg.ok X k (x + 1) = ((X (x + 1)).wt && !(X (x + 1)).hd && decide ((X (x + 1)).hw = k))) := Hid.intro rfl
      generalize (X (x + 1)).wt = ww at *
      generalize (X (x + 1)).hd = hh at *
      generalize (X (x + 1)).hw = kk at *
      have BL : Hid (∀ o, Below w.heap.size w (wr.alloc o)) := Hid.intro (fun o => HN.out.1.alloc HN.out.1.size o)
      have NX : Hid (Sg.ok X k (x + 1) = false → ∀ j, 1 ≤ j → j < x + 1 + 1 → Sg.ok X k j = false) := Hid.intro (fun c j h1 hj => by
        by_cases e : j = x + 1
        · rw [e]; exact c
        · exact HN.out.2 j h1 (by omega))
      cases ww
      · go_wp2_with fail
        go_roundw
        case rel => exact ⟨x + 1, by go_num, by omega, BL.out _, NX.out (by rw [HKB.out]; rfl)⟩
        case measure => simp [intOf]; omega
      · cases hh
        · by_cases hi : kk = k
          · subst hi
            go_wp2_with fail
            go_ret2
            exact ⟨x + 1, rfl, .inr ⟨by omega, by omega, by rw [HKB.out]; simp, HN.out.2⟩, BL.out _⟩
          · have hi' : (kk == k) = false := by simp; exact hi
            go_wp2_with fail
            go_roundw
            case rel => exact ⟨x + 1, by go_num, by omega, BL.out _, NX.out (by rw [HKB.out, decide_eq_false hi]; simp)⟩
            case measure => simp [intOf]; omega
        · go_wp2_with fail
          go_roundw
          case rel => exact ⟨x + 1, by go_num, by omega, BL.out _, NX.out (by rw [HKB.out]; rfl)⟩
          case measure => simp [intOf]; omega
    · have hxI : ¬ (x : Int) < 8 := by omega
      go_wp2_with fail
      go_ret2
      exact ⟨0, rfl, .inl ⟨rfl, fun j h1 h2 => HN.out.2 j h1 (by omega)⟩, HN.out.1⟩
set_option maxRecDepth 100000 in
set_option maxHeartbeats 400000 in
theorem ends_any (b : Nat) (X : Nat → S1) (w : World) (h : CX w b X) :
    Calls Try.prog 16 #[.pointer (some ⟨b, 0, none⟩)] w fun e w' => ∃ n : Nat, e = .returned (.tuple #[.int .i64 n, .bool (Sg.isB n)]) ∧ Sg.FirTo X 0 n ∧ Below w.heap.size w w' := by
  have HF := Hid.intro h
  clear h
  go_enter Try.func16, Try.ntmps16
  go_wp2_with fail
  refine (first_any b 0 X _ HF.out).mono ?_
  rintro e w1 ⟨n, rfl, hn, hb⟩
  have HN := Hid.intro hn
  have HB := Hid.intro hb
  clear hn hb
  go_wp2_with fail
  go_ret2
  exact ⟨n, rfl, HN.out, HB.out⟩
set_option maxRecDepth 100000 in
set_option maxHeartbeats 1000000 in
theorem take_any (b : Nat) (X : Nat → S1) (w : World) (h : CX w b X) :
    Calls Try.prog 14 #[.pointer (some ⟨b, 0, none⟩)] w fun e w' => ∃ n : Nat, e = .returned (.tuple #[.int .i64 n, .bool (Sg.isB n)]) ∧ Sg.FirTo X 2 n ∧ CX w' b (Sg.takF X n) ∧ Frm b w w' := by
  have HF := Hid.intro h
  clear h
  go_enter Try.func14, Try.ntmps14
  go_wp2_with fail
  refine (first_any b 2 X _ HF.out).mono ?_
  rintro e w1 ⟨n, rfl, hn, hb⟩
  have HN := Hid.intro hn
  have HB := Hid.intro (Frm.of_below (b := b) hb)
  have H1 := Hid.intro (HF.out.below hb HF.out.lt)
  have n8 := hn.le
  clear hn hb
  have nn : n = 0 ∨ n = 1 ∨ n = 2 ∨ n = 3 ∨ n = 4 ∨ n = 5 ∨ n = 6 ∨ n = 7 ∨ n = 8 := by omega
  have FIN : Hid (∀ i, i < 8 → n = i + 1 → CX (w1.setCell ⟨b, i * 3, none⟩ (.bool false)) b (Sg.takF X n)) := Hid.intro (fun i hi e => by
    have := H1.out.setW i hi false
    unfold Sg.takF
    rw [if_neg (by omega), e]
    exact this)
  have CL : Hid (∀ i, i < 8 → n = i + 1 → w1.cell? ⟨b, i * 3, none⟩ = some (.bool (X (i + 1)).wt) ∧ w1.frozen? ⟨b, i * 3, none⟩ = false) := Hid.intro (fun i hi _ => ⟨H1.out.wt i hi, H1.out.frozen _⟩)
  rcases nn with rfl | rfl | rfl | rfl | rfl | rfl | rfl | rfl | rfl
  · rw [show Sg.isB 0 = false from rfl]
    go_wp2_with fail
    go_ret2
    exact ⟨0, rfl, HN.out, H1.out, HB.out⟩
  · have c0 : w1.cell? ⟨b, 0, none⟩ = some (.bool (X 1).wt) := (CL.out 0 (by omega) rfl).1
    have fz : w1.frozen? ⟨b, 0, none⟩ = false := (CL.out 0 (by omega) rfl).2
    rw [show Sg.isB 1 = true from rfl]
    go_wp2_with fail
    go_ret2
    exact ⟨1, rfl, HN.out, FIN.out 0 (by omega) rfl, HB.out.setCell _ _⟩
  · have c0 : w1.cell? ⟨b, 3, none⟩ = some (.bool (X 2).wt) := (CL.out 1 (by omega) rfl).1
    have fz : w1.frozen? ⟨b, 3, none⟩ = false := (CL.out 1 (by omega) rfl).2
    rw [show Sg.isB 2 = true from rfl]
    go_wp2_with fail
    go_ret2
    exact ⟨2, rfl, HN.out, FIN.out 1 (by omega) rfl, HB.out.setCell _ _⟩
  · have c0 : w1.cell? ⟨b, 6, none⟩ = some (.bool (X 3).wt) := (CL.out 2 (by omega) rfl).1
    have fz : w1.frozen? ⟨b, 6, none⟩ = false := (CL.out 2 (by omega) rfl).2
    rw [show Sg.isB 3 = true from rfl]
    go_wp2_with fail
    go_ret2
    exact ⟨3, rfl, HN.out, FIN.out 2 (by omega) rfl, HB.out.setCell _ _⟩
  · have c0 : w1.cell? ⟨b, 9, none⟩ = some (.bool (X 4).wt) := (CL.out 3 (by omega) rfl).1
    have fz : w1.frozen? ⟨b, 9, none⟩ = false := (CL.out 3 (by omega) rfl).2
    rw [show Sg.isB 4 = true from rfl]
    go_wp2_with fail
    go_ret2
    exact ⟨4, rfl, HN.out, FIN.out 3 (by omega) rfl, HB.out.setCell _ _⟩
  · have c0 : w1.cell? ⟨b, 12, none⟩ = some (.bool (X 5).wt) := (CL.out 4 (by omega) rfl).1
    have fz : w1.frozen? ⟨b, 12, none⟩ = false := (CL.out 4 (by omega) rfl).2
    rw [show Sg.isB 5 = true from rfl]
    go_wp2_with fail
    go_ret2
    exact ⟨5, rfl, HN.out, FIN.out 4 (by omega) rfl, HB.out.setCell _ _⟩
  · have c0 : w1.cell? ⟨b, 15, none⟩ = some (.bool (X 6).wt) := (CL.out 5 (by omega) rfl).1
    have fz : w1.frozen? ⟨b, 15, none⟩ = false := (CL.out 5 (by omega) rfl).2
    rw [show Sg.isB 6 = true from rfl]
    go_wp2_with fail
    go_ret2
    exact ⟨6, rfl, HN.out, FIN.out 5 (by omega) rfl, HB.out.setCell _ _⟩
  · have c0 : w1.cell? ⟨b, 18, none⟩ = some (.bool (X 7).wt) := (CL.out 6 (by omega) rfl).1
    have fz : w1.frozen? ⟨b, 18, none⟩ = false := (CL.out 6 (by omega) rfl).2
    rw [show Sg.isB 7 = true from rfl]
    go_wp2_with fail
    go_ret2
    exact ⟨7, rfl, HN.out, FIN.out 6 (by omega) rfl, HB.out.setCell _ _⟩
  · have c0 : w1.cell? ⟨b, 21, none⟩ = some (.bool (X 8).wt) := (CL.out 7 (by omega) rfl).1
    have fz : w1.frozen? ⟨b, 21, none⟩ = false := (CL.out 7 (by omega) rfl).2
    rw [show Sg.isB 8 = true from rfl]
    go_wp2_with fail
    go_ret2
    exact ⟨8, rfl, HN.out, FIN.out 7 (by omega) rfl, HB.out.setCell _ _⟩
/-- The first k are made not to wait. -/
def Sg.chK (X : Nat → S1) (k : Nat) : Nat → S1 := fun n => if n ≤ k ∧ 0 < n then ⟨false, (X n).hd, (X n).hw⟩ else X n
theorem Sg.chK_zero (X : Nat → S1) : Sg.chK X 0 = X := by
  funext n
  unfold Sg.chK
  rw [if_neg (by omega)]
theorem Sg.chK_succ (X : Nat → S1) (k : Nat) : Sg.put (Sg.chK X k) (k + 1) ⟨false, (Sg.chK X k (k + 1)).hd, (Sg.chK X k (k + 1)).hw⟩ = Sg.chK X (k + 1) := by
  funext n
  unfold Sg.put
  by_cases e : n = k + 1
  · rw [if_pos e, e]
    unfold Sg.chK
    rw [if_neg (by omega), if_pos (by omega)]
  · rw [if_neg e]
    unfold Sg.chK
    by_cases c : n ≤ k ∧ 0 < n
    · rw [if_pos c, if_pos (by omega)]
    · rw [if_neg c, if_neg (by omega)]
theorem Sg.chK_eight (X : Nat → S1) (n : Nat) (h1 : 1 ≤ n) (h8 : n ≤ 8) : Sg.chK X 8 n = Sg.chiF X n := by
  unfold Sg.chK Sg.chiF
  rw [if_pos ⟨h8, by omega⟩]
set_option maxRecDepth 100000 in
set_option maxHeartbeats 1000000 in
theorem child_any (b : Nat) (X : Nat → S1) (w : World) (h : CX w b X) :
    Calls Try.prog 18 #[.pointer (some ⟨b, 0, none⟩)] w fun e w' => e = .returned (.pointer (some ⟨w.heap.size, 0, none⟩)) ∧ CX w' w.heap.size (Sg.chiF X) ∧ Below w.heap.size w w' ∧ w.heap.size < w'.heap.size := by
  have HS := Hid.intro h
  clear h
  have hsz : Hid ((Try.prog.info? 28).map (·.size) = some (boxA X).size) := Hid.intro (by rw [boxA_size]; kernel_rfl)
  have BT : Hid (Try.prog.built 30 [(0, .agg (boxA X))] = some (boxA X)) := Hid.intro (box_built X)
  have ST : Hid (CX (w.alloc (.cells (boxA X) 30)) w.heap.size X ∧ Below w.heap.size w (w.alloc (.cells (boxA X) 30))) := Hid.intro ⟨CX.of_blk (heap_alloc_new w _), (Below.refl _ _).alloc (Nat.le_refl _) _⟩
  obtain ⟨A, hA⟩ : ∃ A, boxA X = A := ⟨_, rfl⟩
  have AL : Hid (∀ j, j < A.size → w.cell? ⟨b, 0 + j, none⟩ = A[j]?) := Hid.intro (by rw [← hA]; exact HS.out.all)
  rw [hA] at hsz BT ST
  clear hA
  go_enter Try.func18, Try.ntmps18
  go_upto_region 2 with (first | (refine wpList_load_at rfl 28 _ rfl b 0 rfl A 8 27 AL.out (by kernel_rfl) hsz.out ?_) | (refine wp_buildBox A rfl rfl rfl BT.out ?_))
  refine wp_gen (fun W' => CX W' w.heap.size X ∧ Below w.heap.size w W') ST.out ?_
  rintro W1 ⟨f1, b1⟩
  have S0 : Hid (CX W1 w.heap.size (Sg.chK X 0) ∧ Below w.heap.size w W1) := Hid.intro ⟨by rw [Sg.chK_zero]; exact f1, b1⟩
  clear f1 b1
  obtain ⟨c, hc⟩ : ∃ c, w.heap.size = c := ⟨_, rfl⟩
  have HC := Hid.intro hc
  rw [hc] at S0 ⊢
  clear hc ST AL hsz BT
  go_wp2_with fail
  go_loopw [11] (fun i wr => ∃ (x : Nat), i = .int .i64 x ∧ x ≤ 8 ∧ Hid (CX wr c (Sg.chK X x) ∧ Below c w wr)) (fun i _ => 8 - (intOf i).toNat)
  case atStart => exact ⟨0, rfl, by omega, S0⟩
  case round =>
    clear S0
    obtain ⟨x, rfl, hx8, HN⟩ := hrel
    by_cases hx : x < 8
    · have hxI : (x : Int) < 8 := by omega
      have c0 := HN.out.1.wt x hx
      have fz := HN.out.1.frozen (x * 3)
      have NX : Hid (CX (wr.setCell ⟨c, x * 3, none⟩ (.bool false)) c (Sg.chK X (x + 1)) ∧ Below c w (wr.setCell ⟨c, x * 3, none⟩ (.bool false))) := Hid.intro ⟨by
        have := HN.out.1.setW x hx false
        rw [Sg.chK_succ] at this
        exact this, HN.out.2.setCell (Nat.le_refl _) _⟩
      go_wp2_with fail
      go_roundw
      case rel => exact ⟨x + 1, by go_num, by omega, NX⟩
      case measure => simp [intOf]; omega
    · have hxI : ¬ (x : Int) < 8 := by omega
      obtain rfl : x = 8 := by omega
      go_wp2_with fail
      go_ret
      rw [HC.out]
      exact ⟨rfl, HN.out.1.congr (Sg.chK_eight X), HN.out.2, HN.out.1.lt⟩
end Go.Proofs.Ytpdphbhlnfeijaa

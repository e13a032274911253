/- The code's table: above, newSpace. -/
import Derived.Test.YtgabfkaadflciaaVf
namespace Go.Proofs.Ytgabfkaadflciaa
open Go.RowKit
open Sp (T)

theorem there_new (w : World) (cs : Array Value) (T : TypeId) (k : Nat) (hk : k ≤ cs.size) : (w.alloc (.cells cs T)).there w.heap.size 0 k := fun j hj => by
  have h := heap_alloc_new w (.cells cs T)
  exact ⟨by rw [cell_blk h, Array.getElem?_eq_getElem (by omega)]; rfl, frozen_blk h _⟩
/-- The cells of all spaces. -/
def rowS (t : T) : List Value := (List.range 138).map (cellT true t)
theorem rowS_len (t : T) : (rowS t).length = 138 := by simp [rowS]
theorem Tb.rangeS {w : World} {b : Nat} {t : T} (h : Tb true w b t) : w.rangeAt b 0 (rowS t) := fun j v hv => by
  have hj : j < 138 := by have := (List.getElem?_eq_some_iff.1 hv).1; rwa [rowS_len] at this
  rw [Nat.zero_add, h.cell j (by omega)]
  simp [rowS, hj] at hv
  rw [hv]
def spOf (t : T) (k : Nat) : Array Value := spA (t.here k) (t.par k) (fun p => cw true (t.here k) (t.who k p))
theorem rowS_ex (t : T) (k : Nat) (hk : k < 6) : (rowS t).toArray.extract (k * 23) (k * 23 + 23) = spOf t k := by
  apply Array.ext_getElem?
  intro i
  rw [Array.getElem?_extract]
  by_cases hi : i < 23
  · rw [if_pos (by simp [rowS_len]; omega)]
    unfold spOf
    rw [spA_at _ _ _ i hi]
    have : (rowS t).toArray[k * 23 + i]? = some (cellT true t (k * 23 + i)) := by rw [List.getElem?_toArray, rowS, List.getElem?_map, List.getElem?_range (by omega)]; rfl
    rw [this]
    by_cases e0 : i = 0
    · subst e0; rw [if_pos rfl, Nat.add_zero, cellT_here true t k hk]
    · by_cases e1 : i = 1
      · subst e1; rw [if_neg (by omega), if_pos rfl, cellT_par true t k hk]
      · rw [if_neg e0, if_neg e1]
        have := cellT_who true t k (i - 2) hk (by omega)
        rw [show k * 23 + 2 + (i - 2) = k * 23 + i by omega] at this
        rw [this]
  · rw [if_neg (by simp [rowS_len]; omega), Array.getElem?_eq_none (by unfold spOf; rw [spA_size]; omega)]
theorem index_rowS (t : T) (k : Nat) (hk : k < 6) (w : World) : Sem.run Try.prog (Instr.index 158 (Value.agg (rowS t).toArray) (Value.int IntKind.i64 k)) w = .ok (.agg (spOf t k)) w := by
  have hu : Try.prog.underlying 158 = some (.array 6 157) := by kernel_rfl
  have h1 : (k : Int) < 6 := by omega
  have hx := rowS_ex t k hk
  simp at hx
  simp [Instr.index, Sem.run_bind, run_underlying hu, go_sem, hx, hk]
theorem spOf_size (t : T) (k : Nat) : (spOf t k).size = 23 := spA_size _ _ _
theorem spOf_one (t : T) (k : Nat) : (spOf t k).all (·.oneCell') = true := spA_one _ _ _
/-- A space, copied into a new block. -/
theorem new_space {w w0 : World} (hb : Below w0.heap.size w0 w) (cs : Array Value) (T : TypeId) (hs : cs.size = 23) (t : Sp.T) (k : Nat) :
    ((w.alloc (.cells cs T)).setCells w.heap.size 0 (spOf t k).toList).cell? ⟨w.heap.size, 0, none⟩ = some (.bool (t.here k)) ∧ ((w.alloc (.cells cs T)).setCells w.heap.size 0 (spOf t k).toList).cell? ⟨w.heap.size, 1, none⟩ = some (.int .i64 (t.par k)) ∧ Below w0.heap.size w0 ((w.alloc (.cells cs T)).setCells w.heap.size 0 (spOf t k).toList) := by
  have ht := there_new w cs T 23 (by omega)
  have hl : (spOf t k).toList.length = 23 := by rw [Array.length_toList, spOf_size]
  have hin : ∀ j, j < 23 → ((w.alloc (.cells cs T)).setCells w.heap.size 0 (spOf t k).toList).cell? ⟨w.heap.size, 0 + j, none⟩ = (spOf t k)[j]? := fun j hj => by
    rw [World.cell?_setCells_in w.heap.size (spOf t k).toList 0 _ (fun i hi => (ht i (by omega)).1) j (by omega), ← Array.getElem?_toList, List.getElem?_eq_getElem (by omega)]
  refine ⟨?_, ?_, ?_⟩
  · have := hin 0 (by omega); rw [Nat.zero_add] at this; rw [this]; exact spA_at _ _ _ 0 (by omega)
  · have := hin 1 (by omega); rw [Nat.zero_add] at this; rw [this]; exact spA_at _ _ _ 1 (by omega)
  · have f : Frm w.heap.size w0 ((w.alloc (.cells cs T)).setCells w.heap.size 0 (spOf t k).toList) := Frm.setCells _ _ (Frm.of_below (hb.alloc hb.size _))
    have hsz := hb.size
    exact ⟨f.os, f.tape, f.output, f.size, fun j hj => f.block j hj (by omega)⟩
set_option maxRecDepth 100000 in
set_option maxHeartbeats 1000000 in
theorem above_any (b n : Nat) (t : T) (w : World) (h : Tb true w b t) :
    Calls Try.prog 129 #[.pointer (some ⟨b, 0, none⟩), .int .i64 n] w fun e w' => e = .returned (.bool (Sp.kids t n)) ∧ Below w.heap.size w w' := by
  have HR := Hid.intro h.rangeS
  have hsz : Hid ((Try.prog.info? 158).map (·.size) = some (rowS t).length) := Hid.intro (by rw [rowS_len]; kernel_rfl)
  have hs1 : Hid (∀ k, (Try.prog.info? 157).map (·.size) = some (spOf t k).size) := Hid.intro (fun k => by rw [spOf_size]; kernel_rfl)
  clear h
  go_enter Try.func129, Try.ntmps129
  go_wp2_with (refine wpList_load_mid rfl 158 _ rfl b 0 rfl (rowS t) (.array 6 157) HR.out (by kernel_rfl) rfl hsz.out ?_)
  go_loopw [11] (fun i wr => ∃ (k : Nat), i = .int .i64 k ∧ k ≤ 6 ∧ Hid (Below w.heap.size w wr ∧ ∀ j, j < k → Sp.kidP t n j = false)) (fun i _ => 6 - (intOf i).toNat)
  case atStart => exact ⟨0, rfl, by omega, Below.refl _ _, fun j hj => by omega⟩
  case round =>
    obtain ⟨k, rfl, hk, R⟩ := hrel
    by_cases hlt : k < 6
    · have hltI : (k : Int) < 6 := by omega
      have hix := index_rowS t k hlt wr
      have HKB : Hid (Sp.kidP t n k = (t.here k && decide (t.par k = (n : Int)))) := Hid.intro rfl
      have NX : Hid (Sp.kidP t n k = false → ∀ j, j < k + 1 → Sp.kidP t n j = false) := Hid.intro (fun c j hj => by
        by_cases e : j = k
        · rw [e]; exact c
        · exact R.out.2 j (by omega))
      have NSP := Hid.intro (new_space R.out.1 (spA false 0 (mkF 0)) 157 (spA_size _ _ _) t k)
      have HHK : Hid (Sp.kidP t n k = true → Sp.kids t n = true) := Hid.intro (fun c => by unfold Sp.kids; exact List.any_eq_true.2 ⟨k, List.mem_range.2 hlt, c⟩)
      generalize t.here k = hh at *
      generalize t.par k = pp at *
      cases hh
      · go_wp2_with (first | (refine wpList_alloc_sp rfl rfl ?_) | (refine wpList_store_mid rfl 157 _ _ rfl wr.heap.size 0 (spOf t k) rfl rfl (by rw [spOf_size]; exact there_new _ _ _ 23 (by rw [spA_size]; exact Nat.le_refl _)) (hs1.out k) (spOf_one t k) ?_; generalize hW : World.setCells _ _ _ _ = W2; obtain ⟨n0, n1⟩ : W2.cell? ⟨wr.heap.size, 0, none⟩ = some _ ∧ W2.cell? ⟨wr.heap.size, 1, none⟩ = some _ := (by rw [← hW]; exact ⟨NSP.out.1, NSP.out.2.1⟩); have NB : Hid (Below w.heap.size w W2) := Hid.intro (by rw [← hW]; exact NSP.out.2.2); clear hW))
        go_roundw
        case rel => exact ⟨k + 1, by go_num, by omega, NB.out, NX.out (by rw [HKB.out]; rfl)⟩
        case measure => simp [intOf]; omega
      · by_cases hp : pp = (n : Int)
        · subst hp
          go_wp2_with (first | (refine wpList_alloc_sp rfl rfl ?_) | (refine wpList_store_mid rfl 157 _ _ rfl wr.heap.size 0 (spOf t k) rfl rfl (by rw [spOf_size]; exact there_new _ _ _ 23 (by rw [spA_size]; exact Nat.le_refl _)) (hs1.out k) (spOf_one t k) ?_; generalize hW : World.setCells _ _ _ _ = W2; obtain ⟨n0, n1⟩ : W2.cell? ⟨wr.heap.size, 0, none⟩ = some _ ∧ W2.cell? ⟨wr.heap.size, 1, none⟩ = some _ := (by rw [← hW]; exact ⟨NSP.out.1, NSP.out.2.1⟩); have NB : Hid (Below w.heap.size w W2) := Hid.intro (by rw [← hW]; exact NSP.out.2.2); clear hW))
          go_ret
          exact ⟨ret_bool (HHK.out (by rw [HKB.out]; simp)).symm, NB.out⟩
        · have hp' : (pp == (n : Int)) = false := by simp; exact hp
          go_wp2_with (first | (refine wpList_alloc_sp rfl rfl ?_) | (refine wpList_store_mid rfl 157 _ _ rfl wr.heap.size 0 (spOf t k) rfl rfl (by rw [spOf_size]; exact there_new _ _ _ 23 (by rw [spA_size]; exact Nat.le_refl _)) (hs1.out k) (spOf_one t k) ?_; generalize hW : World.setCells _ _ _ _ = W2; obtain ⟨n0, n1⟩ : W2.cell? ⟨wr.heap.size, 0, none⟩ = some _ ∧ W2.cell? ⟨wr.heap.size, 1, none⟩ = some _ := (by rw [← hW]; exact ⟨NSP.out.1, NSP.out.2.1⟩); have NB : Hid (Below w.heap.size w W2) := Hid.intro (by rw [← hW]; exact NSP.out.2.2); clear hW))
          go_roundw
          case rel => exact ⟨k + 1, by go_num, by omega, NB.out, NX.out (by rw [HKB.out, decide_eq_false hp]; simp)⟩
          case measure => simp [intOf]; omega
    · have hltI : ¬ (k : Int) < 6 := by omega
      go_wp2_with fail
      go_ret
      refine ⟨ret_bool ?_, R.out.1⟩
      cases hk2 : Sp.kids t n
      · rfl
      · obtain ⟨j, hj, kj⟩ := List.any_eq_true.1 hk2
        rw [R.out.2 j (by have := List.mem_range.1 hj; omega)] at kj; cases kj


structure NS (w W : World) (b2 b3 : Nat) (p : Int) (k : Nat) : Prop where
  bel : Below w.heap.size w W
  le : w.heap.size ≤ b2
  ne : b2 < b3
  two : ∃ cs, W.heap[b2]? = some (.cells cs 157 (0, 0)) ∧ cs.size = 23
  tre : W.heap[b3]? = some (.cells (spA true p (mkF k)) 157 (0, 0))
theorem NS.set {w W : World} {b2 b3 : Nat} {p : Int} {k : Nat} (h : NS w W b2 b3 p k) (hk : k < 21) : NS w (W.setCell ⟨b3, 2 + k, none⟩ (.int .i64 (-1))) b2 b3 p (k + 1) := by
  have h1 := h.le
  have h2 := h.ne
  refine ⟨h.bel.setCell (by show _ ≤ b3; omega) _, h1, h2, ?_, ?_⟩
  · obtain ⟨cs, c1, c2⟩ := h.two
    exact ⟨cs, (setBlk _ _ _ _ (by omega)).trans c1, c2⟩
  · rw [blk_set h.tre, spA_set _ _ _ k (-1) hk, mkF_up]
/-- A block that is filled whole. -/
theorem heap_setCells_full (b : Nat) (T : TypeId) (vs : List Value) (w : World) (C : Array Value) (h : w.heap[b]? = some (.cells C T (0, 0))) (hs : C.size = vs.length) : (w.setCells b 0 vs).heap[b]? = some (.cells vs.toArray T (0, 0)) := by
  obtain ⟨C', h1, h2⟩ := heap_setCells_blk b vs 0 w C h
  rw [h1]
  congr 2
  apply Array.ext_getElem?
  intro i
  by_cases hi : i < vs.length
  · have := World.cell?_setCells_in b vs 0 w (fun j hj => by rw [cell_blk h, Array.getElem?_eq_getElem (by omega)]; rfl) i hi
    rw [cell_blk h1, Nat.zero_add] at this
    rw [this, List.getElem?_toArray, List.getElem?_eq_getElem hi]
  · rw [Array.getElem?_eq_none (by omega), Array.getElem?_eq_none (by simp; omega)]
theorem NS.start (w : World) (p : Int) : NS w (((w.alloc (.cells (spA false 0 (mkF 0)) 157)).alloc (.cells (spA false 0 (mkF 0)) 157)).setCells (w.alloc (.cells (spA false 0 (mkF 0)) 157)).heap.size 0 (spA true p (mkF 0)).toList) w.heap.size (w.alloc (.cells (spA false 0 (mkF 0)) 157)).heap.size p 0 := by
  have e1 : (w.alloc (.cells (spA false 0 (mkF 0)) 157)).heap.size = w.heap.size + 1 := by simp
  have f : Frm (w.alloc (.cells (spA false 0 (mkF 0)) 157)).heap.size w (((w.alloc (.cells (spA false 0 (mkF 0)) 157)).alloc (.cells (spA false 0 (mkF 0)) 157)).setCells (w.alloc (.cells (spA false 0 (mkF 0)) 157)).heap.size 0 (spA true p (mkF 0)).toList) := Frm.setCells _ _ (Frm.of_below (((Below.refl _ w).alloc (Nat.le_refl _) _).alloc (by simp) _))
  refine ⟨⟨f.os, f.tape, f.output, f.size, fun j hj => f.block j hj (by omega)⟩, Nat.le_refl _, by omega, ⟨_, ?_, spA_size false 0 (mkF 0)⟩, ?_⟩
  · rw [heap_setCells_ne _ _ _ _ _ (by omega)]
    rw [Below.heap_alloc _ _ _ (by omega)]
    exact heap_alloc_new w _
  · have := heap_setCells_full (w.alloc (.cells (spA false 0 (mkF 0)) 157)).heap.size 157 (spA true p (mkF 0)).toList ((w.alloc (.cells (spA false 0 (mkF 0)) 157)).alloc (.cells (spA false 0 (mkF 0)) 157)) _ (heap_alloc_new _ _) (by rw [spA_size, spA_len])
    rw [this]
theorem NS.range {w W : World} {b2 b3 : Nat} {p : Int} {k : Nat} (h : NS w W b2 b3 p k) : W.rangeAt b3 0 (spA true p (mkF k)).toList := fun j v hv => by
  rw [Nat.zero_add, cell_blk h.tre, ← Array.getElem?_toList, hv]
theorem NS.there {w W : World} {b2 b3 : Nat} {p : Int} {k : Nat} (h : NS w W b2 b3 p k) (n : Nat) (hn : n = 23) : W.there b2 0 n := by
  obtain ⟨cs, c1, c2⟩ := h.two
  intro j hj
  exact ⟨by rw [cell_blk c1, Array.getElem?_eq_getElem (by omega)]; rfl, frozen_blk c1 _⟩
theorem NS.start' (w : World) (p : Int) : NS w (((w.alloc (.cells (spA false 0 (mkF 0)) 157)).alloc (.cells (spA false 0 (mkF 0)) 157)).setCells (w.heap.size + 1) 0 (spA true p (mkF 0)).toList) w.heap.size (w.heap.size + 1) p 0 := by
  have := NS.start w p
  rw [show (w.alloc (.cells (spA false 0 (mkF 0)) 157)).heap.size = w.heap.size + 1 by simp] at this
  exact this
theorem NS.cell {w W : World} {b2 b3 : Nat} {p : Int} {k : Nat} (h : NS w W b2 b3 p k) (hk : k < 21) : W.cell? ⟨b3, 2 + k, none⟩ = some (.int .i64 (mkF k k)) := by
  rw [cell_blk h.tre, spA_at _ _ _ (2 + k) (by omega), if_neg (by omega), if_neg (by omega), show 2 + k - 2 = k by omega]
theorem NS.fz {w W : World} {b2 b3 : Nat} {p : Int} {k : Nat} (h : NS w W b2 b3 p k) (o : Nat) : W.frozen? ⟨b3, o, none⟩ = false := frozen_blk h.tre o
/-- What newSpace gives back. -/
theorem NS.done {w W : World} {b2 b3 : Nat} {p : Int} {k : Nat} (h : NS w W b2 b3 p k) (cs : List Value) (hc : cs.length = 23) : (W.setCells b2 0 cs).rangeAt b2 0 cs ∧ Below w.heap.size w (W.setCells b2 0 cs) := by
  refine ⟨World.rangeAt_setCells_same _ _ _ _ (h.there _ hc), ?_⟩
  have f : Frm b2 W (W.setCells b2 0 cs) := Frm.setCells _ _ (Frm.refl _ _)
  exact f.below h.bel h.le h.bel.size
set_option maxRecDepth 100000 in
set_option maxHeartbeats 1000000 in
theorem newSpace_any (p : Int) (w : World) :
    Calls Try.prog 123 #[.int .i64 p] w fun e w' => e = .returned (.agg (spA true p (mkF 21))) ∧ Below w.heap.size w w' := by
  have hs1 : Hid ((Try.prog.info? 157).map (·.size) = some (spA true p (mkF 0)).size) := Hid.intro (by rw [spA_size]; kernel_rfl)
  have hs2 : Hid ((Try.prog.info? 157).map (·.size) = some (spA true p (mkF 21)).toList.length) := Hid.intro (by rw [spA_len]; kernel_rfl)
  have hs3' : Hid ((Try.prog.info? 157).map (·.size) = some (spA true p (mkF 21)).size) := Hid.intro (by rw [spA_size]; kernel_rfl)
  have S0 := Hid.intro (NS.start' w p)
  go_enter Try.func123, Try.ntmps123
  go_wp2_with (first | (refine wpList_alloc_sp rfl rfl ?_) | (refine wpList_build_sp2 rfl _ p rfl rfl ?_) | (refine wpList_store_mid rfl 157 _ _ rfl _ 0 (spA true p (mkF 0)) rfl rfl (by rw [spA_size]; exact there_new _ _ _ 23 (by rw [spA_size]; exact Nat.le_refl _)) hs1.out (spA_one _ _ _) ?_))
  refine wp_gen (fun W => NS w W w.heap.size (w.heap.size + 1) p 0) S0.out ?_
  intro W1 h1
  have S1 := Hid.intro h1
  clear h1 S0 hs1
  generalize w.heap.size + 1 = b3 at *
  obtain ⟨b2, hb2⟩ : ∃ b2, w.heap.size = b2 := ⟨_, rfl⟩
  rw [hb2] at S1 ⊢
  have HB2 := Hid.intro hb2
  clear hb2
  go_loopw [7] (fun i wr => ∃ (k : Nat), i = .int .i64 k ∧ k ≤ 21 ∧ Hid (NS w wr b2 b3 p k)) (fun i _ => 21 - (intOf i).toNat)
  case atStart => exact ⟨0, rfl, by omega, S1⟩
  case round =>
    clear S1
    obtain ⟨k, rfl, hk, S⟩ := hrel
    by_cases hlt : k < 21
    · have hltI : (k : Int) < 21 := by omega
      have c0 := S.out.cell hlt
      have cf := S.out.fz
      go_wp2_with fail
      go_roundw
      case rel => exact ⟨k + 1, by go_num, by omega, S.out.set hlt⟩
      case measure => simp [intOf]; omega
    · have hk21 : k = 21 := by omega
      subst hk21
      obtain ⟨A, hA⟩ : ∃ A, spA true p (mkF 21) = A := ⟨_, rfl⟩
      have hl : Hid (A.toList.length = 23) := Hid.intro (by rw [← hA]; exact spA_len _ _ _)
      have hr : Hid (wr.rangeAt b3 0 A.toList) := Hid.intro (by rw [← hA]; exact S.out.range)
      have h1 : Hid (A.all (·.oneCell') = true) := Hid.intro (by rw [← hA]; exact spA_one _ _ _)
      have ht : Hid (wr.there b2 0 A.size) := Hid.intro (S.out.there _ (by rw [← hA]; exact spA_size _ _ _))
      have hD := Hid.intro (S.out.done A.toList hl.out)
      rw [hA] at hs2
      have hs3 : Hid ((Try.prog.info? 157).map (·.size) = some A.size) := Hid.intro (by rw [← hA]; exact hs3'.out)
      have HA := Hid.intro hA
      clear hA S
      go_wp2_with (first | (refine wpList_load_mid rfl 157 _ rfl b3 0 rfl A.toList _ hr.out Try.underlying157 rfl hs2.out ?_; rw [Array.toArray_toList]) | (refine wpList_store_mid rfl 157 _ _ rfl b2 0 A rfl rfl ht.out hs3.out h1.out ?_))
      have hld := run_loadVar_mid (P := Try.prog) (wr.setCells b2 0 A.toList) b2 0 157 A.toList _ hD.out.1 Try.underlying157 rfl hs2.out
      rw [Array.toArray_toList] at hld
      generalize hW : World.setCells _ _ _ _ = W2 at *
      refine bodyPost_ret (v := .agg A) (by simp [results, Try.results123, Act.put, asAddr, hld]) rfl ⟨by rw [HA.out], hD.out.2⟩
end Go.Proofs.Ytgabfkaadflciaa

/- slices.Delete of a mount. -/
import Derived.Test.YthdadmbpnoofoaaGreatDoorMi
import Derived.Deep.RegionLaw
namespace Go.Proofs.YthdadmbpnoofoaaGreatDoor
open Go.RowKit
open Tr (Fo Nd)
open Mo (Wh Mt Tb)

namespace Mo
theorem mcs_take : ∀ (L : List Mt) (n : Nat), mcs (L.take n) = (mcs L).take (n * 4)
  | [], n => by simp [mcs]
  | x :: L, 0 => by simp [mcs]
  | x :: L, n + 1 => by
    show mtC x ++ mcs (L.take n) = (mtC x ++ mcs L).take ((n + 1) * 4)
    rw [mcs_take L n, show (n + 1) * 4 = n * 4 + 4 by omega]
    rfl
theorem mcs_drop : ∀ (L : List Mt) (n : Nat), mcs (L.drop n) = (mcs L).drop (n * 4)
  | [], n => by simp [mcs]
  | x :: L, 0 => by simp [mcs]
  | x :: L, n + 1 => by
    show mcs (L.drop n) = (mtC x ++ mcs L).drop ((n + 1) * 4)
    rw [mcs_drop L n, show (n + 1) * 4 = 4 + n * 4 by omega, ← List.drop_drop]
    rfl
end Mo
theorem jheapSetCells_ne (b : Nat) : ∀ (vs : List Value) (o : Nat) (w : World) (k : Nat), k ≠ b → (w.setCells b o vs).heap[k]? = w.heap[k]?
  | [], _, _, _, _ => rfl
  | v :: r, o, w, k, h => by
    rw [World.setCells, jheapSetCells_ne b r (o + 1) _ k h]
    exact setBlk _ _ _ _ h
theorem jFrmSetCells {b : Nat} : ∀ (vs : List Value) (o : Nat) {u w : World}, Frm b u w → Frm b u (w.setCells b o vs)
  | [], _, _, _, h => h
  | v :: r, o, u, w, h => by rw [World.setCells]; exact jFrmSetCells r (o + 1) (h.setCell o v)
theorem jblkSetCells (b : Nat) : ∀ (vs : List Value) (o : Nat) (w : World) (C : Array Value) {T : TypeId}, w.heap[b]? = some (.cells C T (0, 0)) → ∃ C', (w.setCells b o vs).heap[b]? = some (.cells C' T (0, 0)) ∧ C'.size = C.size
  | [], _, _, C, _, h => ⟨C, h, rfl⟩
  | v :: r, o, w, C, T, h => by
    rw [World.setCells]
    obtain ⟨C', h1, h2⟩ := jblkSetCells b r (o + 1) _ _ (blk_set h o v)
    exact ⟨C', h1, by rw [h2]; simp⟩
def zero4 : List Value := [.int .i64 0, .int .i64 0, .int .i64 0, .int .i64 0]
set_option maxRecDepth 100000 in
theorem run_clear4 (ty : TypeId) (b off c : Nat) (w : World) (hc : ∀ j, j < 4 → (w.cell? ⟨b, off + j, none⟩).isSome = true) (hf : ∀ j, j < 4 → w.frozen? ⟨b, off + j, none⟩ = false) :
    Sem.run Tryz.prog (Builtin.clear_ #[58] ty #[.slice (some ⟨b, off, none⟩) 1 c]) w = .ok (.tuple #[]) (w.setCells b off zero4) := by
  have hu : Tryz.prog.underlying 58 = some (.slice 105) := by kernel_rfl
  have hv : ∀ w, (zeroValue 105).run Tryz.prog w = .ok (.agg #[.int .i64 0, .int .i64 0, .int .i64 0, .int .i64 0]) w := fun w => by kernel_rfl
  have hst := run_storeCells_cells (P := Tryz.prog) b off zero4 0 w (by simpa [zero4] using hc) (by simpa [zero4] using hf) (by
    intro v hv'
    simp only [zero4, List.mem_cons, List.not_mem_nil, or_false] at hv'
    rcases hv' with rfl | rfl | rfl | rfl <;> rfl)
  simp only [Nat.add_zero] at hst
  have hz : (Builtin.zeroCells (Value.agg #[.int .i64 0, .int .i64 0, .int .i64 0, .int .i64 0]).cells 1).toList = zero4 := by kernel_rfl
  simp [Builtin.clear_, run_underlying hu, hv, hz, hst]
/-- A mount is taken out of a row. -/
theorem MRow.erased {w : World} {base g cap i M : Nat} {L : List Mt} (h : MRow w base L (.slice (some ⟨g, 0, none⟩) (M + 1) cap)) (hM : L.length = M + 1) (hi : i ≤ M) :
    MRow ((w.setCells g (i * 4) (Mo.mcs (L.drop (i + 1)))).setCells g (M * 4) zero4) base (L.eraseIdx i) (.slice (some ⟨g, 0, none⟩) M cap) ∧ Frm g w ((w.setCells g (i * 4) (Mo.mcs (L.drop (i + 1)))).setCells g (M * 4) zero4) := by
  refine ⟨?_, jFrmSetCells _ _ (jFrmSetCells _ _ (Frm.refl g w))⟩
  have hl : (L.eraseIdx i).length = M := by rw [List.length_eraseIdx_of_lt (by omega)]; omega
  have hn : (Mo.mcs (L.drop (i + 1))).length = (M - i) * 4 := by rw [Mo.mcs_len, List.length_drop, hM]; omega
  unfold MRow
  rw [hl]
  refine ⟨by rw [Mo.mcs_len, hl], ?_⟩
  rcases h.2 with ⟨e, _⟩ | ⟨g', cap', cur, e, hb, hg, h1, h2, h3, h4⟩
  · cases e
  · rw [hM] at e
    cases e
    rw [hM] at h1 h4
    obtain ⟨C1, k1, s1⟩ := jblkSetCells g (Mo.mcs (L.drop (i + 1))) (i * 4) w cur hg
    obtain ⟨C2, k2, s2⟩ := jblkSetCells g zero4 (M * 4) _ C1 k1
    refine .inr ⟨g, cap, C2, rfl, hb, k2, by omega, h2, by rw [s2, s1]; exact h3, ?_⟩
    have old : ∀ o, o < (M + 1) * 4 → w.cell? ⟨g, o, none⟩ = (Mo.mcs L)[o]? := fun o ho => by
      rw [cell_blk hg, ← h4, List.getElem?_take_of_lt ho, Array.getElem?_toList]
    apply List.ext_getElem?
    intro o
    by_cases ho : o < M * 4
    · rw [List.getElem?_take_of_lt ho, Array.getElem?_toList, ← cell_blk k2,
        World.cell?_setCells_out g zero4 (M * 4) _ ⟨g, o, none⟩ (fun _ _ => .inl ho), List.eraseIdx_eq_take_drop_succ, Mo.mcs_app]
      have hta : (Mo.mcs (L.take i)).length = i * 4 := by rw [Mo.mcs_len, List.length_take, hM]; omega
      by_cases c : o < i * 4
      · rw [World.cell?_setCells_out g _ (i * 4) w ⟨g, o, none⟩ (fun _ _ => .inl c), old o (by omega), List.getElem?_append_left (by omega), Mo.mcs_take, List.getElem?_take_of_lt c]
      · rw [List.getElem?_append_right (by omega), hta]
        have := World.cell?_setCells_in g (Mo.mcs (L.drop (i + 1))) (i * 4) w (fun j hj => by rw [old _ (by omega), List.getElem?_eq_getElem (by rw [Mo.mcs_len, hM]; omega)]; rfl) (o - i * 4) (by omega)
        rw [show i * 4 + (o - i * 4) = o by omega] at this
        rw [this, List.getElem?_eq_getElem (by omega)]
    · rw [List.getElem?_eq_none (by rw [List.length_take]; omega), List.getElem?_eq_none (by rw [Mo.mcs_len, hl]; omega)]
set_option maxRecDepth 1000000 in
set_option maxHeartbeats 2000000 in
theorem mdelete_any (base g cap i M : Nat) (L : List Mt) (w : World) (h : MRow w base L (.slice (some ⟨g, 0, none⟩) (M + 1) cap)) (hM : L.length = M + 1) (hi : i ≤ M) (h6 : M ≤ 5) :
    Calls Tryz.prog 95 #[.slice (some ⟨g, 0, none⟩) (M + 1) cap, .int .i64 i, .int .i64 ((i : Int) + 1)] w fun e w' => e = .returned (.slice (some ⟨g, 0, none⟩) M cap) ∧ MRow w' base (L.eraseIdx i) (.slice (some ⟨g, 0, none⟩) M cap) ∧ Frm g w w' := by
  obtain ⟨i0, z0, hi0, hz0, hz1, hz2, hz3⟩ := infoMt
  have hn : (Mo.mcs (L.drop (i + 1))).length = (M - i) * 4 := by rw [Mo.mcs_len, List.length_drop, hM]; omega
  have hcap : M + 1 ≤ cap ∧ cap ≤ maxLen := by
    rcases h.2 with ⟨e, _⟩ | ⟨g', cap', cur, e, hb, hg, h1, h2, h3, h4⟩
    · cases e
    · rw [hM] at e
      cases e
      exact ⟨by omega, h2⟩
  unfold maxLen at hcap
  have cl : ∀ o, o < (M + 1) * 4 → w.cell? ⟨g, o, none⟩ = (Mo.mcs L)[o]? := fun o ho => by
    rcases h.2 with ⟨e, _⟩ | ⟨g', cap', cur, e, hb, hg, h1, h2, h3, h4⟩
    · cases e
    · rw [hM] at e
      cases e
      rw [cell_blk hg, ← h4, List.getElem?_take_of_lt (by rw [hM]; exact ho), Array.getElem?_toList]
  have cs : ∀ o, o < (M + 1) * 4 → (w.cell? ⟨g, o, none⟩).isSome = true := fun o ho => by
    rw [cl o ho, List.getElem?_eq_getElem (by rw [Mo.mcs_len, hM]; omega)]; rfl
  obtain ⟨A, hA, hnews⟩ : ∃ A : Addr, (if cap = i + 1 then some (⟨g, 0, none⟩ : Addr) else some ⟨g, (i + 1) * 4, none⟩) = some A ∧ Hid (∀ j u, (Mo.mcs (L.drop (i + 1)))[j]? = some u → w.drew.cell? (A.add j) = some u) := by
    by_cases c : cap = i + 1
    · refine ⟨⟨g, 0, none⟩, by simp [c], fun j u hu => ?_⟩
      have := (List.getElem?_eq_some_iff.1 hu).1
      omega
    · refine ⟨⟨g, (i + 1) * 4, none⟩, by simp [c], fun j u hu => ?_⟩
      have hj := (List.getElem?_eq_some_iff.1 hu).1
      rw [hn] at hj
      rw [addNoneO]
      show w.cell? ⟨g, (i + 1) * 4 + j, none⟩ = some u
      rw [cl _ (by omega)]
      rw [Mo.mcs_drop, List.getElem?_drop] at hu
      exact hu
  have hd : MRow w.drew base L (.slice (some ⟨g, 0, none⟩) (M + 1) cap) := h
  have FIN : Hid (∀ W5, w.drew.setCells g (i * 4) (Mo.mcs (L.drop (i + 1))) = W5 → MRow (W5.setCells g (M * 4) zero4) base (L.eraseIdx i) (.slice (some ⟨g, 0, none⟩) M cap) ∧ Frm g w (W5.setCells g (M * 4) zero4)) := Hid.intro (fun W5 e => by
    subst e
    have := hd.erased hM hi
    exact ⟨this.1, ⟨this.2.os, this.2.tape, this.2.output, this.2.size, this.2.block⟩⟩)
  have s1 : Hid ((Mo.mcs (L.drop (i + 1))).length = (M - i) * 4) := Hid.intro hn
  have s2 : Hid (∀ u ∈ Mo.mcs (L.drop (i + 1)), u.oneCell' = true) := Hid.intro (Mo.mcs_one_cell _)
  have s3 : Hid (∀ j, j < (Mo.mcs (L.drop (i + 1))).length → (w.drew.cell? ⟨g, 0 + i * 4 + j, none⟩).isSome = true ∧ w.drew.frozen? ⟨g, 0 + i * 4 + j, none⟩ = false) := Hid.intro (fun j hj => by
    rw [hn] at hj
    rw [Nat.zero_add]
    exact ⟨cs (i * 4 + j) (by omega), h.frozen _⟩)
  have s4 : Hid (∀ W5, w.drew.setCells g (i * 4) (Mo.mcs (L.drop (i + 1))) = W5 → ∀ j, j < 4 → (W5.cell? ⟨g, M * 4 + j, none⟩).isSome = true ∧ W5.frozen? ⟨g, M * 4 + j, none⟩ = false) := Hid.intro (fun W5 e j hj => by
    subst e
    rw [World.frozen?_setCells, World.cell?_setCells_out g _ (i * 4) w.drew ⟨g, M * 4 + j, none⟩ (fun _ _ => .inr (by rw [hn]; show i * 4 + (M - i) * 4 ≤ M * 4 + j; omega))]
    exact ⟨cs (M * 4 + j) (by omega), h.frozen _⟩)
  have q1 : (i : Int) + 1 ≤ (M : Int) + 1 := by omega
  have q2 : (0 : Int) ≤ (i : Int) + 1 := by omega
  have q3 : ((i : Int) + 1).toNat = i + 1 := by omega
  have q4 : (M : Int) + 1 ≤ (cap : Int) := by omega
  have q5 : (i : Int) ≤ (cap : Int) := by omega
  have q6 : i ≤ cap := by omega
  have q7 : ((i : Int) == (i : Int) + 1) = false := by simp; omega
  have q8 : ¬ (i : Int) = (i : Int) + 1 := by omega
  have q9 : i + (M - i) = M := by omega
  clear h hd hM cl cs hn
  go_enter Tryz.func95, Tryz.ntmps95
  go_upto_region 5 with fail
  go_region_law (refine step_append_room rfl (.tmp 22) (.tmp 25) 58 rfl 105 i0 4 Tryz.underlying58 hi0 hz1 g 0 i cap (by simp [Act.eval, Act.put]) A (M - i) (cap - (i + 1)) (Mo.mcs (L.drop (i + 1))) (by simp [Act.eval, Act.put]) s1.out hnews.out s2.out (by omega) s3.out ?_)
  generalize hW5 : w.drew.setCells g (i * 4) (Mo.mcs (L.drop (i + 1))) = W5
  have S4 := Hid.intro (s4.out W5 hW5)
  have F5 := Hid.intro (FIN.out W5 hW5)
  have p1 : ¬ cap = M := by omega
  have p2 : (M : Int) ≤ (M : Int) + 1 := by omega
  have hcl := run_clear4 0 g (M * 4) (cap - M) W5 (fun j hj => (S4.out j hj).1) (fun j hj => (S4.out j hj).2)
  obtain ⟨W6, hW6⟩ : ∃ W6, W5.setCells g (M * 4) zero4 = W6 := ⟨_, rfl⟩
  rw [hW6] at hcl F5
  clear hW5 s4 FIN s1 s2 s3 hnews hA hW6
  go_wp2_with fail
  go_ret
  exact ⟨rfl, F5.out⟩
end Go.Proofs.YthdadmbpnoofoaaGreatDoor

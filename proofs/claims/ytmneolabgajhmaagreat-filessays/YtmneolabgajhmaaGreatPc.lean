/- The code's pipes: Write. -/
import Derived.Test.YtmneolabgajhmaaGreatPb
namespace Go.Proofs.YtmneolabgajhmaaGreat
open Go.RowKit
open Pp (Pi)

theorem Pp.byL_ext (t : ByteArray) (a e : Nat) : Pp.byL (t.extract a e) = ((Pp.byL t).drop a).take (e - a) := by
  unfold Pp.byL
  rw [ByteArray.data_extract, Array.toList_extract, List.extract, List.map_take, List.map_drop]
theorem Pp.byL_app (s t : ByteArray) : Pp.byL (s ++ t) = Pp.byL s ++ Pp.byL t := by
  unfold Pp.byL
  rw [ByteArray.data_append, Array.toList_append, List.map_append]
section
variable {P : Program}
theorem Pp.run_copy_part (w : World) (dT sT ty elem : TypeId) (b o dLen dCap : Nat) (t : ByteArray) (hu : P.underlying dT = some (.slice elem)) (hz : ∀ w, (Go.sizeOf elem).run P w = .ok 1 w)
    (hc : ∀ j, j < min t.size dLen → (w.cell? ⟨b, o + j, none⟩).isSome = true) (hf : ∀ j, j < min t.size dLen → w.frozen? ⟨b, o + j, none⟩ = false) :
    (Builtin.copy_ #[dT, sT] ty #[.slice (some ⟨b, o, none⟩) dLen dCap, .string t]).run P w = .ok (goInt ((min t.size dLen : Nat) : Int)) (w.setCells b o (Pp.byL (t.extract 0 (min t.size dLen)))) := by
  have hl : (Pp.byL (t.extract 0 (min t.size dLen))).length = min t.size dLen := by rw [Pp.byL_len, ByteArray.size_extract]; omega
  have hst := run_storeCells_cells (P := P) b o (Pp.byL (t.extract 0 (min t.size dLen))) 0 w (by rw [hl]; simpa using hc) (by rw [hl]; simpa using hf) (by
    intro v hv
    obtain ⟨x, _, rfl⟩ := List.mem_map.1 hv
    rfl)
  have hm : Nat.min t.size dLen = min t.size dLen := rfl
  have ht : List.take (min t.size dLen) (List.map (fun x : UInt8 => Value.int .u8 (x.toNat : Int)) t.data.toList) = Pp.byL (t.extract 0 (min t.size dLen)) := by
    rw [Pp.byL_ext, List.drop_zero, Nat.sub_zero]
    rfl
  simp [Builtin.copy_, run_underlying hu, Builtin.lenOf, Builtin.firstCells, hz, hm]
  rw [ht, hst]
  rfl
set_option maxRecDepth 100000 in
theorem Pp.run_copy_emp (w : World) (ty : TypeId) (d : Option Addr) (dLen dCap : Nat) : (Builtin.copy_ #[147, 9] ty #[.slice d dLen dCap, .string ⟨#[]⟩]).run Tryz.prog w = .ok (goInt 0) w := by
  have hu : Tryz.prog.underlying 147 = some (.slice 5) := by kernel_rfl
  have hz : ∀ w, (Go.sizeOf 5).run Tryz.prog w = .ok 1 w := fun w => by rfl
  have e0 : ByteArray.size ⟨#[]⟩ = 0 := rfl
  cases d <;> simp [Builtin.copy_, run_underlying hu, Builtin.lenOf, Builtin.firstCells, hz, e0, storeCells]
theorem Pp.step_copy {ops : Array Oper} {o : Oper} {a : Act} {w : World} {K : Act → World → Prop} {Q : Exit → Act → World → Prop} {E : Prop}
    (hg : o.guard = none) (d x : Operand) (dT sT : TypeId) (hop : o.op = Op.call { callee := Callee.builtin Builtin.copy, args := #[d, x], argTypes := #[dT, sT] })
    (v1 v2 r : Value) (W : World) (hd : a.eval d = v1) (hx : a.eval x = v2) (hrun : (Builtin.copy_ #[dT, sT] o.type #[v1, v2]).run P w = .ok r W) (hK : K (a.put o.dst r) W) :
    if Region.wanted o (yielded ops a.tmps) = true then Oper.wp P o a w K Q else E := by
  have hw : Region.wanted o (yielded ops a.tmps) = true := by simp [Region.wanted, hg]
  rw [if_pos hw]
  unfold Oper.wp
  simp [execOp, hop, resolve, invoke, builtin, hd, hx, hrun, Result.andThen]
  exact hK
end
section
variable {w : World} {b : Nat} {S : Nat → Pi}
/-- Bytes behind those that are there. -/
theorem PAt.wrote (h : PAt w b S) (n : Nat) (hn : n < 8) (t : ByteArray) (ht : (S n).tx.size + t.size ≤ 12) :
    PAt ((w.setCells b (n * 15 + (S n).tx.size) (Pp.byL t)).setCell ⟨b, n * 15 + 12, none⟩ (.int .i64 (((S n).tx.size + t.size : Nat) : Int))) b (Pp.put S n { S n with tx := (S n).tx ++ t }) := by
  obtain ⟨C, T, h1, h2⟩ := h.blk
  obtain ⟨C', k1, k2⟩ := Pp.blk_setCells b (Pp.byL t) (n * 15 + (S n).tx.size) w C h1
  have hl := Pp.byL_len t
  have ne : ∀ o, o ≠ n * 15 + 12 → ((w.setCells b (n * 15 + (S n).tx.size) (Pp.byL t)).setCell ⟨b, n * 15 + 12, none⟩ (.int .i64 (((S n).tx.size + t.size : Nat) : Int))).cell? ⟨b, o, none⟩ = (w.setCells b (n * 15 + (S n).tx.size) (Pp.byL t)).cell? ⟨b, o, none⟩ := fun o ho => cell_set_ne k1 _ _ _ (Ne.symm ho)
  have out : ∀ o, o < n * 15 + (S n).tx.size ∨ n * 15 + (S n).tx.size + t.size ≤ o → (w.setCells b (n * 15 + (S n).tx.size) (Pp.byL t)).cell? ⟨b, o, none⟩ = w.cell? ⟨b, o, none⟩ := fun o ho => World.cell?_setCells_out b _ _ w ⟨b, o, none⟩ (fun _ _ => by rw [hl]; exact ho)
  have inn : ∀ j (hj : j < (Pp.byL t).length), (w.setCells b (n * 15 + (S n).tx.size) (Pp.byL t)).cell? ⟨b, n * 15 + (S n).tx.size + j, none⟩ = some ((Pp.byL t)[j]) := fun j hj => World.cell?_setCells_in b (Pp.byL t) _ w (fun i hi => h.isS _ (by rw [hl] at hi; omega)) j hj
  refine ⟨⟨_, T, blk_set k1 _ _, by simp; omega⟩, fun m hm j v hv => ?_, fun m hm => ?_, fun m hm => ?_, fun m hm => ?_, fun m hm => ?_⟩
  · by_cases c : m = n
    · subst c
      rw [Pp.put_same] at hv
      have hj := Pp.byt_lt hv
      rw [ByteArray.size_append] at hj
      rw [ne _ (by omega)]
      have hv : (Pp.byL (S m).tx ++ Pp.byL t)[j]? = some v := by rw [← Pp.byL_app]; exact hv
      by_cases d : j < (S m).tx.size
      · rw [List.getElem?_append_left (by rw [Pp.byL_len]; exact d)] at hv
        rw [out _ (by omega)]
        exact h.byt m hm j v hv
      · rw [List.getElem?_append_right (by rw [Pp.byL_len]; omega), Pp.byL_len] at hv
        have := inn (j - (S m).tx.size) (by rw [hl]; omega)
        rw [show m * 15 + (S m).tx.size + (j - (S m).tx.size) = m * 15 + j by omega, ← List.getElem?_eq_getElem, hv] at this
        exact this
    · rw [Pp.put_ne _ _ _ _ c] at hv
      have := Pp.byt_lt hv
      have := h.small m hm
      rw [ne _ (by omega), out _ (by omega)]
      exact h.byt m hm j v hv
  · by_cases c : m = n
    · subst c
      rw [Pp.put_same, cell_set_same k1 _ _ (by omega)]
      show _ = some (Value.int .i64 ((((S m).tx ++ t).size : Nat) : Int))
      rw [ByteArray.size_append]
    · rw [Pp.put_ne _ _ _ _ c, ne _ (by omega), out _ (by omega)]; exact h.many m hm
  · rw [ne _ (by omega), out _ (by omega), h.reads m hm]
    by_cases c : m = n
    · subst c; rw [Pp.put_same]
    · rw [Pp.put_ne _ _ _ _ c]
  · rw [ne _ (by omega), out _ (by omega), h.writes m hm]
    by_cases c : m = n
    · subst c; rw [Pp.put_same]
    · rw [Pp.put_ne _ _ _ _ c]
  · by_cases c : m = n
    · subst c; rw [Pp.put_same]; show ((S m).tx ++ t).size ≤ 12; rw [ByteArray.size_append]; exact ht
    · rw [Pp.put_ne _ _ _ _ c]; exact h.small m hm
end
/-- What a Write answers and leaves. -/
def Pp.wriE (S : Nat → Pi) (z : Int) (s : ByteArray) : Int := if Pp.opE S z true ≠ 0 then Pp.opE S z true else if (S z.toNat).reads = 0 then 12 else if s.size ≠ 0 ∧ (S z.toNat).tx.size = 12 then 13 else 0
def Pp.wriK (S : Nat → Pi) (z : Int) (s : ByteArray) : Nat := if Pp.wriE S z s = 0 then min s.size (12 - (S z.toNat).tx.size) else 0
def Pp.wriF (S : Nat → Pi) (z : Int) (s : ByteArray) : Nat → Pi := if Pp.wriE S z s = 0 then Pp.put S z.toNat { S z.toNat with tx := (S z.toNat).tx ++ s.extract 0 (Pp.wriK S z s) } else S
theorem Pp.put_self (S : Nat → Pi) (n : Nat) : Pp.put S n (S n) = S := by
  funext m
  unfold Pp.put
  split
  · rename_i h; rw [h]
  · rfl
set_option maxRecDepth 100000 in
set_option maxHeartbeats 2000000 in
theorem pwrite_any (b : Nat) (z : Int) (s : ByteArray) (S : Nat → Pi) (w : World) (h : PAt w b S) (hs : s.size < 2 ^ 60) :
    Calls Tryz.prog 74 #[.pointer (some ⟨b, 0, none⟩), .int .i64 z, .string s] w fun e w' => e = .returned (.tuple #[.int .i64 (Pp.wriK S z s : Int), errV (Pp.wriE S z s)]) ∧ PAt w' b (Pp.wriF S z s) ∧ Frm b w w' := by
  have HF := Hid.intro h
  by_cases c : Pp.opE S z true = 0
  · obtain ⟨n, rfl, n8, _, t0⟩ := Pp.opE_ok c
    have EP : Hid (Pp.opE S (n : Int) true = 0 ∧ pptE b (n : Int) 0 = .pointer (some ⟨b, n * 15, none⟩)) := Hid.intro ⟨c, pptE_ok b n⟩
    have EW : Pp.wriE S (n : Int) s = if (S n).reads = 0 then 12 else if s.size ≠ 0 ∧ (S n).tx.size = 12 then 13 else 0 := by unfold Pp.wriE; rw [if_neg (fun d => d c), Int.toNat_natCast]
    have c1 := h.many n n8
    have c2 := h.reads n n8
    have no : ∀ E, E ≠ 0 → Pp.wriE S (n : Int) s = E → Pp.wriK S (n : Int) s = 0 ∧ Pp.wriF S (n : Int) s = S := fun E e0 e => ⟨by unfold Pp.wriK; rw [e, if_neg e0], by unfold Pp.wriF; rw [e, if_neg e0]⟩
    by_cases r0 : (S n).reads = 0
    · have e : Pp.wriE S (n : Int) s = 12 := by rw [EW, if_pos r0]
      have FIN : Hid (Pp.wriE S (n : Int) s = 12 ∧ Pp.wriK S (n : Int) s = 0 ∧ Pp.wriF S (n : Int) s = S) := Hid.intro ⟨e, no 12 (by decide) e⟩
      rw [r0] at c2
      have c2' : w.cell? ⟨b, n * 15 + 13, none⟩ = some (.int .i64 0) := c2
      clear h c EW no e c2 r0 t0 hs
      go_enter Tryz.func74, Tryz.ntmps74
      go_wp2_with fail
      refine (pop_any b n true S _ HF.out).mono ?_
      rintro e w1 ⟨rfl, hw1⟩
      subst w1
      rw [EP.out.1, EP.out.2, errV_zero]
      go_wp2_with fail
      go_ret2
      rw [FIN.out.1, FIN.out.2.1, FIN.out.2.2]
      exact ⟨rfl, HF.out, Frm.refl _ _⟩
    · have r1 : (((S n).reads : Int) == 0) = false := by simp; omega
      by_cases s0 : s.size = 0
      · obtain rfl : s = ⟨#[]⟩ := by
          apply ByteArray.ext
          exact Array.eq_empty_of_size_eq_zero s0
        have e : Pp.wriE S (n : Int) ⟨#[]⟩ = 0 := by rw [EW, if_neg r0, if_neg (fun d => d.1 s0)]
        have FIN : Hid (Pp.wriE S (n : Int) ⟨#[]⟩ = 0 ∧ Pp.wriK S (n : Int) ⟨#[]⟩ = 0) := Hid.intro ⟨e, by unfold Pp.wriK; rw [if_pos e, s0, Nat.zero_min]⟩
        have FI2 : Hid (PAt (w.setCell ⟨b, n * 15 + 12, none⟩ (.int .i64 ((S n).tx.size : Int))) b (Pp.wriF S (n : Int) ⟨#[]⟩)) := Hid.intro (by
          have q := h.wrote n n8 ⟨#[]⟩ (by have := h.small n n8; rw [s0]; omega)
          unfold Pp.wriF
          rw [if_pos e, Int.toNat_natCast, FIN.out.2]
          exact q)
        have sm := h.small n n8
        generalize (S n).reads = rr at *
        generalize (S n).tx.size = mm at *
        have z12 : mm ≤ 12 := sm
        have cf := h.drew.frozen
        have ad0 : IntKind.i64.wrap (mm : Int) = (mm : Int) := IntWalk.i64_in _ ⟨by omega, by omega⟩
        have z12I : (mm : Int) ≤ 12 := by omega
        clear h c EW no e r0 t0 hs s0 sm
        have EMP := Hid.intro Pp.run_copy_emp
        go_enter Tryz.func74, Tryz.ntmps74
        go_wp2_with fail
        refine (pop_any b n true S _ HF.out).mono ?_
        rintro e w1 ⟨rfl, hw1⟩
        subst w1
        rw [EP.out.1, EP.out.2, errV_zero]
        go_upto_region 8 with fail
        go_region_law (refine Pp.step_copy rfl _ _ 147 9 rfl (.slice (some (if 12 = mm then ⟨b, n * 15, none⟩ else ⟨b, n * 15 + mm, none⟩)) (12 - mm) (12 - mm)) (.string ⟨#[]⟩) _ _ (by simp [Act.eval, Act.put]) (by simp [Act.eval, Act.put]) (EMP.out _ _ _ _ _) ?_)
        generalize (if 12 = mm then (⟨b, n * 15, none⟩ : Addr) else ⟨b, n * 15 + mm, none⟩) = ad
        go_wp2_with fail
        go_ret2
        rw [FIN.out.1, FIN.out.2]
        exact ⟨rfl, FI2.out.drew, ((Frm.refl b w).setCell _ _).drew⟩
      · have sl : (s.toList == []) = false := by
          rw [beq_eq_false_iff_ne]
          intro e
          rw [ByteArray.toList_eq] at e
          apply s0
          show s.data.size = 0
          rw [← Array.length_toList, e]
          rfl
        by_cases m12 : (S n).tx.size = 12
        · have e : Pp.wriE S (n : Int) s = 13 := by rw [EW, if_neg r0, if_pos ⟨s0, m12⟩]
          have FIN : Hid (Pp.wriE S (n : Int) s = 13 ∧ Pp.wriK S (n : Int) s = 0 ∧ Pp.wriF S (n : Int) s = S) := Hid.intro ⟨e, no 13 (by decide) e⟩
          rw [m12] at c1
          have c1' : w.cell? ⟨b, n * 15 + 12, none⟩ = some (.int .i64 12) := c1
          generalize (S n).reads = rr at *
          clear h c EW no e c1 r0 t0 hs m12 s0
          go_enter Tryz.func74, Tryz.ntmps74
          go_wp2_with fail
          refine (pop_any b n true S _ HF.out).mono ?_
          rintro e w1 ⟨rfl, hw1⟩
          subst w1
          rw [EP.out.1, EP.out.2, errV_zero]
          go_wp2_with fail
          go_ret2
          rw [FIN.out.1, FIN.out.2.1, FIN.out.2.2]
          exact ⟨rfl, HF.out, Frm.refl _ _⟩
        · have e : Pp.wriE S (n : Int) s = 0 := by rw [EW, if_neg r0, if_neg (fun d => m12 d.2)]
          have sm := h.small n n8
          obtain ⟨k, hk⟩ : ∃ k, min s.size (12 - (S n).tx.size) = k := ⟨_, rfl⟩
          have eK : Pp.wriK S (n : Int) s = k := by unfold Pp.wriK; rw [if_pos e, Int.toNat_natCast, hk]
          have FIN : Hid (Pp.wriE S (n : Int) s = 0 ∧ Pp.wriK S (n : Int) s = k) := Hid.intro ⟨e, eK⟩
          have MID : Hid (∀ V, PAt V b S → Frm b w V → (V.setCells b (n * 15 + (S n).tx.size) (Pp.byL (s.extract 0 k))).cell? ⟨b, n * 15 + 12, none⟩ = some (.int .i64 ((S n).tx.size : Int)) ∧ (∀ o, (V.setCells b (n * 15 + (S n).tx.size) (Pp.byL (s.extract 0 k))).frozen? ⟨b, o, none⟩ = false)
              ∧ PAt ((V.setCells b (n * 15 + (S n).tx.size) (Pp.byL (s.extract 0 k))).setCell ⟨b, n * 15 + 12, none⟩ (.int .i64 (((S n).tx.size + k : Nat) : Int))) b (Pp.wriF S (n : Int) s) ∧ Frm b w (V.setCells b (n * 15 + (S n).tx.size) (Pp.byL (s.extract 0 k)))) := Hid.intro (fun V hV fV => by
            have z : (s.extract 0 k).size = k := by rw [ByteArray.size_extract]; omega
            have q := hV.wrote n n8 (s.extract 0 k) (by rw [z]; omega)
            rw [z] at q
            obtain ⟨C, T, h1, _⟩ := hV.blk
            obtain ⟨C', k1, _⟩ := Pp.blk_setCells b (Pp.byL (s.extract 0 k)) (n * 15 + (S n).tx.size) V C h1
            refine ⟨?_, fun o => frozen_blk k1 o, ?_, Pp.frm_setCells _ _ fV⟩
            · rw [World.cell?_setCells_out b _ _ V ⟨b, n * 15 + 12, none⟩ (fun _ _ => by rw [Pp.byL_len, z]; show n * 15 + 12 < _ ∨ _ ≤ n * 15 + 12; omega)]
              exact hV.many n n8
            · unfold Pp.wriF
              rw [if_pos e, Int.toNat_natCast, eK]
              exact q)
          have CP : Hid (∀ V ty, PAt V b S → (Builtin.copy_ #[147, 9] ty #[.slice (some ⟨b, n * 15 + (S n).tx.size, none⟩) (12 - (S n).tx.size) (12 - (S n).tx.size), .string s]).run Tryz.prog V = .ok (goInt (k : Int)) (V.setCells b (n * 15 + (S n).tx.size) (Pp.byL (s.extract 0 k)))) := Hid.intro (fun V ty hV => by
            have := Pp.run_copy_part (P := Tryz.prog) V 147 9 ty 5 b (n * 15 + (S n).tx.size) (12 - (S n).tx.size) (12 - (S n).tx.size) s (by kernel_rfl) (fun w => by rfl) (fun j hj => hV.isS _ (by omega)) (fun j _ => hV.frozen _)
            rw [hk] at this
            exact this)
          generalize (S n).reads = rr at *
          generalize (S n).tx.size = mm at *
          have mlt : mm < 12 := by omega
          have mltI : (mm : Int) < 12 := by omega
          have mleI : (mm : Int) ≤ 12 := by omega
          have mn0 : ¬ 12 = mm := by omega
          have mn0' : ¬ mm = 12 := by omega
          have mn1 : ¬ 12 - mm = 0 := by omega
          have mn2 : ¬ (mm : Int) = 12 := by omega
          have mn3 : ((mm : Int) == 12) = false := by simp; omega
          have ad : IntKind.i64.wrap ((mm : Int) + (k : Int)) = ((mm + k : Nat) : Int) := (IntWalk.i64_in _ ⟨by omega, by omega⟩).trans (by omega)
          generalize Pp.byL (s.extract 0 k) = L at *
          clear h c EW no e eK r0 t0 hs m12 s0 sm hk
          go_enter Tryz.func74, Tryz.ntmps74
          go_wp2_with fail
          refine (pop_any b n true S _ HF.out).mono ?_
          rintro e w1 ⟨rfl, hw1⟩
          subst w1
          rw [EP.out.1, EP.out.2, errV_zero]
          go_upto_region 8 with fail
          go_region_law (refine Pp.step_copy rfl _ _ 147 9 rfl (.slice (some ⟨b, n * 15 + mm, none⟩) (12 - mm) (12 - mm)) (.string s) _ _ (by simp [Act.eval, Act.put]) (by simp [Act.eval, Act.put]) (CP.out _ _ HF.out.drew) ?_)
          have M := MID.out _ HF.out.drew (Frm.refl b w).drew
          generalize w.drew.setCells b (n * 15 + mm) L = W at M ⊢
          obtain ⟨d1, d2, d3, d4⟩ := M
          have FI3 := Hid.intro d3
          have FI4 := Hid.intro d4
          clear d3 d4 MID CP c1 c2
          go_wp2_with fail
          go_ret2
          rw [FIN.out.1, FIN.out.2]
          exact ⟨rfl, FI3.out, FI4.out.setCell _ _⟩
  · have E2 : Hid (pptE b z (Pp.opE S z true) = .pointer none ∧ errV (Pp.opE S z true) = .iface 90 (.int .i64 (Pp.opE S z true)) ∧ Pp.wriE S z s = Pp.opE S z true ∧ Pp.wriK S z s = 0 ∧ Pp.wriF S z s = S) := Hid.intro (by
      have e : Pp.wriE S z s = Pp.opE S z true := if_pos c
      exact ⟨pptE_no c, errV_ne c, e, by unfold Pp.wriK; rw [e, if_neg c], by unfold Pp.wriF; rw [e, if_neg c]⟩)
    clear h c hs
    go_enter Tryz.func74, Tryz.ntmps74
    go_wp2_with fail
    refine (pop_any b z true S _ HF.out).mono ?_
    rintro e w1 ⟨rfl, hw1⟩
    subst w1
    rw [E2.out.1, E2.out.2.1]
    go_wp2_with fail
    go_ret2
    rw [E2.out.2.2.1, E2.out.2.2.2.1, E2.out.2.2.2.2, E2.out.2.1]
    exact ⟨rfl, HF.out, Frm.refl _ _⟩
end Go.Proofs.YtmneolabgajhmaaGreat

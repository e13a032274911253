/- The code's pipes: Read. -/
import Derived.Test.YtmneolabgajhmaaGreatPc
namespace Go.Proofs.YtmneolabgajhmaaGreat
open Go.RowKit
open Pp (Pi)

section
variable {w : World} {b : Nat} {S : Nat → Pi}
/-- The first k bytes are there no more. -/
theorem PAt.took (h : PAt w b S) (n : Nat) (hn : n < 8) (k : Nat) (hk : k ≤ (S n).tx.size) :
    PAt ((w.setCells b (n * 15) (Pp.byL ((S n).tx.extract k (S n).tx.size))).setCell ⟨b, n * 15 + 12, none⟩ (.int .i64 (((S n).tx.size - k : Nat) : Int))) b (Pp.put S n { S n with tx := (S n).tx.extract k (S n).tx.size }) := by
  obtain ⟨t, ht⟩ : ∃ t, (S n).tx.extract k (S n).tx.size = t := ⟨_, rfl⟩
  have hz : t.size = (S n).tx.size - k := by rw [← ht, ByteArray.size_extract, Nat.min_self]
  have h12 := h.small n hn
  rw [ht, ← hz]
  obtain ⟨C, T, h1, h2⟩ := h.blk
  obtain ⟨C', k1, k2⟩ := Pp.blk_setCells b (Pp.byL t) (n * 15) w C h1
  have hl := Pp.byL_len t
  have ne : ∀ o, o ≠ n * 15 + 12 → ((w.setCells b (n * 15) (Pp.byL t)).setCell ⟨b, n * 15 + 12, none⟩ (.int .i64 (t.size : Int))).cell? ⟨b, o, none⟩ = (w.setCells b (n * 15) (Pp.byL t)).cell? ⟨b, o, none⟩ := fun o ho => cell_set_ne k1 _ _ _ (Ne.symm ho)
  have out : ∀ o, o < n * 15 ∨ n * 15 + t.size ≤ o → (w.setCells b (n * 15) (Pp.byL t)).cell? ⟨b, o, none⟩ = w.cell? ⟨b, o, none⟩ := fun o ho => World.cell?_setCells_out b _ _ w ⟨b, o, none⟩ (fun _ _ => by rw [hl]; exact ho)
  have inn : ∀ j (hj : j < (Pp.byL t).length), (w.setCells b (n * 15) (Pp.byL t)).cell? ⟨b, n * 15 + j, none⟩ = some ((Pp.byL t)[j]) := fun j hj => World.cell?_setCells_in b (Pp.byL t) _ w (fun i hi => h.isS _ (by rw [hl] at hi; omega)) j hj
  refine ⟨⟨_, T, blk_set k1 _ _, by simp; omega⟩, fun m hm j v hv => ?_, fun m hm => ?_, fun m hm => ?_, fun m hm => ?_, fun m hm => ?_⟩
  · by_cases c : m = n
    · subst c
      rw [Pp.put_same] at hv
      have hv : (Pp.byL t)[j]? = some v := hv
      have hj := Pp.byt_lt hv
      rw [ne _ (by omega)]
      have := inn j (by rw [hl]; omega)
      rw [← List.getElem?_eq_getElem, hv] at this
      exact this
    · rw [Pp.put_ne _ _ _ _ c] at hv
      have := Pp.byt_lt hv
      have := h.small m hm
      rw [ne _ (by omega), out _ (by omega)]
      exact h.byt m hm j v hv
  · by_cases c : m = n
    · subst c
      rw [Pp.put_same, cell_set_same k1 _ _ (by omega)]
    · rw [Pp.put_ne _ _ _ _ c, ne _ (by omega), out _ (by omega)]; exact h.many m hm
  · rw [ne _ (by omega), out _ (by omega), h.reads m hm]
    by_cases c : m = n
    · subst c; rw [Pp.put_same]
    · rw [Pp.put_ne _ _ _ _ c]
  · rw [ne _ (by omega), out _ (by omega), h.writes m hm]
    by_cases c : m = n
    · subst c; rw [Pp.put_same]
    · rw [Pp.put_ne _ _ _ _ c]
  · by_cases c : m = n
    · subst c; rw [Pp.put_same]; show t.size ≤ 12; omega
    · rw [Pp.put_ne _ _ _ _ c]; exact h.small m hm
theorem Pp.push_by : ∀ (L : List UInt8) (r : ByteArray), (L.map fun x => (x.toNat : Int)).foldl (fun r n => r.push (UInt8.ofNat n.toNat)) r = ⟨r.data ++ L.toArray⟩
  | [], r => by simp
  | x :: L, r => by
    rw [List.map_cons, List.foldl_cons, Pp.push_by L]
    simp [ByteArray.push]
def Pp.byN (t : ByteArray) : List Int := t.data.toList.map fun x => (x.toNat : Int)
theorem Pp.byN_str (t : ByteArray) : (Pp.byN t).foldl (fun r n => r.push (UInt8.ofNat n.toNat)) ByteArray.empty = t := by
  unfold Pp.byN
  rw [Pp.push_by]
  cases t
  simp [ByteArray.empty, ByteArray.emptyWithCapacity]
  rfl
theorem Pp.byN_byL (t : ByteArray) : (Pp.byN t).map (Value.int .u8) = Pp.byL t := by simp [Pp.byN, Pp.byL, Function.comp_def]
/-- Bytes are read. -/
theorem PAt.loads (h : PAt w b S) (n k e : Nat) (hn : n < 8) (hk : k ≤ e) (he : e ≤ (S n).tx.size) (ad : Addr) (had : k < e → ad = ⟨b, n * 15 + k, none⟩) : (loadCells ad (e - k)).run Tryz.prog w = .ok ((Pp.byN ((S n).tx.extract k e)).map (Value.int .u8)).toArray w := by
  rw [Pp.byN_byL]
  have hl : (Pp.byL ((S n).tx.extract k e)).length = e - k := by rw [Pp.byL_len, ByteArray.size_extract]; omega
  have := run_loadCells_list (P := Tryz.prog) w ad (Pp.byL ((S n).tx.extract k e)) (fun j v hv => by
    have hj : j < e - k := by have := (List.getElem?_eq_some_iff.1 hv).1; omega
    rw [had (by omega)]
    have ea : (⟨b, n * 15 + k, none⟩ : Addr).add j = ⟨b, n * 15 + (k + j), none⟩ := by rw [addNoneO, Nat.add_assoc]
    rw [ea]
    refine h.byt n hn (k + j) v ?_
    rw [Pp.byL_ext, List.getElem?_take_of_lt hj, List.getElem?_drop] at hv
    exact hv)
  rw [hl] at this
  exact this
set_option maxRecDepth 100000 in
theorem PAt.copies (h : PAt w b S) (n k : Nat) (hn : n < 8) (hk : k ≤ (S n).tx.size) (ad : Addr) (had : k < (S n).tx.size → ad = ⟨b, n * 15 + k, none⟩) (c : Nat) (ty : TypeId) :
    (Builtin.copy_ #[147, 147] ty #[.slice (some ⟨b, n * 15, none⟩) 12 12, .slice (some ad) ((S n).tx.size - k) c]).run Tryz.prog w = .ok (goInt (((S n).tx.size - k : Nat) : Int)) (w.setCells b (n * 15) (Pp.byL ((S n).tx.extract k (S n).tx.size))) := by
  have h12 := h.small n hn
  have hl : (Pp.byL ((S n).tx.extract k (S n).tx.size)).length = (S n).tx.size - k := by rw [Pp.byL_len, ByteArray.size_extract, Nat.min_self]
  have := run_copy_cells (P := Tryz.prog) w 147 147 ty 5 b (n * 15) 12 12 ad ((S n).tx.size - k) c (Pp.byL ((S n).tx.extract k (S n).tx.size)) (by kernel_rfl) (by kernel_rfl) (by rw [hl]; exact (Nat.min_eq_left (by omega)).symm)
    (fun j v hv => by
      have hj : j < (S n).tx.size - k := by have := (List.getElem?_eq_some_iff.1 hv).1; omega
      rw [had (by omega), addNoneO, Nat.add_assoc]
      refine h.byt n hn (k + j) v ?_
      rw [Pp.byL_ext, List.getElem?_take_of_lt hj, List.getElem?_drop] at hv
      exact hv)
    (fun j hj => h.isS _ (by omega)) (fun j _ => h.frozen _) (fun v hv => by
      obtain ⟨x, _, rfl⟩ := List.mem_map.1 hv
      rfl)
  rw [hl] at this
  exact this
end
section
variable {ops : Array Oper} {rest : List Oper} {x : Oper} {a : Act} {C : World → Prop} {Q : Act → Prop}
set_option maxRecDepth 100000 in
theorem Pp.quiet_conv (hgd : x.guard = none) (y : Operand) (hop : x.op = Op.convert 147 9 y)
    (ad : Addr) (k c : Nat) (hd : a.eval y = .slice (some ad) k c) (ns : List Int) (t : ByteArray) (ht : ns.foldl (fun r n => r.push (UInt8.ofNat n.toNat)) ByteArray.empty = t) (hl : ∀ w, C w → (loadCells ad k).run Tryz.prog w = .ok (ns.map (Value.int .u8)).toArray w)
    (h : wpQuiet Tryz.prog ops C Q rest (a.put x.dst (.string t))) : wpQuiet Tryz.prog ops C Q (x :: rest) a := by
  have hw : Region.wanted x (yielded ops a.tmps) = true := by simp [Region.wanted, hgd]
  unfold wpQuiet
  rw [if_pos hw]
  refine ⟨.string t, fun w hC => ?_, h⟩
  have hrun := (run_convert_bytes_string (P := Tryz.prog) w 147 9 5 (some ad) k c (by kernel_rfl) (by kernel_rfl) (by kernel_rfl)).trans (run_bytesToString w ad k c ns (hl w hC))
  rw [ht] at hrun
  unfold Oper.quietAt
  simp [execOp, hop, hd, hrun, Oper.quietUpon]
end
/-- What a Read answers and leaves. -/
def Pp.reaE (S : Nat → Pi) (z m : Int) : Int := if Pp.opE S z false ≠ 0 then Pp.opE S z false else if m < 0 then 1 else if 0 < m ∧ (S z.toNat).tx.size = 0 ∧ 0 < (S z.toNat).writes then 13 else 0
def Pp.reaT (S : Nat → Pi) (z m : Int) : ByteArray := if Pp.reaE S z m = 0 then (S z.toNat).tx.extract 0 (min m.toNat (S z.toNat).tx.size) else ⟨#[]⟩
def Pp.reaF (S : Nat → Pi) (z m : Int) : Nat → Pi := if Pp.reaE S z m = 0 then Pp.put S z.toNat { S z.toNat with tx := (S z.toNat).tx.extract (min m.toNat (S z.toNat).tx.size) (S z.toNat).tx.size } else S
set_option maxRecDepth 100000 in
set_option maxHeartbeats 2000000 in
theorem pread_any (b : Nat) (z m : Int) (S : Nat → Pi) (w : World) (h : PAt w b S) :
    Calls Tryz.prog 93 #[.pointer (some ⟨b, 0, none⟩), .int .i64 z, .int .i64 m] w fun e w' => e = .returned (.tuple #[.string (Pp.reaT S z m), errV (Pp.reaE S z m)]) ∧ PAt w' b (Pp.reaF S z m) ∧ Frm b w w' := by
  have HF := Hid.intro h
  by_cases c : Pp.opE S z false = 0
  · obtain ⟨n, rfl, n8, _, t0⟩ := Pp.opE_ok c
    have EP : Hid (Pp.opE S (n : Int) false = 0 ∧ pptE b (n : Int) 0 = .pointer (some ⟨b, n * 15, none⟩)) := Hid.intro ⟨c, pptE_ok b n⟩
    have EW : Pp.reaE S (n : Int) m = if m < 0 then 1 else if 0 < m ∧ (S n).tx.size = 0 ∧ 0 < (S n).writes then 13 else 0 := by unfold Pp.reaE; rw [if_neg (fun d => d c), Int.toNat_natCast]
    have c1 := h.many n n8
    have c2 := h.writes n n8
    have no : ∀ E, E ≠ 0 → Pp.reaE S (n : Int) m = E → Pp.reaT S (n : Int) m = ⟨#[]⟩ ∧ Pp.reaF S (n : Int) m = S := fun E e0 e => ⟨by unfold Pp.reaT; rw [e, if_neg e0], by unfold Pp.reaF; rw [e, if_neg e0]⟩
    by_cases m0 : m < 0
    · have e : Pp.reaE S (n : Int) m = 1 := by rw [EW, if_pos m0]
      have FIN : Hid (Pp.reaE S (n : Int) m = 1 ∧ Pp.reaT S (n : Int) m = ⟨#[]⟩ ∧ Pp.reaF S (n : Int) m = S) := Hid.intro ⟨e, no 1 (by decide) e⟩
      clear h c EW no e t0 c1 c2
      go_enter Tryz.func93, Tryz.ntmps93
      go_wp2_with fail
      refine (pop_any b n false S _ HF.out).mono ?_
      rintro e w1 ⟨rfl, hw1⟩
      subst w1
      rw [EP.out.1, EP.out.2, errV_zero]
      go_wp2_with fail
      go_ret2
      rw [FIN.out.1, FIN.out.2.1, FIN.out.2.2]
      exact ⟨rfl, HF.out, Frm.refl _ _⟩
    · by_cases ag : 0 < m ∧ (S n).tx.size = 0 ∧ 0 < (S n).writes
      · have e : Pp.reaE S (n : Int) m = 13 := by rw [EW, if_neg m0, if_pos ag]
        have FIN : Hid (Pp.reaE S (n : Int) m = 13 ∧ Pp.reaT S (n : Int) m = ⟨#[]⟩ ∧ Pp.reaF S (n : Int) m = S) := Hid.intro ⟨e, no 13 (by decide) e⟩
        obtain ⟨a1, a2, a3⟩ := ag
        rw [a2] at c1
        have c1' : w.cell? ⟨b, n * 15 + 12, none⟩ = some (.int .i64 0) := c1
        generalize (S n).writes = uu at *
        have a3' : (0 : Int) < (uu : Int) := by omega
        clear h c EW no e t0 c1 a2
        go_enter Tryz.func93, Tryz.ntmps93
        go_wp2_with fail
        refine (pop_any b n false S _ HF.out).mono ?_
        rintro e w1 ⟨rfl, hw1⟩
        subst w1
        rw [EP.out.1, EP.out.2, errV_zero]
        go_wp2_with fail
        go_ret2
        rw [FIN.out.1, FIN.out.2.1, FIN.out.2.2]
        exact ⟨rfl, HF.out, Frm.refl _ _⟩
      · have e : Pp.reaE S (n : Int) m = 0 := by rw [EW, if_neg m0, if_neg ag]
        have h12 := h.small n n8
        obtain ⟨k, hk⟩ : ∃ k, min m.toNat (S n).tx.size = k := ⟨_, rfl⟩
        have kle : k ≤ (S n).tx.size := by omega
        have FIN : Hid (Pp.reaE S (n : Int) m = 0 ∧ Pp.reaT S (n : Int) m = (S n).tx.extract 0 k) := Hid.intro ⟨e, by unfold Pp.reaT; rw [if_pos e, Int.toNat_natCast, hk]⟩
        have LD : Hid (∀ W, PAt W b S → (loadCells ⟨b, n * 15, none⟩ k).run Tryz.prog W = .ok ((Pp.byN ((S n).tx.extract 0 k)).map (Value.int .u8)).toArray W) := Hid.intro (fun W hW => hW.loads n 0 k n8 (Nat.zero_le k) kle ⟨b, n * 15, none⟩ (fun _ => rfl))
        have CP : Hid (∀ W ty, PAt W b S → (Builtin.copy_ #[147, 147] ty #[.slice (some ⟨b, n * 15, none⟩) 12 12, .slice (some (if 12 = k then ⟨b, n * 15, none⟩ else ⟨b, n * 15 + k, none⟩)) ((S n).tx.size - k) (12 - k)]).run Tryz.prog W = .ok (goInt (((S n).tx.size - k : Nat) : Int)) (W.setCells b (n * 15) (Pp.byL ((S n).tx.extract k (S n).tx.size)))) := Hid.intro (fun W ty hW => hW.copies n k n8 kle _ (fun hlt => if_neg (by omega)) _ _)
        have MID : Hid (∀ V, PAt V b S → PAt ((V.setCells b (n * 15) (Pp.byL ((S n).tx.extract k (S n).tx.size))).setCell ⟨b, n * 15 + 12, none⟩ (.int .i64 (((S n).tx.size - k : Nat) : Int))) b (Pp.reaF S (n : Int) m) ∧ (∀ o, (V.setCells b (n * 15) (Pp.byL ((S n).tx.extract k (S n).tx.size))).frozen? ⟨b, o, none⟩ = false) ∧ (V.setCells b (n * 15) (Pp.byL ((S n).tx.extract k (S n).tx.size))).cell? ⟨b, n * 15 + 12, none⟩ = some (.int .i64 ((S n).tx.size : Int))) := Hid.intro (fun V hV => by
          unfold Pp.reaF
          rw [if_pos e, Int.toNat_natCast, hk]
          obtain ⟨C, T, h1, _⟩ := hV.blk
          obtain ⟨C', k1, _⟩ := Pp.blk_setCells b (Pp.byL ((S n).tx.extract k (S n).tx.size)) (n * 15) V C h1
          exact ⟨hV.took n n8 k kle, fun o => frozen_blk k1 o, by rw [World.cell?_setCells_out b _ _ V ⟨b, n * 15 + 12, none⟩ (fun _ _ => by rw [Pp.byL_len, ByteArray.size_extract]; show n * 15 + 12 < _ ∨ _ ≤ n * 15 + 12; omega)]; exact hV.many n n8⟩)
        have FR : Hid (∀ V, Frm b w V → Frm b w (V.setCells b (n * 15) (Pp.byL ((S n).tx.extract k (S n).tx.size)))) := Hid.intro (fun V hV => Pp.frm_setCells _ _ hV)
        have SZ : Hid (((S n).tx.extract 0 k).size = k) := Hid.intro (by rw [ByteArray.size_extract]; omega)
        have ST : Hid ((Pp.byN ((S n).tx.extract 0 k)).foldl (fun r n => r.push (UInt8.ofNat n.toNat)) ByteArray.empty = (S n).tx.extract 0 k) := Hid.intro (Pp.byN_str _)
        generalize Pp.byL ((S n).tx.extract k (S n).tx.size) = L at *
        generalize (S n).tx.extract 0 k = g at *
        generalize (S n).writes = uu at *
        generalize (S n).tx.size = mm at *
        have mk : min m (mm : Int) = (k : Int) := by omega
        have mk2 : (if (mm : Int) < m then (mm : Int) else m) = (k : Int) := by split <;> omega
        have kI : (k : Int) ≤ 12 := by omega
        have kmI : (k : Int) ≤ (mm : Int) := by omega
        have mI : (mm : Int) ≤ 12 := by omega
        clear h c EW no e t0 hk
        by_cases m1 : 0 < m
        · by_cases s0 : mm = 0
          · have u1 : ¬ (0 : Int) < (uu : Int) := by omega
            have s1 : ((mm : Int) == 0) = true := by simp; omega
            have cf := HF.out.frozen
            clear ag s0
            go_enter Tryz.func93, Tryz.ntmps93
            go_wp2_with fail
            refine (pop_any b n false S _ HF.out).mono ?_
            rintro e w1 ⟨rfl, hw1⟩
            subst w1
            rw [EP.out.1, EP.out.2, errV_zero]
            go_upto_region 8 with fail
            refine wp_region_quiet_lit (by kernel_rfl) (by kernel_rfl) ?_
            repeat (quiet_step (fail))
            refine Pp.quiet_conv rfl _ rfl ⟨b, n * 15, none⟩ k 12 rfl _ g ST.out (fun w' hC => by obtain ⟨q, rfl⟩ := hC; exact LD.out _ (HF.out.drewN q)) ?_
            repeat (quiet_step (fail))
            refine wpQuiet_nil ?_
            intro _ hw'
            obtain ⟨nq, hw''⟩ := hw'
            subst hw''
            have HD := Hid.intro (HF.out.drewN nq)
            have FD := Hid.intro ((Frm.refl b w).drewN nq)
            have c1d : (w.drewN nq).cell? ⟨b, n * 15 + 12, none⟩ = some (.int .i64 (mm : Int)) := c1
            generalize w.drewN nq = W1 at HD FD c1d ⊢
            clear c1 c2 cf
            have sz := SZ.out
            have M := MID.out _ HD.out.drew
            have F2 := Hid.intro (FR.out _ FD.out.drew)
            have CP2 := Hid.intro (fun ty => CP.out _ ty HD.out.drew)
            generalize W1.drew.setCells b (n * 15) L = W at M F2 CP2
            obtain ⟨M0, cf2, d2⟩ := M
            have M1 := Hid.intro M0
            clear M0 CP MID FR LD
            go_upto_region 9 with fail
            go_region_law (refine Pp.step_copy rfl _ _ 147 147 rfl (.slice (some ⟨b, n * 15, none⟩) 12 12) (.slice (some (if 12 = k then ⟨b, n * 15, none⟩ else ⟨b, n * 15 + k, none⟩)) (mm - k) (12 - k)) _ _ (by simp [Act.eval, Act.put]) (by simp [Act.eval, Act.put]) (CP2.out _) ?_)
            generalize (if 12 = k then (⟨b, n * 15, none⟩ : Addr) else ⟨b, n * 15 + k, none⟩) = ad
            go_wp2_with fail
            go_ret2
            rw [FIN.out.1, FIN.out.2]
            exact ⟨rfl, M1.out, F2.out.setCell _ _⟩
          · have s1 : ((mm : Int) == 0) = false := by simp; omega
            have cf := HF.out.frozen
            clear ag s0
            go_enter Tryz.func93, Tryz.ntmps93
            go_wp2_with fail
            refine (pop_any b n false S _ HF.out).mono ?_
            rintro e w1 ⟨rfl, hw1⟩
            subst w1
            rw [EP.out.1, EP.out.2, errV_zero]
            go_upto_region 8 with fail
            refine wp_region_quiet_lit (by kernel_rfl) (by kernel_rfl) ?_
            repeat (quiet_step (fail))
            refine Pp.quiet_conv rfl _ rfl ⟨b, n * 15, none⟩ k 12 rfl _ g ST.out (fun w' hC => by obtain ⟨q, rfl⟩ := hC; exact LD.out _ (HF.out.drewN q)) ?_
            repeat (quiet_step (fail))
            refine wpQuiet_nil ?_
            intro _ hw'
            obtain ⟨nq, hw''⟩ := hw'
            subst hw''
            have HD := Hid.intro (HF.out.drewN nq)
            have FD := Hid.intro ((Frm.refl b w).drewN nq)
            have c1d : (w.drewN nq).cell? ⟨b, n * 15 + 12, none⟩ = some (.int .i64 (mm : Int)) := c1
            generalize w.drewN nq = W1 at HD FD c1d ⊢
            clear c1 c2 cf
            have sz := SZ.out
            have M := MID.out _ HD.out.drew
            have F2 := Hid.intro (FR.out _ FD.out.drew)
            have CP2 := Hid.intro (fun ty => CP.out _ ty HD.out.drew)
            generalize W1.drew.setCells b (n * 15) L = W at M F2 CP2
            obtain ⟨M0, cf2, d2⟩ := M
            have M1 := Hid.intro M0
            clear M0 CP MID FR LD
            go_upto_region 9 with fail
            go_region_law (refine Pp.step_copy rfl _ _ 147 147 rfl (.slice (some ⟨b, n * 15, none⟩) 12 12) (.slice (some (if 12 = k then ⟨b, n * 15, none⟩ else ⟨b, n * 15 + k, none⟩)) (mm - k) (12 - k)) _ _ (by simp [Act.eval, Act.put]) (by simp [Act.eval, Act.put]) (CP2.out _) ?_)
            generalize (if 12 = k then (⟨b, n * 15, none⟩ : Addr) else ⟨b, n * 15 + k, none⟩) = ad
            go_wp2_with fail
            go_ret2
            rw [FIN.out.1, FIN.out.2]
            exact ⟨rfl, M1.out, F2.out.setCell _ _⟩
        · have cf := HF.out.frozen
          go_enter Tryz.func93, Tryz.ntmps93
          go_wp2_with fail
          refine (pop_any b n false S _ HF.out).mono ?_
          rintro e w1 ⟨rfl, hw1⟩
          subst w1
          rw [EP.out.1, EP.out.2, errV_zero]
          go_upto_region 8 with fail
          refine wp_region_quiet_lit (by kernel_rfl) (by kernel_rfl) ?_
          repeat (quiet_step (fail))
          refine Pp.quiet_conv rfl _ rfl ⟨b, n * 15, none⟩ k 12 rfl _ g ST.out (fun w' hC => by obtain ⟨q, rfl⟩ := hC; exact LD.out _ (HF.out.drewN q)) ?_
          repeat (quiet_step (fail))
          refine wpQuiet_nil ?_
          intro _ hw'
          obtain ⟨nq, hw''⟩ := hw'
          subst hw''
          have HD := Hid.intro (HF.out.drewN nq)
          have FD := Hid.intro ((Frm.refl b w).drewN nq)
          have c1d : (w.drewN nq).cell? ⟨b, n * 15 + 12, none⟩ = some (.int .i64 (mm : Int)) := c1
          generalize w.drewN nq = W1 at HD FD c1d ⊢
          clear c1 c2 cf
          have sz := SZ.out
          have M := MID.out _ HD.out.drew
          have F2 := Hid.intro (FR.out _ FD.out.drew)
          have CP2 := Hid.intro (fun ty => CP.out _ ty HD.out.drew)
          generalize W1.drew.setCells b (n * 15) L = W at M F2 CP2
          obtain ⟨M0, cf2, d2⟩ := M
          have M1 := Hid.intro M0
          clear M0 CP MID FR LD
          go_upto_region 9 with fail
          go_region_law (refine Pp.step_copy rfl _ _ 147 147 rfl (.slice (some ⟨b, n * 15, none⟩) 12 12) (.slice (some (if 12 = k then ⟨b, n * 15, none⟩ else ⟨b, n * 15 + k, none⟩)) (mm - k) (12 - k)) _ _ (by simp [Act.eval, Act.put]) (by simp [Act.eval, Act.put]) (CP2.out _) ?_)
          generalize (if 12 = k then (⟨b, n * 15, none⟩ : Addr) else ⟨b, n * 15 + k, none⟩) = ad
          go_wp2_with fail
          go_ret2
          rw [FIN.out.1, FIN.out.2]
          exact ⟨rfl, M1.out, F2.out.setCell _ _⟩
  · have E2 : Hid (pptE b z (Pp.opE S z false) = .pointer none ∧ errV (Pp.opE S z false) = .iface 90 (.int .i64 (Pp.opE S z false)) ∧ Pp.reaE S z m = Pp.opE S z false ∧ Pp.reaT S z m = ⟨#[]⟩ ∧ Pp.reaF S z m = S) := Hid.intro (by
      have e : Pp.reaE S z m = Pp.opE S z false := if_pos c
      exact ⟨pptE_no c, errV_ne c, e, by unfold Pp.reaT; rw [e, if_neg c], by unfold Pp.reaF; rw [e, if_neg c]⟩)
    clear h c
    go_enter Tryz.func93, Tryz.ntmps93
    go_wp2_with fail
    refine (pop_any b z false S _ HF.out).mono ?_
    rintro e w1 ⟨rfl, hw1⟩
    subst w1
    rw [E2.out.1, E2.out.2.1]
    go_wp2_with fail
    go_ret2
    rw [E2.out.2.2.1, E2.out.2.2.2.1, E2.out.2.2.2.2, E2.out.2.1]
    exact ⟨rfl, HF.out, Frm.refl _ _⟩
end Go.Proofs.YtmneolabgajhmaaGreat

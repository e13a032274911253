import Derived.Deep.RegionHeld3
import Derived.Test.YtghogbngmcolmaaGreatRan
import Derived.Test.YtghogbngmcolmaaGreatRam
namespace Go.Proofs.YtghogbngmcolmaaGreat
open Go.RowKit
open Pp (Pi)
section
variable {w : World} {b : Nat} {S : Nat → Pi}
theorem PAt.took (h : PAt w b S) (n : Nat) (hn : n < 8) (k : Nat) (hk : k ≤ (S n).tx.size) :
    PAt ((w.setCells b (n * 15) (Pp.byL ((S n).tx.extract k (S n).tx.size))).setCell ⟨b, n * 15 + 12, none⟩ (.int .i64 (((S n).tx.size - k : Nat) : Int))) b (Pp.put S n { S n with tx := (S n).tx.extract k (S n).tx.size }) := by
  obtain ⟨t, ht⟩ : ∃ t, (S n).tx.extract k (S n).tx.size = t := ⟨_, rfl⟩
  have hz : t.size = (S n).tx.size - k := by rw [← ht, ByteArray.size_extract, Nat.min_self]
  have h12 := h.small n hn
  rw [ht, ← hz]
  obtain ⟨C, T, h1, h2⟩ := h.blk
  obtain ⟨C', k1, k2⟩ := Pp.blk_setCells b (Pp.byL t) (n * 15) w C h1
  have hl := Pp.byL_len t
  have ne : ∀ o, o ≠ n * 15 + 12 → ((w.setCells b (n * 15) (Pp.byL t)).setCell ⟨b, n * 15 + 12, none⟩ (.int .i64 (t.size : Int))).cell? ⟨b, o, none⟩ = (w.setCells b (n * 15) (Pp.byL t)).cell? ⟨b, o, none⟩ := fun o ho => cell_set_ne k1 _ _ _ (Ne.symm ho)
  have out : ∀ o, o < n * 15 ∨ n * 15 + t.size ≤ o → (w.setCells b (n * 15) (Pp.byL t)).cell? ⟨b, o, none⟩ = w.cell? ⟨b, o, none⟩ := fun o ho => World.cell?_setCells_out b _ _ w ⟨b, o, none⟩ (fun _ _ => by rw [hl]; exact ho)
  have inn : ∀ j (hj : j < (Pp.byL t).length), (w.setCells b (n * 15) (Pp.byL t)).cell? ⟨b, n * 15 + j, none⟩ = some ((Pp.byL t)[j]) := fun j hj => World.cell?_setCells_in b (Pp.byL t) _ w (fun i hi => h.isS _ (by rw [hl] at hi; omega)) j hj
  refine ⟨⟨_, T, blk_set k1 _ _, by simp; omega⟩, fun m hm j v hv => ?_, fun m hm => ?_, fun m hm => ?_, fun m hm => ?_, fun m hm => ?_⟩
  · by_cases c : m = n
    · subst c
      rw [Pp.put_same] at hv
      have hv : (Pp.byL t)[j]? = some v := hv
      have hj := Pp.byt_lt hv
      rw [ne _ (by omega)]
      have := inn j (by rw [hl]; omega)
      rw [← List.getElem?_eq_getElem, hv] at this
      exact this
    · rw [Pp.put_ne _ _ _ _ c] at hv
      have := Pp.byt_lt hv
      have := h.small m hm
      rw [ne _ (by omega), out _ (by omega)]
      exact h.byt m hm j v hv
  · by_cases c : m = n
    · subst c
      rw [Pp.put_same, cell_set_same k1 _ _ (by omega)]
    · rw [Pp.put_ne _ _ _ _ c, ne _ (by omega), out _ (by omega)]; exact h.many m hm
  · rw [ne _ (by omega), out _ (by omega), h.reads m hm]
    by_cases c : m = n
    · subst c; rw [Pp.put_same]
    · rw [Pp.put_ne _ _ _ _ c]
  · rw [ne _ (by omega), out _ (by omega), h.writes m hm]
    by_cases c : m = n
    · subst c; rw [Pp.put_same]
    · rw [Pp.put_ne _ _ _ _ c]
  · by_cases c : m = n
    · subst c; rw [Pp.put_same]; show t.size ≤ 12; omega
    · rw [Pp.put_ne _ _ _ _ c]; exact h.small m hm
theorem Pp.push_by : ∀ (L : List UInt8) (r : ByteArray), (L.map fun x => (x.toNat : Int)).foldl (fun r n => r.push (UInt8.ofNat n.toNat)) r = ⟨r.data ++ L.toArray⟩
  | [], r => by simp
  | x :: L, r => by
    rw [List.map_cons, List.foldl_cons, Pp.push_by L]
    simp [ByteArray.push]
def Pp.byN (t : ByteArray) : List Int := t.data.toList.map fun x => (x.toNat : Int)
theorem Pp.byN_str (t : ByteArray) : (Pp.byN t).foldl (fun r n => r.push (UInt8.ofNat n.toNat)) ByteArray.empty = t := by
  unfold Pp.byN
  rw [Pp.push_by]
  cases t
  simp [ByteArray.empty, ByteArray.emptyWithCapacity]
  rfl
theorem Pp.byN_byL (t : ByteArray) : (Pp.byN t).map (Value.int .u8) = Pp.byL t := by simp [Pp.byN, Pp.byL, Function.comp_def]
theorem PAt.loads (h : PAt w b S) (n k e : Nat) (hn : n < 8) (hk : k ≤ e) (he : e ≤ (S n).tx.size) (ad : Addr) (had : k < e → ad = ⟨b, n * 15 + k, none⟩) : (loadCells ad (e - k)).run Tryz.prog w = .ok ((Pp.byN ((S n).tx.extract k e)).map (Value.int .u8)).toArray w := by
  rw [Pp.byN_byL]
  have hl : (Pp.byL ((S n).tx.extract k e)).length = e - k := by rw [Pp.byL_len, ByteArray.size_extract]; omega
  have := run_loadCells_list (P := Tryz.prog) w ad (Pp.byL ((S n).tx.extract k e)) (fun j v hv => by
    have hj : j < e - k := by have := (List.getElem?_eq_some_iff.1 hv).1; omega
    rw [had (by omega)]
    have ea : (⟨b, n * 15 + k, none⟩ : Addr).add j = ⟨b, n * 15 + (k + j), none⟩ := by rw [addNoneO, Nat.add_assoc]
    rw [ea]
    refine h.byt n hn (k + j) v ?_
    rw [Pp.byL_ext, List.getElem?_take_of_lt hj, List.getElem?_drop] at hv
    exact hv)
  rw [hl] at this
  exact this
set_option maxRecDepth 100000 in
theorem PAt.copies (h : PAt w b S) (n k : Nat) (hn : n < 8) (hk : k ≤ (S n).tx.size) (ad : Addr) (had : k < (S n).tx.size → ad = ⟨b, n * 15 + k, none⟩) (c : Nat) (ty : TypeId) :
    (Builtin.copy_ #[220, 220] ty #[.slice (some ⟨b, n * 15, none⟩) 12 12, .slice (some ad) ((S n).tx.size - k) c]).run Tryz.prog w = .ok (goInt (((S n).tx.size - k : Nat) : Int)) (w.setCells b (n * 15) (Pp.byL ((S n).tx.extract k (S n).tx.size))) := by
  have h12 := h.small n hn
  have hl : (Pp.byL ((S n).tx.extract k (S n).tx.size)).length = (S n).tx.size - k := by rw [Pp.byL_len, ByteArray.size_extract, Nat.min_self]
  have := run_copy_cells (P := Tryz.prog) w 220 220 ty 5 b (n * 15) 12 12 ad ((S n).tx.size - k) c (Pp.byL ((S n).tx.extract k (S n).tx.size)) (by kernel_rfl) (by kernel_rfl) (by rw [hl]; exact (Nat.min_eq_left (by omega)).symm)
    (fun j v hv => by
      have hj : j < (S n).tx.size - k := by have := (List.getElem?_eq_some_iff.1 hv).1; omega
      rw [had (by omega), addNoneO, Nat.add_assoc]
      refine h.byt n hn (k + j) v ?_
      rw [Pp.byL_ext, List.getElem?_take_of_lt hj, List.getElem?_drop] at hv
      exact hv)
    (fun j hj => h.isS _ (by omega)) (fun j _ => h.frozen _) (fun v hv => by
      obtain ⟨x, _, rfl⟩ := List.mem_map.1 hv
      rfl)
  rw [hl] at this
  exact this
end
section
variable {ops : Array Oper} {rest : List Oper} {x : Oper} {a : Act} {C : World → Prop} {Q : Act → Prop}
set_option maxRecDepth 100000 in
theorem Pp.quiet_conv (hgd : x.guard = none) (y : Operand) (hop : x.op = Op.convert 220 9 y)
    (ad : Addr) (k c : Nat) (hd : a.eval y = .slice (some ad) k c) (ns : List Int) (t : ByteArray) (ht : ns.foldl (fun r n => r.push (UInt8.ofNat n.toNat)) ByteArray.empty = t) (hl : ∀ w, C w → (loadCells ad k).run Tryz.prog w = .ok (ns.map (Value.int .u8)).toArray w)
    (h : wpQuiet Tryz.prog ops C Q rest (a.put x.dst (.string t))) : wpQuiet Tryz.prog ops C Q (x :: rest) a := by
  have hw : Region.wanted x (yielded ops a.tmps) = true := by simp [Region.wanted, hgd]
  unfold wpQuiet
  rw [if_pos hw]
  refine ⟨.string t, fun w hC => ?_, h⟩
  have hrun := (run_convert_bytes_string (P := Tryz.prog) w 220 9 5 (some ad) k c (by kernel_rfl) (by kernel_rfl) (by kernel_rfl)).trans (run_bytesToString w ad k c ns (hl w hC))
  rw [ht] at hrun
  unfold Oper.quietAt
  simp [execOp, hop, hd, hrun, Oper.quietUpon]
end
def Pp.reaE (S : Nat → Pi) (z m : Int) : Int := if Pp.opE S z false ≠ 0 then Pp.opE S z false else if m < 0 then 1 else if 0 < m ∧ (S z.toNat).tx.size = 0 ∧ 0 < (S z.toNat).writes then 13 else 0
def Pp.reaT (S : Nat → Pi) (z m : Int) : ByteArray := if Pp.reaE S z m = 0 then (S z.toNat).tx.extract 0 (min m.toNat (S z.toNat).tx.size) else ⟨#[]⟩
def Pp.reaF (S : Nat → Pi) (z m : Int) : Nat → Pi := if Pp.reaE S z m = 0 then Pp.put S z.toNat { S z.toNat with tx := (S z.toNat).tx.extract (min m.toNat (S z.toNat).tx.size) (S z.toNat).tx.size } else S
set_option maxRecDepth 100000 in
set_option maxHeartbeats 2000000 in
theorem pread_any (b : Nat) (z m : Int) (S : Nat → Pi) (w : World) (h : PAt w b S) :
    Calls Tryz.prog 89 #[.pointer (some ⟨b, 0, none⟩), .int .i64 z, .int .i64 m] w fun e w' => e = .returned (.tuple #[.string (Pp.reaT S z m), errV (Pp.reaE S z m)]) ∧ PAt w' b (Pp.reaF S z m) ∧ Frm b w w' := by
  have HF := Hid.intro h
  by_cases c : Pp.opE S z false = 0
  · obtain ⟨n, rfl, n8, _, t0⟩ := Pp.opE_ok c
    have EP : Hid (Pp.opE S (n : Int) false = 0 ∧ pptE b (n : Int) 0 = .pointer (some ⟨b, n * 15, none⟩)) := Hid.intro ⟨c, pptE_ok b n⟩
    have EW : Pp.reaE S (n : Int) m = if m < 0 then 1 else if 0 < m ∧ (S n).tx.size = 0 ∧ 0 < (S n).writes then 13 else 0 := by unfold Pp.reaE; rw [if_neg (fun d => d c), Int.toNat_natCast]
    have c1 := h.many n n8
    have c2 := h.writes n n8
    have no : ∀ E, E ≠ 0 → Pp.reaE S (n : Int) m = E → Pp.reaT S (n : Int) m = ⟨#[]⟩ ∧ Pp.reaF S (n : Int) m = S := fun E e0 e => ⟨by unfold Pp.reaT; rw [e, if_neg e0], by unfold Pp.reaF; rw [e, if_neg e0]⟩
    by_cases m0 : m < 0
    · have e : Pp.reaE S (n : Int) m = 1 := by rw [EW, if_pos m0]
      have FIN : Hid (Pp.reaE S (n : Int) m = 1 ∧ Pp.reaT S (n : Int) m = ⟨#[]⟩ ∧ Pp.reaF S (n : Int) m = S) := Hid.intro ⟨e, no 1 (by decide) e⟩
      clear h c EW no e t0 c1 c2
      go_enter Tryz.func89, Tryz.ntmps89
      go_wp2_with fail
      refine (pop_any b n false S _ HF.out).mono ?_
      rintro e w1 ⟨rfl, hw1⟩
      subst w1
      rw [EP.out.1, EP.out.2, errV_zero]
      go_wp2_with fail
      go_ret2
      rw [FIN.out.1, FIN.out.2.1, FIN.out.2.2]
      exact ⟨rfl, HF.out, Frm.refl _ _⟩
    · by_cases ag : 0 < m ∧ (S n).tx.size = 0 ∧ 0 < (S n).writes
      · have e : Pp.reaE S (n : Int) m = 13 := by rw [EW, if_neg m0, if_pos ag]
        have FIN : Hid (Pp.reaE S (n : Int) m = 13 ∧ Pp.reaT S (n : Int) m = ⟨#[]⟩ ∧ Pp.reaF S (n : Int) m = S) := Hid.intro ⟨e, no 13 (by decide) e⟩
        obtain ⟨a1, a2, a3⟩ := ag
        rw [a2] at c1
        have c1' : w.cell? ⟨b, n * 15 + 12, none⟩ = some (.int .i64 0) := c1
        generalize (S n).writes = uu at *
        have a3' : (0 : Int) < (uu : Int) := by omega
        clear h c EW no e t0 c1 a2
        go_enter Tryz.func89, Tryz.ntmps89
        go_wp2_with fail
        refine (pop_any b n false S _ HF.out).mono ?_
        rintro e w1 ⟨rfl, hw1⟩
        subst w1
        rw [EP.out.1, EP.out.2, errV_zero]
        go_wp2_with fail
        go_ret2
        rw [FIN.out.1, FIN.out.2.1, FIN.out.2.2]
        exact ⟨rfl, HF.out, Frm.refl _ _⟩
      · have e : Pp.reaE S (n : Int) m = 0 := by rw [EW, if_neg m0, if_neg ag]
        have h12 := h.small n n8
        obtain ⟨k, hk⟩ : ∃ k, min m.toNat (S n).tx.size = k := ⟨_, rfl⟩
        have kle : k ≤ (S n).tx.size := by omega
        have FIN : Hid (Pp.reaE S (n : Int) m = 0 ∧ Pp.reaT S (n : Int) m = (S n).tx.extract 0 k) := Hid.intro ⟨e, by unfold Pp.reaT; rw [if_pos e, Int.toNat_natCast, hk]⟩
        have LD : Hid (∀ W, PAt W b S → (loadCells ⟨b, n * 15, none⟩ k).run Tryz.prog W = .ok ((Pp.byN ((S n).tx.extract 0 k)).map (Value.int .u8)).toArray W) := Hid.intro (fun W hW => hW.loads n 0 k n8 (Nat.zero_le k) kle ⟨b, n * 15, none⟩ (fun _ => rfl))
        have CP : Hid (∀ W ty, PAt W b S → (Builtin.copy_ #[220, 220] ty #[.slice (some ⟨b, n * 15, none⟩) 12 12, .slice (some (if 12 = k then ⟨b, n * 15, none⟩ else ⟨b, n * 15 + k, none⟩)) ((S n).tx.size - k) (12 - k)]).run Tryz.prog W = .ok (goInt (((S n).tx.size - k : Nat) : Int)) (W.setCells b (n * 15) (Pp.byL ((S n).tx.extract k (S n).tx.size)))) := Hid.intro (fun W ty hW => hW.copies n k n8 kle _ (fun hlt => if_neg (by omega)) _ _)
        have MID : Hid (∀ V, PAt V b S → PAt ((V.setCells b (n * 15) (Pp.byL ((S n).tx.extract k (S n).tx.size))).setCell ⟨b, n * 15 + 12, none⟩ (.int .i64 (((S n).tx.size - k : Nat) : Int))) b (Pp.reaF S (n : Int) m) ∧ (∀ o, (V.setCells b (n * 15) (Pp.byL ((S n).tx.extract k (S n).tx.size))).frozen? ⟨b, o, none⟩ = false) ∧ (V.setCells b (n * 15) (Pp.byL ((S n).tx.extract k (S n).tx.size))).cell? ⟨b, n * 15 + 12, none⟩ = some (.int .i64 ((S n).tx.size : Int))) := Hid.intro (fun V hV => by
          unfold Pp.reaF
          rw [if_pos e, Int.toNat_natCast, hk]
          obtain ⟨C, T, h1, _⟩ := hV.blk
          obtain ⟨C', k1, _⟩ := Pp.blk_setCells b (Pp.byL ((S n).tx.extract k (S n).tx.size)) (n * 15) V C h1
          exact ⟨hV.took n n8 k kle, fun o => frozen_blk k1 o, by rw [World.cell?_setCells_out b _ _ V ⟨b, n * 15 + 12, none⟩ (fun _ _ => by rw [Pp.byL_len, ByteArray.size_extract]; show n * 15 + 12 < _ ∨ _ ≤ n * 15 + 12; omega)]; exact hV.many n n8⟩)
        have FR : Hid (∀ V, Frm b w V → Frm b w (V.setCells b (n * 15) (Pp.byL ((S n).tx.extract k (S n).tx.size)))) := Hid.intro (fun V hV => Pp.frm_setCells _ _ hV)
        have SZ : Hid (((S n).tx.extract 0 k).size = k) := Hid.intro (by rw [ByteArray.size_extract]; omega)
        have ST : Hid ((Pp.byN ((S n).tx.extract 0 k)).foldl (fun r n => r.push (UInt8.ofNat n.toNat)) ByteArray.empty = (S n).tx.extract 0 k) := Hid.intro (Pp.byN_str _)
        generalize Pp.byL ((S n).tx.extract k (S n).tx.size) = L at *
        generalize (S n).tx.extract 0 k = g at *
        generalize (S n).writes = uu at *
        generalize (S n).tx.size = mm at *
        have mk : min m (mm : Int) = (k : Int) := by omega
        have mk2 : (if (mm : Int) < m then (mm : Int) else m) = (k : Int) := by split <;> omega
        have kI : (k : Int) ≤ 12 := by omega
        have kmI : (k : Int) ≤ (mm : Int) := by omega
        have mI : (mm : Int) ≤ 12 := by omega
        clear h c EW no e t0 hk
        by_cases m1 : 0 < m
        · by_cases s0 : mm = 0
          · have u1 : ¬ (0 : Int) < (uu : Int) := by omega
            have s1 : ((mm : Int) == 0) = true := by simp; omega
            have cf := HF.out.frozen
            clear ag s0
            go_enter Tryz.func89, Tryz.ntmps89
            go_wp2_with fail
            refine (pop_any b n false S _ HF.out).mono ?_
            rintro e w1 ⟨rfl, hw1⟩
            subst w1
            rw [EP.out.1, EP.out.2, errV_zero]
            go_upto_region 8 with fail
            refine wp_region_quiet_lit (by kernel_rfl) (by kernel_rfl) ?_
            repeat (quiet_step (fail))
            refine Pp.quiet_conv rfl _ rfl ⟨b, n * 15, none⟩ k 12 rfl _ g ST.out (fun w' hC => by obtain ⟨q, rfl⟩ := hC; exact LD.out _ (HF.out.drewN q)) ?_
            repeat (quiet_step (fail))
            refine wpQuiet_nil ?_
            intro _ hw'
            obtain ⟨nq, hw''⟩ := hw'
            subst hw''
            have HD := Hid.intro (HF.out.drewN nq)
            have FD := Hid.intro ((Frm.refl b w).drewN nq)
            have c1d : (w.drewN nq).cell? ⟨b, n * 15 + 12, none⟩ = some (.int .i64 (mm : Int)) := c1
            generalize w.drewN nq = W1 at HD FD c1d ⊢
            clear c1 c2 cf
            have sz := SZ.out
            have M := MID.out _ HD.out.drew
            have F2 := Hid.intro (FR.out _ FD.out.drew)
            have CP2 := Hid.intro (fun ty => CP.out _ ty HD.out.drew)
            generalize W1.drew.setCells b (n * 15) L = W at M F2 CP2
            obtain ⟨M0, cf2, d2⟩ := M
            have M1 := Hid.intro M0
            clear M0 CP MID FR LD
            go_upto_region 9 with fail
            go_region_law (refine Pp.step_copy rfl _ _ 220 220 rfl (.slice (some ⟨b, n * 15, none⟩) 12 12) (.slice (some (if 12 = k then ⟨b, n * 15, none⟩ else ⟨b, n * 15 + k, none⟩)) (mm - k) (12 - k)) _ _ (by simp [Act.eval, Act.put]) (by simp [Act.eval, Act.put]) (CP2.out _) ?_)
            generalize (if 12 = k then (⟨b, n * 15, none⟩ : Addr) else ⟨b, n * 15 + k, none⟩) = ad
            go_wp2_with fail
            go_ret2
            rw [FIN.out.1, FIN.out.2]
            exact ⟨rfl, M1.out, F2.out.setCell _ _⟩
          · have s1 : ((mm : Int) == 0) = false := by simp; omega
            have cf := HF.out.frozen
            clear ag s0
            go_enter Tryz.func89, Tryz.ntmps89
            go_wp2_with fail
            refine (pop_any b n false S _ HF.out).mono ?_
            rintro e w1 ⟨rfl, hw1⟩
            subst w1
            rw [EP.out.1, EP.out.2, errV_zero]
            go_upto_region 8 with fail
            refine wp_region_quiet_lit (by kernel_rfl) (by kernel_rfl) ?_
            repeat (quiet_step (fail))
            refine Pp.quiet_conv rfl _ rfl ⟨b, n * 15, none⟩ k 12 rfl _ g ST.out (fun w' hC => by obtain ⟨q, rfl⟩ := hC; exact LD.out _ (HF.out.drewN q)) ?_
            repeat (quiet_step (fail))
            refine wpQuiet_nil ?_
            intro _ hw'
            obtain ⟨nq, hw''⟩ := hw'
            subst hw''
            have HD := Hid.intro (HF.out.drewN nq)
            have FD := Hid.intro ((Frm.refl b w).drewN nq)
            have c1d : (w.drewN nq).cell? ⟨b, n * 15 + 12, none⟩ = some (.int .i64 (mm : Int)) := c1
            generalize w.drewN nq = W1 at HD FD c1d ⊢
            clear c1 c2 cf
            have sz := SZ.out
            have M := MID.out _ HD.out.drew
            have F2 := Hid.intro (FR.out _ FD.out.drew)
            have CP2 := Hid.intro (fun ty => CP.out _ ty HD.out.drew)
            generalize W1.drew.setCells b (n * 15) L = W at M F2 CP2
            obtain ⟨M0, cf2, d2⟩ := M
            have M1 := Hid.intro M0
            clear M0 CP MID FR LD
            go_upto_region 9 with fail
            go_region_law (refine Pp.step_copy rfl _ _ 220 220 rfl (.slice (some ⟨b, n * 15, none⟩) 12 12) (.slice (some (if 12 = k then ⟨b, n * 15, none⟩ else ⟨b, n * 15 + k, none⟩)) (mm - k) (12 - k)) _ _ (by simp [Act.eval, Act.put]) (by simp [Act.eval, Act.put]) (CP2.out _) ?_)
            generalize (if 12 = k then (⟨b, n * 15, none⟩ : Addr) else ⟨b, n * 15 + k, none⟩) = ad
            go_wp2_with fail
            go_ret2
            rw [FIN.out.1, FIN.out.2]
            exact ⟨rfl, M1.out, F2.out.setCell _ _⟩
        · have cf := HF.out.frozen
          go_enter Tryz.func89, Tryz.ntmps89
          go_wp2_with fail
          refine (pop_any b n false S _ HF.out).mono ?_
          rintro e w1 ⟨rfl, hw1⟩
          subst w1
          rw [EP.out.1, EP.out.2, errV_zero]
          go_upto_region 8 with fail
          refine wp_region_quiet_lit (by kernel_rfl) (by kernel_rfl) ?_
          repeat (quiet_step (fail))
          refine Pp.quiet_conv rfl _ rfl ⟨b, n * 15, none⟩ k 12 rfl _ g ST.out (fun w' hC => by obtain ⟨q, rfl⟩ := hC; exact LD.out _ (HF.out.drewN q)) ?_
          repeat (quiet_step (fail))
          refine wpQuiet_nil ?_
          intro _ hw'
          obtain ⟨nq, hw''⟩ := hw'
          subst hw''
          have HD := Hid.intro (HF.out.drewN nq)
          have FD := Hid.intro ((Frm.refl b w).drewN nq)
          have c1d : (w.drewN nq).cell? ⟨b, n * 15 + 12, none⟩ = some (.int .i64 (mm : Int)) := c1
          generalize w.drewN nq = W1 at HD FD c1d ⊢
          clear c1 c2 cf
          have sz := SZ.out
          have M := MID.out _ HD.out.drew
          have F2 := Hid.intro (FR.out _ FD.out.drew)
          have CP2 := Hid.intro (fun ty => CP.out _ ty HD.out.drew)
          generalize W1.drew.setCells b (n * 15) L = W at M F2 CP2
          obtain ⟨M0, cf2, d2⟩ := M
          have M1 := Hid.intro M0
          clear M0 CP MID FR LD
          go_upto_region 9 with fail
          go_region_law (refine Pp.step_copy rfl _ _ 220 220 rfl (.slice (some ⟨b, n * 15, none⟩) 12 12) (.slice (some (if 12 = k then ⟨b, n * 15, none⟩ else ⟨b, n * 15 + k, none⟩)) (mm - k) (12 - k)) _ _ (by simp [Act.eval, Act.put]) (by simp [Act.eval, Act.put]) (CP2.out _) ?_)
          generalize (if 12 = k then (⟨b, n * 15, none⟩ : Addr) else ⟨b, n * 15 + k, none⟩) = ad
          go_wp2_with fail
          go_ret2
          rw [FIN.out.1, FIN.out.2]
          exact ⟨rfl, M1.out, F2.out.setCell _ _⟩
  · have E2 : Hid (pptE b z (Pp.opE S z false) = .pointer none ∧ errV (Pp.opE S z false) = .iface 60 (.int .i64 (Pp.opE S z false)) ∧ Pp.reaE S z m = Pp.opE S z false ∧ Pp.reaT S z m = ⟨#[]⟩ ∧ Pp.reaF S z m = S) := Hid.intro (by
      have e : Pp.reaE S z m = Pp.opE S z false := if_pos c
      exact ⟨pptE_no c, errV_ne c, e, by unfold Pp.reaT; rw [e, if_neg c], by unfold Pp.reaF; rw [e, if_neg c]⟩)
    clear h c
    go_enter Tryz.func89, Tryz.ntmps89
    go_wp2_with fail
    refine (pop_any b z false S _ HF.out).mono ?_
    rintro e w1 ⟨rfl, hw1⟩
    subst w1
    rw [E2.out.1, E2.out.2.1]
    go_wp2_with fail
    go_ret2
    rw [E2.out.2.2.1, E2.out.2.2.2.1, E2.out.2.2.2.2, E2.out.2.1]
    exact ⟨rfl, HF.out, Frm.refl _ _⟩
end Go.Proofs.YtghogbngmcolmaaGreat
namespace Go.Proofs.YtghogbngmcolmaaGreat
open Go.RowKit
namespace Fx
structure Fi where
  kind : Nat
  num : Nat
  wr : Bool
  pos : Nat
  refs : Nat
def Fi.no : Fi := ⟨0, 0, false, 0, 0⟩
def put (T : Nat → Fi) (n : Nat) (x : Fi) : Nat → Fi := fun m => if m = n then x else T m
theorem put_same (T : Nat → Fi) (n : Nat) (x : Fi) : put T n x n = x := if_pos rfl
theorem put_ne (T : Nat → Fi) (n : Nat) (x : Fi) (m : Nat) (h : m ≠ n) : put T n x m = T m := if_neg h
theorem put_put (T : Nat → Fi) (n : Nat) (x y : Fi) : put (put T n x) n y = put T n y := by
  funext m
  unfold put
  split <;> rfl
def cel (x : Fi) : Nat → Value
  | 0 => .int .i64 (x.kind : Int)
  | 1 => .int .i64 (x.num : Int)
  | 2 => .bool x.wr
  | 3 => .int .i64 (x.pos : Int)
  | _ => .int .i64 (x.refs : Int)
def arr (x : Fi) : Array Value := #[.int .i64 (x.kind : Int), .int .i64 (x.num : Int), .bool x.wr, .int .i64 (x.pos : Int), .int .i64 (x.refs : Int)]
def filE (T : Nat → Fi) (z : Int) : Int := if z < 0 ∨ 23 < z then 1 else if (T z.toNat).refs = 0 then 2 else 0
theorem filE_ok {T : Nat → Fi} {z : Int} (h : filE T z = 0) : ∃ n : Nat, z = n ∧ n < 24 ∧ (T n).refs ≠ 0 := by
  unfold filE at h
  by_cases c : z < 0 ∨ 23 < z
  · rw [if_pos c] at h; omega
  · rw [if_neg c] at h
    refine ⟨z.toNat, by omega, by omega, fun d => ?_⟩
    rw [if_pos d] at h
    omega
def cnt (T : Nat → Fi) : Nat → Nat
  | 0 => 0
  | n + 1 => cnt T n + if (T n).refs = 0 then 0 else 1
theorem cnt_le (T : Nat → Fi) : ∀ n, cnt T n ≤ n
  | 0 => Nat.le_refl 0
  | n + 1 => by
    have := cnt_le T n
    unfold cnt
    split <;> omega
theorem cnt_free (T : Nat → Fi) : ∀ n, cnt T n < n → ∃ m, m < n ∧ (T m).refs = 0 ∧ ∀ k, k < m → (T k).refs ≠ 0
  | 0, h => absurd h (Nat.not_lt_zero _)
  | n + 1, h => by
    by_cases c : cnt T n < n
    · obtain ⟨m, h1, h2, h3⟩ := cnt_free T n c
      exact ⟨m, by omega, h2, h3⟩
    · have hl := cnt_le T n
      unfold cnt at h
      by_cases d : (T n).refs = 0
      · refine ⟨n, by omega, d, fun k hk e => ?_⟩
        have : ∀ n, cnt T n = n → ∀ k, k < n → (T k).refs ≠ 0 := by
          intro n
          induction n with
          | zero => intro _ k hk; omega
          | succ n ih =>
            intro hc k hk e
            have hl := cnt_le T n
            unfold cnt at hc
            by_cases g : (T n).refs = 0
            · rw [if_pos g] at hc; omega
            · by_cases j : k = n
              · subst j; exact g e
              · exact ih (by rw [if_neg g] at hc; omega) k (by omega) e
        exact this n (by omega) k hk e
      · rw [if_neg d] at h; omega
def Low (T : Nat → Fi) (n : Nat) : Prop := n < 24 ∧ (T n).refs = 0 ∧ ∀ k, k < n → (T k).refs ≠ 0
theorem Low.unique {T : Nat → Fi} {n m : Nat} (h : Low T n) (k : Low T m) : n = m := by
  rcases Nat.lt_trichotomy n m with c | c | c
  · exact absurd h.2.1 (k.2.2 n c)
  · exact c
  · exact absurd k.2.1 (h.2.2 m c)
theorem low_of {T : Nat → Fi} (h : cnt T 24 < 24) : ∃ n, Low T n := by
  obtain ⟨m, h1, h2, h3⟩ := cnt_free T 24 h
  exact ⟨m, h1, h2, h3⟩
end Fx
open Fx (Fi)
structure XAt (w : World) (t b p : Nat) (T : Nat → Fi) : Prop where
  blk : ∃ C Ty, w.heap[t]? = some (.cells C Ty (0, 0)) ∧ C.size = 122
  fo : w.cell? ⟨t, 0, none⟩ = some (.pointer (some ⟨b, 0, none⟩))
  pi : w.cell? ⟨t, 1, none⟩ = some (.pointer (some ⟨p, 0, none⟩))
  cell : ∀ n, n < 24 → ∀ i, i < 5 → w.cell? ⟨t, 2 + n * 5 + i, none⟩ = some (Fx.cel (T n) i)
section
variable {w w' : World} {t b p : Nat} {T : Nat → Fi}
theorem XAt.lt (h : XAt w t b p T) : t < w.heap.size := by
  obtain ⟨C, Ty, e, _⟩ := h.blk
  exact (Array.getElem?_eq_some_iff.1 e).1
theorem XAt.frozen (h : XAt w t b p T) (o : Nat) : w.frozen? ⟨t, o, none⟩ = false := by
  obtain ⟨C, Ty, e, _⟩ := h.blk
  exact frozen_blk e o
theorem XAt.same (h : XAt w t b p T) (e : w'.heap[t]? = w.heap[t]?) : XAt w' t b p T := by
  have hc : ∀ o, w'.cell? ⟨t, o, none⟩ = w.cell? ⟨t, o, none⟩ := fun o => World.cell?_of_block e
  exact ⟨by rw [e]; exact h.blk, (hc _).trans h.fo, (hc _).trans h.pi, fun n hn i hi => (hc _).trans (h.cell n hn i hi)⟩
theorem XAt.drew (h : XAt w t b p T) : XAt w.drew t b p T := h.same rfl
theorem XAt.below {B : Nat} (h : XAt w t b p T) (k : Below B w w') (hb : t < B) : XAt w' t b p T := h.same (k.block t hb)
theorem XAt.frm {c : Nat} (h : XAt w t b p T) (k : Frm c w w') (hb : t ≠ c) : XAt w' t b p T := h.same (k.block t h.lt hb)
theorem XAt.kind (h : XAt w t b p T) (n : Nat) (hn : n < 24) : w.cell? ⟨t, 2 + n * 5, none⟩ = some (.int .i64 ((T n).kind : Int)) := h.cell n hn 0 (by omega)
theorem XAt.num (h : XAt w t b p T) (n : Nat) (hn : n < 24) : w.cell? ⟨t, 2 + n * 5 + 1, none⟩ = some (.int .i64 ((T n).num : Int)) := h.cell n hn 1 (by omega)
theorem XAt.wr (h : XAt w t b p T) (n : Nat) (hn : n < 24) : w.cell? ⟨t, 2 + n * 5 + 2, none⟩ = some (.bool (T n).wr) := h.cell n hn 2 (by omega)
theorem XAt.pos (h : XAt w t b p T) (n : Nat) (hn : n < 24) : w.cell? ⟨t, 2 + n * 5 + 3, none⟩ = some (.int .i64 ((T n).pos : Int)) := h.cell n hn 3 (by omega)
theorem XAt.refs (h : XAt w t b p T) (n : Nat) (hn : n < 24) : w.cell? ⟨t, 2 + n * 5 + 4, none⟩ = some (.int .i64 ((T n).refs : Int)) := h.cell n hn 4 (by omega)
theorem XAt.set (h : XAt w t b p T) (n : Nat) (hn : n < 24) (i : Nat) (hi : i < 5) (x : Fi) (hx : ∀ j, j < 5 → j ≠ i → Fx.cel x j = Fx.cel (T n) j) : XAt (w.setCell ⟨t, 2 + n * 5 + i, none⟩ (Fx.cel x i)) t b p (Fx.put T n x) := by
  obtain ⟨C, Ty, h1, h2⟩ := h.blk
  have ne : ∀ o, o ≠ 2 + n * 5 + i → (w.setCell ⟨t, 2 + n * 5 + i, none⟩ (Fx.cel x i)).cell? ⟨t, o, none⟩ = w.cell? ⟨t, o, none⟩ := fun o ho => cell_set_ne h1 _ _ _ (Ne.symm ho)
  refine ⟨⟨_, Ty, blk_set h1 _ _, by simpa using h2⟩, (ne _ (by omega)).trans h.fo, (ne _ (by omega)).trans h.pi, fun m hm j hj => ?_⟩
  by_cases c : m = n
  · subst c
    rw [Fx.put_same]
    by_cases d : j = i
    · subst d; exact cell_set_same h1 _ _ (by omega)
    · rw [ne _ (by omega), hx j hj d]; exact h.cell m hm j hj
  · rw [Fx.put_ne _ _ _ _ c, ne _ (by omega)]; exact h.cell m hm j hj
theorem XAt.setRefs (h : XAt w t b p T) (n : Nat) (hn : n < 24) (k : Nat) : XAt (w.setCell ⟨t, 2 + n * 5 + 4, none⟩ (.int .i64 (k : Int))) t b p (Fx.put T n { T n with refs := k }) :=
  h.set n hn 4 (by omega) { T n with refs := k } (fun j hj d => by
    match j, hj, d with
    | 0, _, _ => rfl
    | 1, _, _ => rfl
    | 2, _, _ => rfl
    | 3, _, _ => rfl
    | 4, _, d => exact absurd rfl d)
theorem XAt.setPos (h : XAt w t b p T) (n : Nat) (hn : n < 24) (k : Nat) : XAt (w.setCell ⟨t, 2 + n * 5 + 3, none⟩ (.int .i64 (k : Int))) t b p (Fx.put T n { T n with pos := k }) :=
  h.set n hn 3 (by omega) { T n with pos := k } (fun j hj d => by
    match j, hj, d with
    | 0, _, _ => rfl
    | 1, _, _ => rfl
    | 2, _, _ => rfl
    | 3, _, d => exact absurd rfl d
    | 4, _, _ => rfl)
theorem XAt.setAll (h : XAt w t b p T) (n : Nat) (hn : n < 24) (x : Fi) : XAt (w.setCells t (2 + n * 5) (Fx.arr x).toList) t b p (Fx.put T n x) := by
  obtain ⟨C, Ty, h1, h2⟩ := h.blk
  obtain ⟨C', k1, k2⟩ := Pp.blk_setCells t (Fx.arr x).toList (2 + n * 5) w C h1
  have out : ∀ o, o < 2 + n * 5 ∨ 2 + n * 5 + 5 ≤ o → (w.setCells t (2 + n * 5) (Fx.arr x).toList).cell? ⟨t, o, none⟩ = w.cell? ⟨t, o, none⟩ := fun o ho => World.cell?_setCells_out t _ _ w ⟨t, o, none⟩ (fun _ _ => by show o < _ ∨ _ ≤ o; exact ho)
  refine ⟨⟨C', Ty, k1, by omega⟩, (out _ (by omega)).trans h.fo, (out _ (by omega)).trans h.pi, fun m hm j hj => ?_⟩
  by_cases c : m = n
  · subst c
    rw [Fx.put_same, World.cell?_setCells_in t (Fx.arr x).toList (2 + m * 5) w (fun i hi => by have : i < 5 := hi; rw [h.cell m hm i this]; rfl) j hj]
    match j, hj with
    | 0, _ => rfl
    | 1, _ => rfl
    | 2, _ => rfl
    | 3, _ => rfl
    | 4, _ => rfl
  · rw [Fx.put_ne _ _ _ _ c, out _ (by omega)]; exact h.cell m hm j hj
end
def fptE (t : Nat) (z E : Int) : Value := if E = 0 then .pointer (some ⟨t, 2 + z.toNat * 5, none⟩) else .pointer none
theorem fptE_ok (t n : Nat) : fptE t (n : Int) 0 = .pointer (some ⟨t, 2 + n * 5, none⟩) := by unfold fptE; rw [if_pos rfl, Int.toNat_natCast]
theorem fptE_no {t : Nat} {z E : Int} (h : E ≠ 0) : fptE t z E = .pointer none := if_neg h
set_option maxRecDepth 100000 in
set_option maxHeartbeats 400000 in
theorem xfile_any (t b p : Nat) (z : Int) (T : Nat → Fi) (w : World) (h : XAt w t b p T) :
    Calls Tryz.prog 85 #[.pointer (some ⟨t, 0, none⟩), .int .i64 z] w fun e w' => e = .returned (.tuple #[fptE t z (Fx.filE T z), errV (Fx.filE T z)]) ∧ w' = w := by
  by_cases c : z < 0 ∨ 23 < z
  · have E : Hid (Fx.filE T z = 1) := Hid.intro (if_pos c)
    have E2 : Hid (fptE t z 1 = .pointer none) := Hid.intro (fptE_no (by decide))
    by_cases c1 : z < 0
    · clear c h
      go_enter Tryz.func85, Tryz.ntmps85
      go_wp2_with fail
      go_ret2
      rw [E.out, E2.out]
      exact ⟨rfl, rfl⟩
    · have c2 : 24 ≤ z := by omega
      clear c h
      go_enter Tryz.func85, Tryz.ntmps85
      go_wp2_with fail
      go_ret2
      rw [E.out, E2.out]
      exact ⟨rfl, rfl⟩
  · obtain ⟨n, rfl⟩ : ∃ n : Nat, z = n := ⟨z.toNat, by omega⟩
    have n24 : n < 24 := by omega
    have n24i : (n : Int) < 24 := by omega
    have E : Fx.filE T (n : Int) = if (T n).refs = 0 then 2 else 0 := by unfold Fx.filE; rw [if_neg c, Int.toNat_natCast]
    have c4 := h.refs n n24
    by_cases d : (T n).refs = 0
    · have E1 : Hid (Fx.filE T (n : Int) = 2 ∧ fptE t (n : Int) 2 = .pointer none) := Hid.intro ⟨by rw [E, if_pos d], fptE_no (by decide)⟩
      rw [d] at c4
      have c4' : w.cell? ⟨t, 2 + n * 5 + 4, none⟩ = some (.int .i64 0) := c4
      clear c h d E c4
      go_enter Tryz.func85, Tryz.ntmps85
      go_wp2_with fail
      go_ret2
      rw [E1.out.1, E1.out.2]
      exact ⟨rfl, rfl⟩
    · have E1 : Hid (Fx.filE T (n : Int) = 0 ∧ fptE t (n : Int) 0 = .pointer (some ⟨t, 2 + n * 5, none⟩)) := Hid.intro ⟨by rw [E, if_neg d], fptE_ok t n⟩
      generalize (T n).refs = rr at *
      have d1 : ((rr : Int) == 0) = false := by simp; omega
      clear c h d E
      go_enter Tryz.func85, Tryz.ntmps85
      go_wp2_with fail
      go_ret2
      rw [E1.out.1, E1.out.2]
      exact ⟨rfl, rfl⟩
set_option maxRecDepth 100000 in
set_option maxHeartbeats 1000000 in
theorem xopen_any (t b p : Nat) (T : Nat → Fi) (w : World) (h : XAt w t b p T) :
    Calls Tryz.prog 107 #[.pointer (some ⟨t, 0, none⟩)] w fun e w' => e = .returned (.int .i64 (Fx.cnt T 24 : Int)) ∧ w' = w := by
  have HF := Hid.intro h
  clear h
  go_enter Tryz.func107, Tryz.ntmps107
  go_wp2_with fail
  go_loopw [3, 4, 5] (fun c x i wr => ∃ (n : Nat), i = .int .i64 n ∧ c = .int .i64 (Fx.cnt T n : Int) ∧ n ≤ 24 ∧ wr = w) (fun _ _ i _ => 24 - (intOf i).toNat)
  case atStart => exact ⟨0, rfl, rfl, by omega, rfl⟩
  case round =>
    obtain ⟨n, rfl, rfl, hn, hwr⟩ := hrel
    subst wr
    by_cases hlt : n < 24
    · have hltI : (n : Int) < 24 := by omega
      have lc := Fx.cnt_le T n
      have LS : Fx.cnt T (n + 1) = Fx.cnt T n + if (T n).refs = 0 then 0 else 1 := rfl
      have c4 := HF.out.refs n hlt
      generalize Fx.cnt T n = cn at *
      by_cases d : (T n).refs = 0
      · rw [if_pos d] at LS
        have LL := Hid.intro LS
        have d1 : ¬ (0 : Int) < ((T n).refs : Int) := by omega
        generalize (T n).refs = rr at *
        clear d LS
        go_wp2_with fail
        go_roundw
        case rel => exact ⟨n + 1, by go_num, by rw [LL.out]; rfl, by omega, by first | rfl | trivial⟩
        case measure => simp [intOf]; omega
      · rw [if_neg d] at LS
        have LL := Hid.intro LS
        have d1 : (0 : Int) < ((T n).refs : Int) := by omega
        generalize (T n).refs = rr at *
        clear d LS
        go_wp2_with fail
        go_roundw
        case rel => exact ⟨n + 1, by go_num, by rw [LL.out]; go_num, by omega, by first | rfl | trivial⟩
        case measure => simp [intOf]; omega
    · have hltI : ¬ (n : Int) < 24 := by omega
      obtain rfl : n = 24 := by omega
      go_wp2_with fail
      go_ret
      exact ⟨rfl, rfl⟩
set_option maxRecDepth 100000 in
set_option maxHeartbeats 400000 in
theorem xroom_any (t b p : Nat) (m : Int) (T : Nat → Fi) (w : World) (h : XAt w t b p T) :
    Calls Tryz.prog 62 #[.pointer (some ⟨t, 0, none⟩), .int .i64 m] w fun e w' => e = .returned (.bool (decide (m ≤ 24 - (Fx.cnt T 24 : Int)))) ∧ w' = w := by
  have HF := Hid.intro h
  have lc := Fx.cnt_le T 24
  have hw : IntKind.i64.wrap (24 - (Fx.cnt T 24 : Int)) = 24 - (Fx.cnt T 24 : Int) := IntWalk.i64_in _ ⟨by omega, by omega⟩
  clear h
  go_enter Tryz.func62, Tryz.ntmps62
  go_wp2_with fail
  refine (xopen_any t b p T _ HF.out).mono ?_
  rintro e w1 ⟨rfl, hw1⟩
  subst w1
  go_wp2_with fail
  go_ret
  exact ⟨rfl, rfl⟩
end Go.Proofs.YtghogbngmcolmaaGreat
namespace Go.Proofs.YtghogbngmcolmaaGreat
open Go.RowKit
open Fx (Fi)
open Tr (Fo Nd)
open Pp (Pi)
structure Tri (t b p : Nat) (w w' : World) : Prop where
  os : w'.os = w.os
  tape : w'.tape = w.tape
  output : w'.output = w.output
  size : w.heap.size ≤ w'.heap.size
  block : ∀ k, k < w.heap.size → k ≠ t → k ≠ b → k ≠ p → w'.heap[k]? = w.heap[k]?
section
variable {t b p : Nat} {u v w : World}
theorem Tri.refl (t b p : Nat) (w : World) : Tri t b p w w := ⟨rfl, rfl, rfl, Nat.le_refl _, fun _ _ _ _ _ => rfl⟩
theorem Tri.trans (h : Tri t b p u v) (k : Tri t b p v w) : Tri t b p u w := ⟨k.os.trans h.os, k.tape.trans h.tape, k.output.trans h.output, Nat.le_trans h.size k.size, fun j hj h1 h2 h3 => (k.block j (Nat.lt_of_lt_of_le hj h.size) h1 h2 h3).trans (h.block j hj h1 h2 h3)⟩
theorem Tri.tb (h : Frm t v w) : Tri t b p v w := ⟨h.os, h.tape, h.output, h.size, fun j hj h1 _ _ => h.block j hj h1⟩
theorem Tri.fo (h : Frm b v w) : Tri t b p v w := ⟨h.os, h.tape, h.output, h.size, fun j hj _ h2 _ => h.block j hj h2⟩
theorem Tri.pi (h : Frm p v w) : Tri t b p v w := ⟨h.os, h.tape, h.output, h.size, fun j hj _ _ h3 => h.block j hj h3⟩
theorem Tri.below (h : Below v.heap.size v w) : Tri t b p v w := ⟨h.os, h.tape, h.output, h.size, fun j hj _ _ _ => h.block j hj⟩
end
theorem Frm.fresh {t bx : Nat} {w W : World} (f : Frm t w W) (h : w.heap.size ≤ bx) (o : Nat) (v : Value) : Frm t w (W.setCell ⟨bx, o, none⟩ v) :=
  ⟨f.os, f.tape, f.output, by simpa [World.setCell] using f.size, fun k hk hn => (setBlk _ _ _ _ (by omega)).trans (f.block k hk hn)⟩
def FX (w : World) (t b p : Nat) (T : Nat → Fi) (F : Fo) (S : Nat → Pi) : Prop := XAt w t b p T ∧ FAt w b F ∧ PAt w p S ∧ t ≠ b ∧ t ≠ p ∧ b ≠ p
section
variable {w w' : World} {t b p : Nat} {T T' : Nat → Fi} {F F' : Fo} {S S' : Nat → Pi}
theorem FX.tb (h : FX w t b p T F S) (k : XAt w' t b p T') (f : Frm t w w') : FX w' t b p T' F S := ⟨k, h.2.1.same (f.block b h.2.1.lt (Ne.symm h.2.2.2.1)), h.2.2.1.frm f (Ne.symm h.2.2.2.2.1), h.2.2.2⟩
theorem FX.fo (h : FX w t b p T F S) (k : FAt w' b F') (f : Frm b w w') : FX w' t b p T F' S := ⟨h.1.frm f h.2.2.2.1, k, h.2.2.1.frm f (Ne.symm h.2.2.2.2.2), h.2.2.2⟩
theorem FX.pi (h : FX w t b p T F S) (k : PAt w' p S') (f : Frm p w w') : FX w' t b p T F S' := ⟨h.1.frm f h.2.2.2.2.1, h.2.1.same (f.block b h.2.1.lt h.2.2.2.2.2), k, h.2.2.2⟩
theorem FX.below (h : FX w t b p T F S) (f : Below w.heap.size w w') : FX w' t b p T F S := ⟨h.1.below f h.1.lt, h.2.1.below f, h.2.2.1.below f h.2.2.1.lt, h.2.2.2⟩
end
def Fx.nul : Nat → Fi := fun _ => Fi.no
def Fx.zT : Array Value := ((List.range 122).map fun o => if o < 2 then Value.pointer none else if o % 5 = 4 then Value.bool false else Value.int .i64 0).toArray
theorem Fx.zT_at (o : Nat) (h : o < 122) : Fx.zT[o]? = some (if o < 2 then Value.pointer none else if o % 5 = 4 then Value.bool false else Value.int .i64 0) := by simp [Fx.zT, h]
set_option maxRecDepth 100000 in
theorem Fx.zeroV (w : World) : (zeroValue 117).run Tryz.prog w = .ok (.agg Fx.zT) w := by kernel_rfl
def Fx.nwA (P0 P1 : Value) : Array Value := (Fx.zT.setIfInBounds 0 P0).setIfInBounds 1 P1
theorem XAt.new {w : World} {t b p : Nat} {Ty : TypeId} (h : w.heap[t]? = some (.cells (Fx.nwA (.pointer (some ⟨b, 0, none⟩)) (.pointer (some ⟨p, 0, none⟩))) Ty (0, 0))) : XAt w t b p Fx.nul := by
  have sz : Fx.zT.size = 122 := by simp [Fx.zT]
  refine ⟨⟨_, Ty, h, by simp [Fx.nwA, sz]⟩, ?_, ?_, fun n hn i hi => ?_⟩
  · rw [cell_blk h]; unfold Fx.nwA
    rw [Array.getElem?_setIfInBounds_ne (by omega), Array.getElem?_setIfInBounds_self_of_lt (by omega)]
  · rw [cell_blk h]; unfold Fx.nwA
    rw [Array.getElem?_setIfInBounds_self_of_lt (by simp [sz])]
  · rw [cell_blk h]; unfold Fx.nwA
    rw [Array.getElem?_setIfInBounds_ne (by omega), Array.getElem?_setIfInBounds_ne (by omega), Fx.zT_at _ (by omega), if_neg (by omega)]
    match i, hi with
    | 0, _ => rw [if_neg (by omega)]; rfl
    | 1, _ => rw [if_neg (by omega)]; rfl
    | 2, _ => rw [if_pos (by omega)]; rfl
    | 3, _ => rw [if_neg (by omega)]; rfl
    | 4, _ => rw [if_neg (by omega)]; rfl
section
variable {ops : Array Oper} {rest : List Oper} {x : Oper} {a : Act} {w : World} {Q : Exit → Act → World → Prop}
set_option maxRecDepth 100000 in
theorem Fx.wp_buildT (hgd : x.guard = none) (y0 y1 : Operand) (P0 P1 : Option Addr) (ho : x.op = .build 117 #[(0, y0), (1, y1)]) (h0 : a.eval y0 = .pointer P0) (h1 : a.eval y1 = .pointer P1) (h : wpList Tryz.prog ops Q rest (a.put x.dst (.agg (Fx.nwA (.pointer P0) (.pointer P1)))) w) : wpList Tryz.prog ops Q (x :: rest) a w :=
  wpList_plain hgd fun _ hK => by
    unfold Oper.wp execOp
    have hz := Fx.zeroV w
    simp only [ho, List.map_toArray, List.map_cons, List.map_nil, h0, h1]
    simp [go_sem, hz]
    exact hK _ _ h
end
set_option maxRecDepth 100000 in
set_option maxHeartbeats 400000 in
theorem xnew_any (b p : Nat) (w : World) : Calls Tryz.prog 57 #[.pointer (some ⟨b, 0, none⟩), .pointer (some ⟨p, 0, none⟩)] w fun e w' => e = .returned (.pointer (some ⟨w.heap.size, 0, none⟩)) ∧ XAt w' w.heap.size b p Fx.nul ∧ Below w.heap.size w w' := by
  have FIN : Hid (XAt (w.alloc (.cells (Fx.nwA (.pointer (some ⟨b, 0, none⟩)) (.pointer (some ⟨p, 0, none⟩))) 117)) w.heap.size b p Fx.nul ∧ Below w.heap.size w (w.alloc (.cells (Fx.nwA (.pointer (some ⟨b, 0, none⟩)) (.pointer (some ⟨p, 0, none⟩))) 117))) := Hid.intro ⟨XAt.new (heap_alloc_new w _), (Below.refl _ _).alloc (Nat.le_refl _) _⟩
  obtain ⟨A, hA⟩ : ∃ A, Fx.nwA (.pointer (some ⟨b, 0, none⟩)) (.pointer (some ⟨p, 0, none⟩)) = A := ⟨_, rfl⟩
  rw [hA] at FIN
  go_enter Tryz.func57, Tryz.ntmps57
  go_wp2_with (refine Fx.wp_buildT rfl _ _ _ _ rfl rfl rfl ?_; rw [hA])
  go_ret
  exact ⟨rfl, FIN.out⟩
set_option maxRecDepth 100000 in
set_option maxHeartbeats 1000000 in
theorem xadd_any (t b p : Nat) (x : Fi) (n : Nat) (T : Nat → Fi) (w : World) (h : XAt w t b p T) (hl : Fx.Low T n) :
    Calls Tryz.prog 64 #[.pointer (some ⟨t, 0, none⟩), .agg #[.int .i64 (x.kind : Int), .int .i64 (x.num : Int), .bool x.wr, .int .i64 (x.pos : Int), .int .i64 (x.refs : Int)]] w fun e w' => e = .returned (.int .i64 (n : Int)) ∧ XAt w' t b p (Fx.put T n { x with refs := 1 }) ∧ Frm t w w' := by
  have HF := Hid.intro h
  have HL := Hid.intro hl
  have hlt := h.lt
  have NE : Hid (w.heap.size ≠ t) := Hid.intro (by omega)
  clear h hl hlt
  obtain ⟨kd, nm, wb, ps, rf⟩ := x
  go_enter Tryz.func64, Tryz.ntmps64
  go_upto_region 1 with fail
  refine wp_gen (fun W' => XAt W' t b p T ∧ Frm t w W' ∧ W'.heap[w.heap.size]? = some (.cells #[.int .i64 (kd : Int), .int .i64 (nm : Int), .bool wb, .int .i64 (ps : Int), .int .i64 (rf : Int)] 114 (0, 0))) (by
    have bb := (Below.refl w.heap.size w).alloc (Nat.le_refl _) (.cells #[.int .i64 (kd : Int), .int .i64 (nm : Int), .bool wb, .int .i64 (ps : Int), .int .i64 (rf : Int)] 114)
    exact ⟨HF.out.below bb HF.out.lt, Frm.of_below bb, heap_alloc_new w _⟩) ?_
  rintro W1 ⟨h1, f1, x1⟩
  have H1 := Hid.intro h1
  have F1 := Hid.intro f1
  have X1 := Hid.intro x1
  clear h1 f1 x1 HF
  obtain ⟨bx, hbx⟩ : ∃ bx, w.heap.size = bx := ⟨_, rfl⟩
  have HB := Hid.intro hbx
  rw [hbx] at X1 NE ⊢
  clear hbx
  go_wp2_with fail
  go_loopw [5] (fun i wr => ∃ (k : Nat), i = .int .i64 k ∧ k ≤ n ∧ wr = W1) (fun i _ => n - (intOf i).toNat)
  case atStart => exact ⟨0, rfl, by omega, rfl⟩
  case round =>
    obtain ⟨k, rfl, hk, hwr⟩ := hrel
    subst wr
    have n24 : n < 24 := HL.out.1
    have k24i : (k : Int) < 24 := by omega
    have c4 := H1.out.refs k (by omega)
    by_cases e : k = n
    · subst e
      rw [HL.out.2.1] at c4
      have c4' : W1.cell? ⟨t, 2 + k * 5 + 4, none⟩ = some (.int .i64 0) := c4
      clear c4
      have cx := act_cells X1.out 4 (.int .i64 (rf : Int)) rfl
      have fx := frozen_blk X1.out
      have HS : XAt (W1.setCell ⟨bx, 4, none⟩ (.int .i64 1)) t b p T ∧ Frm t w (W1.setCell ⟨bx, 4, none⟩ (.int .i64 1)) ∧ (W1.setCell ⟨bx, 4, none⟩ (.int .i64 1)).heap[bx]? = some (.cells #[.int .i64 (kd : Int), .int .i64 (nm : Int), .bool wb, .int .i64 (ps : Int), .int .i64 1] 114 (0, 0)) := ⟨H1.out.same (setBlk _ _ _ _ (Ne.symm NE.out)), F1.out.fresh (Nat.le_of_eq HB.out) _ _, by rw [blk_set X1.out]; rfl⟩
      go_upto_region 5 with fail
      clear cx fx c4'
      generalize W1.setCell ⟨bx, 4, none⟩ (.int .i64 1) = W2 at HS ⊢
      obtain ⟨s1, s2, s3⟩ := HS
      have x0 := act_cells s3 0 (.int .i64 (kd : Int)) rfl
      have x1 := act_cells s3 1 (.int .i64 (nm : Int)) rfl
      have x2 := act_cells s3 2 (.bool wb) rfl
      have x3 := act_cells s3 3 (.int .i64 (ps : Int)) rfl
      have x4 := act_cells s3 4 (.int .i64 1) rfl
      have y0 := s1.kind k n24
      have y1 := s1.num k n24
      have y2 := s1.wr k n24
      have y3 := s1.pos k n24
      have y4 := s1.refs k n24
      have yf := s1.frozen
      have FIN : Hid (XAt (W2.setCells t (2 + k * 5) (Fx.arr ⟨kd, nm, wb, ps, 1⟩).toList).drew t b p (Fx.put T k ⟨kd, nm, wb, ps, 1⟩) ∧ Frm t w (W2.setCells t (2 + k * 5) (Fx.arr ⟨kd, nm, wb, ps, 1⟩).toList).drew) := Hid.intro ⟨(s1.setAll k n24 _).drew, (Pp.frm_setCells _ _ s2).drew⟩
      clear s1 s2 s3
      go_region
      go_wp2_with fail
      go_ret
      exact ⟨rfl, FIN.out⟩
    · have d := HL.out.2.2 k (by omega)
      generalize (T k).refs = rr at *
      have d1 : (0 : Int) < (rr : Int) := by omega
      clear d
      go_wp2_with fail
      go_roundw
      case rel => exact ⟨k + 1, by go_num, by omega, by first | rfl | trivial⟩
      case measure => simp [intOf]; omega
end Go.Proofs.YtghogbngmcolmaaGreat
namespace Go.Proofs.YtghogbngmcolmaaGreat
open Go.RowKit
open Fx (Fi)
open Tr (Fo Nd)
open Pp (Pi)
def Fx.Sm (F : Fo) (S : Nat → Pi) : Prop := (∀ n, n < 40 → (F.nd n).held < 2 ^ 60) ∧ ∀ wr, ∀ n, n < 8 → Pp.tim (S n) wr < 2 ^ 60
def Fx.leF (F : Fo) (x : Fi) : Fo := if x.kind = 1 then Tr.letT F (x.num : Int) else F
def Fx.leS (S : Nat → Pi) (x : Fi) : Nat → Pi := if x.kind = 1 then S else Pp.droF S (x.num : Int) (decide (x.kind = 3))
set_option maxRecDepth 100000 in
set_option maxHeartbeats 1000000 in
theorem xlet_any (t b p : Nat) (x : Fi) (T : Nat → Fi) (F : Fo) (S : Nat → Pi) (w : World) (h : FX w t b p T F S) (hs : Fx.Sm F S) :
    Calls Tryz.prog 95 #[.pointer (some ⟨t, 0, none⟩), .agg #[.int .i64 (x.kind : Int), .int .i64 (x.num : Int), .bool x.wr, .int .i64 (x.pos : Int), .int .i64 (x.refs : Int)]] w fun e w' => e = .returned (.tuple #[]) ∧ FX w' t b p T (Fx.leF F x) (Fx.leS S x) ∧ Tri t b p w w' := by
  have HF := Hid.intro h
  have HS := Hid.intro hs
  have NE : Hid (w.heap.size ≠ t ∧ w.heap.size ≠ b ∧ w.heap.size ≠ p) := Hid.intro ⟨Nat.ne_of_gt h.1.lt, Nat.ne_of_gt h.2.1.lt, Nat.ne_of_gt h.2.2.1.lt⟩
  clear h hs
  obtain ⟨kd, nm, wb, ps, rf⟩ := x
  have B0 : Hid (FX (w.alloc (.cells #[.int .i64 (kd : Int), .int .i64 (nm : Int), .bool wb, .int .i64 (ps : Int), .int .i64 (rf : Int)] 114)) t b p T F S ∧ Tri t b p w (w.alloc (.cells #[.int .i64 (kd : Int), .int .i64 (nm : Int), .bool wb, .int .i64 (ps : Int), .int .i64 (rf : Int)] 114)) ∧ (w.alloc (.cells #[.int .i64 (kd : Int), .int .i64 (nm : Int), .bool wb, .int .i64 (ps : Int), .int .i64 (rf : Int)] 114)).heap[w.heap.size]? = some (.cells #[.int .i64 (kd : Int), .int .i64 (nm : Int), .bool wb, .int .i64 (ps : Int), .int .i64 (rf : Int)] 114 (0, 0))) := Hid.intro (by
    have bb := (Below.refl w.heap.size w).alloc (Nat.le_refl _) (.cells #[.int .i64 (kd : Int), .int .i64 (nm : Int), .bool wb, .int .i64 (ps : Int), .int .i64 (rf : Int)] 114)
    exact ⟨HF.out.below bb, Tri.below bb, heap_alloc_new w _⟩)
  by_cases k1 : kd = 1
  · subst k1
    have EL : Hid (Fx.leF F ⟨1, nm, wb, ps, rf⟩ = Tr.letT F (nm : Int) ∧ Fx.leS S ⟨1, nm, wb, ps, rf⟩ = S) := Hid.intro ⟨if_pos rfl, if_pos rfl⟩
    go_enter Tryz.func95, Tryz.ntmps95
    go_upto_region 1 with fail
    refine wp_gen (fun W' => FX W' t b p T F S ∧ Tri t b p w W' ∧ W'.heap[w.heap.size]? = some (.cells #[.int .i64 ((1 : Nat) : Int), .int .i64 (nm : Int), .bool wb, .int .i64 (ps : Int), .int .i64 (rf : Int)] 114 (0, 0))) B0.out ?_
    rintro W1 ⟨h1, f1, x1⟩
    have H1 := Hid.intro h1
    have F1 := Hid.intro f1
    have y0 := act_cells x1 0 (.int .i64 1) rfl
    have y1 := act_cells x1 1 (.int .i64 (nm : Int)) rfl
    have y2 := h1.1.fo
    have K0 := Hid.intro (And.intro y2 y1)
    have X1 := Hid.intro x1
    clear h1 f1 x1 HF B0 y1 y2
    generalize w.heap.size = bx at *
    go_wp2_with fail
    go_region_held3 (fun w' => w'.cell? ⟨t, 0, none⟩ = some (.pointer (some ⟨b, 0, none⟩)) ∧ w'.cell? ⟨bx, 1, none⟩ = some (.int .i64 (nm : Int))) (first | exact K0.out | exact K4.out) ((first | (go_at_call 132; refine (tlet_any b nm F _ H1.out.2.1.drew HS.out.1).mono ?_; rintro e w4 ⟨rfl, u4, f4⟩; have f4' : Frm b W1 w4 := ⟨f4.os, f4.tape, f4.output, f4.size, f4.block⟩; have C4 := Hid.intro (And.intro (H1.out.fo u4 f4') (F1.out.trans (Tri.fo f4'))); have K4 := Hid.intro (And.intro C4.out.1.1.fo (act_cells ((f4'.block bx (Array.getElem?_eq_some_iff.1 X1.out).1 NE.out.2.1).trans X1.out) 1 (.int .i64 (nm : Int)) rfl)); clear u4 f4 f4')))
    go_wp2_with fail
    (try simp only [Exit.inBlock, Exit.then])
    refine bodyPost_ret (results_none rfl _ _ _) rfl ?_
    rw [EL.out.1, EL.out.2]
    exact ⟨rfl, C4.out⟩
  · have EL : Hid (Fx.leF F ⟨kd, nm, wb, ps, rf⟩ = F ∧ Fx.leS S ⟨kd, nm, wb, ps, rf⟩ = Pp.droF S (nm : Int) (decide (kd = 3))) := Hid.intro ⟨if_neg k1, if_neg k1⟩
    have k1' : ((kd : Int) == 1) = false := by simp; omega
    have k3 : ((kd : Int) == 3) = decide (kd = 3) := by
      by_cases d : kd = 3
      · subst d; rfl
      · rw [decide_eq_false d]; simp; omega
    go_enter Tryz.func95, Tryz.ntmps95
    go_upto_region 1 with fail
    refine wp_gen (fun W' => FX W' t b p T F S ∧ Tri t b p w W' ∧ W'.heap[w.heap.size]? = some (.cells #[.int .i64 (kd : Int), .int .i64 (nm : Int), .bool wb, .int .i64 (ps : Int), .int .i64 (rf : Int)] 114 (0, 0))) B0.out ?_
    rintro W1 ⟨h1, f1, x1⟩
    have H1 := Hid.intro h1
    have F1 := Hid.intro f1
    have y0 := act_cells x1 0 (.int .i64 (kd : Int)) rfl
    have y1 := act_cells x1 1 (.int .i64 (nm : Int)) rfl
    have y2 := h1.1.pi
    have K0 := Hid.intro (And.intro y2 (And.intro y1 y0))
    have X1 := Hid.intro x1
    clear h1 f1 x1 HF B0 y1 y2 k1
    generalize w.heap.size = bx at *
    go_wp2_with fail
    go_region_held3 (fun w' => w'.cell? ⟨t, 1, none⟩ = some (.pointer (some ⟨p, 0, none⟩)) ∧ w'.cell? ⟨bx, 1, none⟩ = some (.int .i64 (nm : Int)) ∧ w'.cell? ⟨bx, 0, none⟩ = some (.int .i64 (kd : Int))) (first | exact K0.out | exact K4.out) ((first | (go_at_call 133; refine (pdrop_any p nm _ S _ H1.out.2.2.1.drew (HS.out.2 _)).mono ?_; rintro e w4 ⟨rfl, u4, f4⟩; have f4' : Frm p W1 w4 := ⟨f4.os, f4.tape, f4.output, f4.size, f4.block⟩; have C4 := Hid.intro (And.intro (H1.out.pi u4 f4') (F1.out.trans (Tri.pi f4'))); have K4 := Hid.intro (And.intro C4.out.1.1.pi (And.intro (act_cells ((f4'.block bx (Array.getElem?_eq_some_iff.1 X1.out).1 NE.out.2.2).trans X1.out) 1 (.int .i64 (nm : Int)) rfl) (act_cells ((f4'.block bx (Array.getElem?_eq_some_iff.1 X1.out).1 NE.out.2.2).trans X1.out) 0 (.int .i64 (kd : Int)) rfl))); clear u4 f4 f4')))
    go_wp2_with fail
    go_end0
    rw [EL.out.1, EL.out.2]
    exact ⟨rfl, C4.out⟩
def Fx.shaT (T : Nat → Fi) (z : Int) : Nat → Fi := if Fx.filE T z = 0 then Fx.put T z.toNat { T z.toNat with refs := (T z.toNat).refs + 1 } else T
set_option maxRecDepth 100000 in
set_option maxHeartbeats 1000000 in
theorem xshare_any (t b p : Nat) (z : Int) (T : Nat → Fi) (w : World) (h : XAt w t b p T) (hr : ∀ n, n < 24 → (T n).refs < 2 ^ 60) :
    Calls Tryz.prog 74 #[.pointer (some ⟨t, 0, none⟩), .int .i64 z] w fun e w' => e = .returned (errV (Fx.filE T z)) ∧ XAt w' t b p (Fx.shaT T z) ∧ Frm t w w' := by
  have HF := Hid.intro h
  by_cases c : Fx.filE T z = 0
  · obtain ⟨n, rfl, n24, _⟩ := Fx.filE_ok c
    have EP : Hid (Fx.filE T (n : Int) = 0 ∧ fptE t (n : Int) 0 = .pointer (some ⟨t, 2 + n * 5, none⟩)) := Hid.intro ⟨c, fptE_ok t n⟩
    have c0 := h.refs n n24
    have hl := hr n n24
    have FIN : Hid (XAt (w.setCell ⟨t, 2 + n * 5 + 4, none⟩ (.int .i64 (((T n).refs + 1 : Nat) : Int))) t b p (Fx.shaT T (n : Int))) := Hid.intro (by
      unfold Fx.shaT
      rw [if_pos c, Int.toNat_natCast]
      exact h.setRefs n n24 _)
    have cf := h.frozen
    generalize (T n).refs = k at *
    have hw : IntKind.i64.wrap ((k : Int) + 1) = (k : Int) + 1 := IntWalk.i64_in _ ⟨by omega, by omega⟩
    clear h c hr
    go_enter Tryz.func74, Tryz.ntmps74
    go_wp2_with fail
    refine (xfile_any t b p n T _ HF.out).mono ?_
    rintro e w1 ⟨rfl, hw1⟩
    subst w1
    rw [EP.out.1, EP.out.2, errV_zero]
    go_wp2_with fail
    go_ret
    rw [EP.out.1]
    exact ⟨rfl, FIN.out, (Frm.refl t w).setCell _ _⟩
  · have E2 : Hid (fptE t z (Fx.filE T z) = .pointer none ∧ errV (Fx.filE T z) = .iface 60 (.int .i64 (Fx.filE T z)) ∧ Fx.shaT T z = T) := Hid.intro ⟨fptE_no c, errV_ne c, if_neg c⟩
    clear h c hr
    go_enter Tryz.func74, Tryz.ntmps74
    go_wp2_with fail
    refine (xfile_any t b p z T _ HF.out).mono ?_
    rintro e w1 ⟨rfl, hw1⟩
    subst w1
    rw [E2.out.1, E2.out.2.1]
    go_wp2_with fail
    go_ret
    rw [E2.out.2.2, E2.out.2.1]
    exact ⟨rfl, HF.out, Frm.refl _ _⟩
def Fx.cloT (T : Nat → Fi) (z : Int) : Nat → Fi := if Fx.filE T z = 0 then Fx.put T z.toNat (if (T z.toNat).refs = 1 then Fi.no else { T z.toNat with refs := (T z.toNat).refs - 1 }) else T
def Fx.cloF (T : Nat → Fi) (F : Fo) (z : Int) : Fo := if Fx.filE T z = 0 ∧ (T z.toNat).refs = 1 then Fx.leF F (T z.toNat) else F
def Fx.cloS (T : Nat → Fi) (S : Nat → Pi) (z : Int) : Nat → Pi := if Fx.filE T z = 0 ∧ (T z.toNat).refs = 1 then Fx.leS S (T z.toNat) else S
set_option maxRecDepth 100000 in
set_option maxHeartbeats 1000000 in
theorem xclose_any (t b p : Nat) (z : Int) (T : Nat → Fi) (F : Fo) (S : Nat → Pi) (w : World) (h : FX w t b p T F S) (hs : Fx.Sm F S) (hr : ∀ n, n < 24 → (T n).refs < 2 ^ 60) :
    Calls Tryz.prog 50 #[.pointer (some ⟨t, 0, none⟩), .int .i64 z] w fun e w' => e = .returned (errV (Fx.filE T z)) ∧ FX w' t b p (Fx.cloT T z) (Fx.cloF T F z) (Fx.cloS T S z) ∧ Tri t b p w w' := by
  have HF := Hid.intro h
  have HS := Hid.intro hs
  by_cases c : Fx.filE T z = 0
  · obtain ⟨n, rfl, n24, r0⟩ := Fx.filE_ok c
    have EP : Hid (Fx.filE T (n : Int) = 0 ∧ fptE t (n : Int) 0 = .pointer (some ⟨t, 2 + n * 5, none⟩)) := Hid.intro ⟨c, fptE_ok t n⟩
    have c0 := h.1.refs n n24
    have hl := hr n n24
    have S1 : Hid (FX (w.setCell ⟨t, 2 + n * 5 + 4, none⟩ (.int .i64 (((T n).refs - 1 : Nat) : Int))) t b p (Fx.put T n { T n with refs := (T n).refs - 1 }) F S ∧ Frm t w (w.setCell ⟨t, 2 + n * 5 + 4, none⟩ (.int .i64 (((T n).refs - 1 : Nat) : Int)))) := Hid.intro ⟨h.tb (h.1.setRefs n n24 _) ((Frm.refl t w).setCell _ _), (Frm.refl t w).setCell _ _⟩
    have cf := h.1.frozen
    have ET : Hid (Fx.cloT T (n : Int) = Fx.put T n (if (T n).refs = 1 then Fi.no else { T n with refs := (T n).refs - 1 }) ∧ Fx.cloF T F (n : Int) = (if (T n).refs = 1 then Fx.leF F (T n) else F) ∧ Fx.cloS T S (n : Int) = (if (T n).refs = 1 then Fx.leS S (T n) else S)) := Hid.intro (by
      unfold Fx.cloT Fx.cloF Fx.cloS
      rw [Int.toNat_natCast, if_pos c]
      refine ⟨rfl, ?_, ?_⟩
      · by_cases d : (T n).refs = 1
        · rw [if_pos ⟨c, d⟩, if_pos d]
        · rw [if_neg (fun e => d e.2), if_neg d]
      · by_cases d : (T n).refs = 1
        · rw [if_pos ⟨c, d⟩, if_pos d]
        · rw [if_neg (fun e => d e.2), if_neg d])
    by_cases r1 : (T n).refs = 1
    · rw [r1] at c0 S1
      have c0' : w.cell? ⟨t, 2 + n * 5 + 4, none⟩ = some (.int .i64 1) := c0
      have S1' : Hid (FX (w.setCell ⟨t, 2 + n * 5 + 4, none⟩ (.int .i64 0)) t b p (Fx.put T n { T n with refs := 0 }) F S ∧ Frm t w (w.setCell ⟨t, 2 + n * 5 + 4, none⟩ (.int .i64 0))) := S1
      rw [if_pos r1, if_pos r1, if_pos r1] at ET
      clear h c hr hl c0 S1 r0
      go_enter Tryz.func50, Tryz.ntmps50
      go_wp2_with fail
      refine (xfile_any t b p n T _ HF.out.1).mono ?_
      rintro e w1 ⟨rfl, hw1⟩
      subst w1
      rw [EP.out.1, EP.out.2, errV_zero]
      have z0 := S1'.out.1.1.kind n n24
      have z1 := S1'.out.1.1.num n n24
      have z2 := S1'.out.1.1.wr n n24
      have z3 := S1'.out.1.1.pos n n24
      have z4 := S1'.out.1.1.refs n n24
      rw [Fx.put_same] at z0 z1 z2 z3 z4
      have XL : Hid (Fx.leF F (T n) = Fx.leF F { T n with refs := 0 } ∧ Fx.leS S (T n) = Fx.leS S { T n with refs := 0 }) := Hid.intro ⟨rfl, rfl⟩
      obtain ⟨x, hx⟩ : ∃ x, ({ T n with refs := 0 } : Fi) = x := ⟨_, rfl⟩
      rw [hx] at z0 z1 z2 z3 z4 S1' XL
      have hx4 : x.refs = 0 := by rw [← hx]
      clear hx r1
      obtain ⟨kd, nm, wb, ps, rf⟩ := x
      obtain rfl : rf = 0 := hx4
      have z0' : (w.setCell ⟨t, 2 + n * 5 + 4, none⟩ (.int .i64 0)).cell? ⟨t, 2 + n * 5, none⟩ = some (.int .i64 (kd : Int)) := z0
      have z1' : (w.setCell ⟨t, 2 + n * 5 + 4, none⟩ (.int .i64 0)).cell? ⟨t, 2 + n * 5 + 1, none⟩ = some (.int .i64 (nm : Int)) := z1
      have z2' : (w.setCell ⟨t, 2 + n * 5 + 4, none⟩ (.int .i64 0)).cell? ⟨t, 2 + n * 5 + 2, none⟩ = some (.bool wb) := z2
      have z3' : (w.setCell ⟨t, 2 + n * 5 + 4, none⟩ (.int .i64 0)).cell? ⟨t, 2 + n * 5 + 3, none⟩ = some (.int .i64 (ps : Int)) := z3
      have z4' : (w.setCell ⟨t, 2 + n * 5 + 4, none⟩ (.int .i64 0)).cell? ⟨t, 2 + n * 5 + 4, none⟩ = some (.int .i64 0) := z4
      clear z0 z1 z2 z3 z4
      go_upto_region 5 with fail
      generalize w.setCell ⟨t, 2 + n * 5 + 4, none⟩ (.int .i64 0) = W1 at *
      clear c0' cf
      go_wp2_with fail
      refine (xlet_any t b p ⟨kd, nm, wb, ps, 0⟩ _ F S _ S1'.out.1 HS.out).mono ?_
      rintro e W2 ⟨rfl, h2, f2⟩
      have H2 := Hid.intro h2
      have F2 := Hid.intro ((Tri.tb S1'.out.2).trans f2)
      have FIN : Hid (FX (W2.setCells t (2 + n * 5) (Fx.arr Fi.no).toList) t b p (Fx.cloT T (n : Int)) (Fx.cloF T F (n : Int)) (Fx.cloS T S (n : Int)) ∧ Tri t b p w (W2.setCells t (2 + n * 5) (Fx.arr Fi.no).toList)) := Hid.intro (by
        have q := h2.1.setAll n n24 Fi.no
        rw [Fx.put_put] at q
        rw [ET.out.1, ET.out.2.1, ET.out.2.2, XL.out.1, XL.out.2]
        have fr := Pp.frm_setCells (Fx.arr Fi.no).toList (2 + n * 5) (Frm.refl t W2)
        exact ⟨h2.tb q fr, F2.out.trans (Tri.tb fr)⟩)
      have y0 := h2.1.kind n n24
      have y1 := h2.1.num n n24
      have y2 := h2.1.wr n n24
      have y3 := h2.1.pos n n24
      have y4 := h2.1.refs n n24
      have yf := h2.1.frozen
      rw [Fx.put_same] at y0 y1 y2 y3 y4
      clear h2 f2 z0' z1' z2' z3' z4'
      go_wp2_with fail
      go_ret
      rw [EP.out.1]
      exact ⟨rfl, FIN.out⟩
    · rw [if_neg r1, if_neg r1, if_neg r1] at ET
      generalize (T n).refs = k at *
      obtain ⟨q, rfl⟩ : ∃ q, k = q + 1 := ⟨k - 1, by omega⟩
      have q0 : ((q : Int) == 0) = false := by simp; omega
      rw [Nat.add_sub_cancel] at S1 ET
      have hw : IntKind.i64.wrap (((q + 1 : Nat) : Int) - 1) = (q : Int) := (IntWalk.i64_in _ ⟨by omega, by omega⟩).trans (by omega)
      obtain ⟨k1, hk1⟩ : ∃ k1 : Int, ((q + 1 : Nat) : Int) = k1 := ⟨_, rfl⟩
      rw [hk1] at c0 hw
      clear h c hr hl r0 hk1 r1
      go_enter Tryz.func50, Tryz.ntmps50
      go_wp2_with fail
      refine (xfile_any t b p n T _ HF.out.1).mono ?_
      rintro e w1 ⟨rfl, hw1⟩
      subst w1
      rw [EP.out.1, EP.out.2, errV_zero]
      go_wp2_with fail
      go_ret
      rw [EP.out.1, ET.out.1, ET.out.2.1, ET.out.2.2]
      exact ⟨rfl, S1.out.1, Tri.tb S1.out.2⟩
  · have E2 : Hid (fptE t z (Fx.filE T z) = .pointer none ∧ errV (Fx.filE T z) = .iface 60 (.int .i64 (Fx.filE T z)) ∧ Fx.cloT T z = T ∧ Fx.cloF T F z = F ∧ Fx.cloS T S z = S) := Hid.intro ⟨fptE_no c, errV_ne c, if_neg c, if_neg (fun e => c e.1), if_neg (fun e => c e.1)⟩
    clear h c hr
    go_enter Tryz.func50, Tryz.ntmps50
    go_wp2_with fail
    refine (xfile_any t b p z T _ HF.out.1).mono ?_
    rintro e w1 ⟨rfl, hw1⟩
    subst w1
    rw [E2.out.1, E2.out.2.1]
    go_wp2_with fail
    go_ret
    rw [E2.out.2.2.1, E2.out.2.2.2.1, E2.out.2.2.2.2, E2.out.2.1]
    exact ⟨rfl, HF.out, Tri.refl _ _ _ _⟩
end Go.Proofs.YtghogbngmcolmaaGreat

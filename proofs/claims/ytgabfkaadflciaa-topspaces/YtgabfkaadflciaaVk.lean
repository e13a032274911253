/- The document's own table: NewTable, Add, Drop. -/
import Derived.Test.YtgabfkaadflciaaVj
namespace Go.Proofs.Ytgabfkaadflciaa
open Go.RowKit
open Sp (T)

theorem mkF_cw0 (hh : Bool) (q : Nat) (_ : q < 21) : mkF 0 q = cw false hh ((fun _ => 0) q) := by unfold mkF; rw [if_neg (by omega)]; rfl
theorem rt_start {w : World} {b : Nat} (h : Tb false w b (tz false)) : Tb false (w.setCells b 0 (spA true (-1) (mkF 0)).toList) b Sp.t0 := by
  have := h.setSpace 0 (by omega) true (-1) (mkF 0) (fun _ => 0) (mkF_cw0 true)
  rw [Nat.zero_mul] at this
  refine this.congr (cell_sort (fun m hm => ?_) (fun m hm => ?_) (fun m q hm hq => ?_) (fun y hy => ?_))
  · rw [cellT_here false _ m hm, cellT_here false _ m hm]
    by_cases e : m = 0
    · subst e; rfl
    · simp [Sp.t0, tz, Sp.upB, e]
  · rw [cellT_par false _ m hm, cellT_par false _ m hm]
    by_cases e : m = 0
    · subst e; rfl
    · simp [Sp.t0, tz, Sp.upI, e]
  · rw [cellT_who false _ m q hm hq, cellT_who false _ m q hm hq]
    by_cases e : m = 0
    · subst e; rfl
    · simp [Sp.t0, tz, e, cw]
  · rw [cellT_of, cellT_of]; rfl
set_option maxRecDepth 100000 in
set_option maxHeartbeats 1000000 in
theorem rnew_any (w : World) : Calls Try.prog 63 #[] w fun e w' => e = .returned (.pointer (some ⟨w.heap.size, 0, none⟩)) ∧ Tb false w' w.heap.size Sp.t0 ∧ Below w.heap.size w w' ∧ w.heap.size < w'.heap.size := by
  have Z : Hid (Tb false (w.alloc (.cells Try.zeroCells166 166)) w.heap.size (tz false) ∧ Below w.heap.size w (w.alloc (.cells Try.zeroCells166 166))) := Hid.intro (by
    rw [tz_eq']
    exact ⟨tb_zero (heap_alloc_new w _), (Below.refl _ _).alloc (Nat.le_refl _) _⟩)
  have hs1 : Hid ((Try.prog.info? 163).map (·.size) = some (spA true (-1) (mkF 0)).size) := Hid.intro (by rw [spA_size]; kernel_rfl)
  have S2 : Hid (Tb false ((w.alloc (.cells Try.zeroCells166 166)).setCells w.heap.size 0 (spA true (-1) (mkF 0)).toList) w.heap.size Sp.t0 ∧ Below w.heap.size w ((w.alloc (.cells Try.zeroCells166 166)).setCells w.heap.size 0 (spA true (-1) (mkF 0)).toList)) := Hid.intro ⟨rt_start Z.out.1, (Frm.setCells _ _ (Frm.refl w.heap.size (w.alloc (.cells Try.zeroCells166 166)))).below Z.out.2 (Nat.le_refl _) Z.out.2.size⟩
  go_enter Try.func63, Try.ntmps63
  go_wp2_with (first | (refine wpList_build_rs2 rfl _ (-1) rfl rfl ?_) | (refine wpList_store_mid rfl 163 _ _ rfl w.heap.size 0 (spA true (-1) (mkF 0)) rfl rfl (by have := Z.out.1.there 0 (by omega) (spA true (-1) (mkF 0)).size (spA_size _ _ _); rw [Nat.zero_mul] at this; exact this) hs1.out (spA_one _ _ _) ?_; generalize hW : World.setCells _ _ _ _ = W2; have S3 : Hid (Tb false W2 w.heap.size Sp.t0 ∧ Below w.heap.size w W2) := Hid.intro (by rw [← hW]; exact S2.out); clear hW S2 Z))
  go_ret
  exact ⟨rfl, S3.out.1, S3.out.2, S3.out.1.lt⟩

set_option maxRecDepth 100000 in
set_option maxHeartbeats 400000 in
theorem radd_wrong (b : Nat) (z : Int) (t : T) (w : World) (h : Tb false w b t) (k : Sp.isE t z ≠ 0) :
    Calls Try.prog 65 #[.pointer (some ⟨b, 0, none⟩), .int .i64 z] w fun e w' => e = .returned (.tuple #[.int .i64 0, .int .i64 (Sp.isE t z)]) ∧ w' = w := by
  have HF := Hid.intro h
  have hp := (Sp.isE_cases t z).resolve_left k
  obtain ⟨E, hE⟩ : ∃ E, Sp.isE t z = E := ⟨_, rfl⟩
  have HX := Hid.intro hE
  rw [hE] at hp
  clear h k hE
  go_enter Try.func65, Try.ntmps65
  go_wp2_with fail
  refine (ris_any b z t _ HF.out).mono ?_
  rintro e w1 ⟨rfl, hw⟩
  subst w1
  rw [HX.out]
  go_wp2
  go_ret2
  rw [HX.out]; exact ⟨rfl, rfl⟩
set_option maxRecDepth 100000 in
set_option maxHeartbeats 1000000 in
theorem radd_rest (b n : Nat) (t : T) (d : Nat → Nat) (w : World) (h : Tb false w b t) (hT : Sp.Tree t d) (hn : n < 6) (hh : t.here n = true) :
    Calls Try.prog 65 #[.pointer (some ⟨b, 0, none⟩), .int .i64 n] w fun e w' =>
      ((Sp.W t n).length = 4 ∧ e = .returned (.tuple #[.int .i64 0, .int .i64 7]) ∧ Below w.heap.size w w') ∨ ((Sp.W t n).length ≠ 4 ∧ ∃ k : Nat, k < 6 ∧ t.here k = false ∧ (∀ j, j < k → t.here j = true) ∧ e = .returned (.tuple #[.int .i64 k, .int .i64 0]) ∧ Tb false w' b { t with here := Sp.upB t.here k true, par := Sp.upI t.par k n, who := fun a q => if a = k then 0 else t.who a q } ∧ Frm b w w') ∨ ((Sp.W t n).length ≠ 4 ∧ (∀ j, j < 6 → t.here j = true) ∧ e = .returned (.tuple #[.int .i64 0, .int .i64 4]) ∧ Below w.heap.size w w') := by
  have HF := Hid.intro h
  have HT := Hid.intro (And.intro hT hh)
  have HK := Hid.intro (Sp.isE_nat hn hh)
  have hs1 : Hid ((Try.prog.info? 163).map (·.size) = some (spA true (n : Int) (mkF 0)).size) := Hid.intro (by rw [spA_size]; kernel_rfl)
  clear h hT hh
  go_enter Try.func65, Try.ntmps65
  go_wp2_with fail
  refine (ris_any b n t _ HF.out).mono ?_
  rintro e w1 ⟨rfl, hw⟩
  subst w1
  rw [HK.out]
  go_wp2_with fail
  refine (rway_any b n t d _ HF.out HT.out.1 hn HT.out.2).mono ?_
  rintro e w1 ⟨v, rfl, hL⟩
  obtain ⟨a, cap, hv⟩ := own_form hL.own
  subst hv
  have B1 := Hid.intro hL.bel
  have T1 := Hid.intro (HF.out.below hL.bel)
  clear hL
  obtain ⟨L, hL⟩ : ∃ L, (Sp.W t n).length = L := ⟨_, rfl⟩
  have HL := Hid.intro hL
  rw [hL]
  clear hL
  by_cases l4 : L = 4
  · have HL4 := Hid.intro l4
    subst l4
    go_wp2
    go_ret2
    exact .inl ⟨HL.out, rfl, B1.out⟩
  · have HL4 : Hid ((Sp.W t n).length ≠ 4) := Hid.intro (by rw [HL.out]; exact l4)
    have l4' : ((L : Int) == 4) = false := by simp; omega
    clear l4
    go_wp2_with fail
    go_loopw [7] (fun i wr => ∃ (k : Nat), i = .int .i64 k ∧ k ≤ 6 ∧ wr = w1 ∧ Hid (∀ j, j < k → t.here j = true)) (fun i _ => 6 - (intOf i).toNat)
    case atStart => exact ⟨0, rfl, by omega, rfl, fun j hj => by omega⟩
    case round =>
      obtain ⟨k, rfl, hk, hw, HN⟩ := hrel
      subst wr
      by_cases hlt : k < 6
      · have hltI : (k : Int) < 6 := by omega
        have c0 := T1.out.cHere k hlt
        cases hkh : t.here k
        · have HKH := Hid.intro hkh
          rw [hkh] at c0
          have S2 : Hid (Tb false (w1.setCells b (k * 23) (spA true (n : Int) (mkF 0)).toList) b { t with here := Sp.upB t.here k true, par := Sp.upI t.par k n, who := fun a q => if a = k then 0 else t.who a q } ∧ Frm b w (w1.setCells b (k * 23) (spA true (n : Int) (mkF 0)).toList)) := Hid.intro ⟨T1.out.setSpace k hlt true n (mkF 0) (fun _ => 0) (mkF_cw0 true), Frm.setCells _ _ (Frm.of_below B1.out)⟩
          clear hkh
          go_wp2_with (first | (refine wpList_build_rs2 rfl _ (n : Int) rfl rfl ?_) | (refine wpList_store_mid rfl 163 _ _ rfl b (k * 23) (spA true (n : Int) (mkF 0)) rfl rfl (T1.out.there k hlt _ (spA_size _ _ _)) hs1.out (spA_one _ _ _) ?_; generalize hW : World.setCells _ _ _ _ = W2; have S3 : Hid (Tb false W2 b { t with here := Sp.upB t.here k true, par := Sp.upI t.par k n, who := fun a q => if a = k then 0 else t.who a q } ∧ Frm b w W2) := Hid.intro (by rw [← hW]; exact S2.out); clear hW S2 c0))
          go_ret2
          exact .inr (.inl ⟨HL4.out, k, hlt, HKH.out, HN.out, rfl, S3.out.1, S3.out.2⟩)
        · have HKH := Hid.intro hkh
          rw [hkh] at c0
          clear hkh
          go_wp2_with fail
          go_roundw
          case rel => exact ⟨k + 1, by go_num, by omega, by first | rfl | trivial, fun j hj => by
            by_cases c : j = k
            · rw [c]; exact HKH.out
            · exact HN.out j (by omega)⟩
          case measure => simp [intOf]; omega
      · have hltI : ¬ (k : Int) < 6 := by omega
        go_wp2_with fail
        go_ret2
        exact .inr (.inr ⟨HL4.out, fun j hj => HN.out j (by omega), rfl, B1.out⟩)
theorem radd_any (b : Nat) (z : Int) (t : T) (d : Nat → Nat) (w : World) (h : Tb false w b t) (hI : Sp.Inv t d) :
    Calls Try.prog 65 #[.pointer (some ⟨b, 0, none⟩), .int .i64 z] w fun e w' => e = .returned (.tuple #[.int .i64 (Sp.addN t z : Int), .int .i64 (Sp.addE t z)]) ∧ Tb false w' b (Sp.addT t z) ∧ Frm b w w' := by
  by_cases k : Sp.isE t z = 0
  · obtain ⟨n, rfl, hn, hh⟩ := Sp.isE_zero k
    have hl4 : (Sp.W t n).length ≤ 4 := by rw [hI.tree.len hn hh]; exact (hI.tree.le n hn hh).2
    refine (radd_rest b n t d w h hI.tree hn hh).mono ?_
    rintro e w' (⟨hl, rfl, hb⟩ | ⟨hl, m, hm, hmh, hml, rfl, ht, hf⟩ | ⟨hl, hall, rfl, hb⟩)
    · have e1 : Sp.addE t n = 7 := by unfold Sp.addE; rw [if_pos k, if_pos (by omega)]
      have e2 : Sp.addN t n = 0 := by unfold Sp.addN; rw [e1]; rfl
      have e3 : Sp.addT t n = t := by unfold Sp.addT; rw [e1]; rfl
      rw [e1, e2, e3]; exact ⟨rfl, h.below hb, Frm.of_below hb⟩
    · have ef := Sp.freeS_at hm hmh hml
      have e1 : Sp.addE t n = 0 := by unfold Sp.addE; rw [if_pos k, if_neg (by omega), ef, if_neg (by omega)]
      have e2 : Sp.addN t n = m := by unfold Sp.addN; rw [e1, if_pos rfl, ef]
      rw [e1, e2]
      refine ⟨rfl, ?_, hf⟩
      unfold Sp.addT
      rw [e1, if_pos rfl, ef]
      refine ht.congr (cell_sort (fun a ha => by rw [cellT_here false _ a ha, cellT_here false _ a ha]) (fun a ha => by rw [cellT_par false _ a ha, cellT_par false _ a ha]) (fun a q ha hq => ?_) (fun y hy => by rw [cellT_of, cellT_of]))
      rw [cellT_who false _ a q ha hq, cellT_who false _ a q ha hq]
      by_cases c : a = m
      · subst c
        simp [hI.dead ha hq hmh]
      · simp [c]
    · have ef := Sp.freeS_no hall
      have e1 : Sp.addE t n = 4 := by unfold Sp.addE; rw [if_pos k, if_neg (by omega), ef, if_pos rfl]
      have e2 : Sp.addN t n = 0 := by unfold Sp.addN; rw [e1]; rfl
      have e3 : Sp.addT t n = t := by unfold Sp.addT; rw [e1]; rfl
      rw [e1, e2, e3]; exact ⟨rfl, h.below hb, Frm.of_below hb⟩
  · have e1 : Sp.addE t z = Sp.isE t z := by unfold Sp.addE; rw [if_neg k]
    have e2 : Sp.addN t z = 0 := by unfold Sp.addN; rw [e1, if_neg k]
    have e3 : Sp.addT t z = t := by unfold Sp.addT; rw [e1, if_neg k]
    refine (radd_wrong b z t w h k).mono ?_
    rintro e w' ⟨rfl, rfl⟩
    rw [e1, e2, e3]; exact ⟨rfl, h, Frm.refl _ _⟩

set_option maxRecDepth 100000 in
set_option maxHeartbeats 400000 in
theorem rdrop_wrong (b : Nat) (z : Int) (t : T) (w : World) (h : Tb false w b t) (k : Sp.isE t z ≠ 0) :
    Calls Try.prog 67 #[.pointer (some ⟨b, 0, none⟩), .int .i64 z] w fun e w' => e = .returned (.int .i64 (Sp.isE t z)) ∧ w' = w := by
  have HF := Hid.intro h
  have hp := (Sp.isE_cases t z).resolve_left k
  obtain ⟨E, hE⟩ : ∃ E, Sp.isE t z = E := ⟨_, rfl⟩
  have HX := Hid.intro hE
  rw [hE] at hp
  clear h k hE
  go_enter Try.func67, Try.ntmps67
  go_wp2_with fail
  refine (ris_any b z t _ HF.out).mono ?_
  rintro e w1 ⟨rfl, hw⟩
  subst w1
  rw [HX.out]
  go_wp2
  go_ret
  rw [HX.out]; exact ⟨rfl, rfl⟩
def kidK (t : T) (n k : Nat) : Bool := (List.range k).any (Sp.kidP t n)
theorem kidK_succ (t : T) (n k : Nat) : kidK t n (k + 1) = (kidK t n k || Sp.kidP t n k) := by
  unfold kidK; rw [List.range_succ, List.any_append]; simp
def busyK (t : T) (n k : Nat) : Bool := decide (n = 0) || (decide (Sp.memb t n ≠ []) || kidK t n k)
theorem busyK_succ (t : T) (n k : Nat) : busyK t n (k + 1) = (busyK t n k || Sp.kidP t n k) := by
  unfold busyK; rw [kidK_succ]; simp [Bool.or_assoc]
set_option maxRecDepth 100000 in
set_option maxHeartbeats 1000000 in
theorem rdrop_rest (b n : Nat) (t : T) (w : World) (h : Tb false w b t) (hn : n < 6) (hh : t.here n = true) (hw0 : ∀ n, n < 6 → t.who n 0 = 0) (hwl : ∀ n p, n < 6 → p < 21 → t.who n p ≤ 20) :
    Calls Try.prog 67 #[.pointer (some ⟨b, 0, none⟩), .int .i64 n] w fun e w' =>
      (busyK t n 6 = true ∧ e = .returned (.int .i64 5) ∧ Below w.heap.size w w') ∨ (busyK t n 6 = false ∧ e = .returned (.int .i64 0) ∧ Tb false w' b { t with here := Sp.upB t.here n false, par := Sp.upI t.par n 0, who := fun a q => if a = n then 0 else t.who a q } ∧ Frm b w w') := by
  have HF := Hid.intro h
  have HH := Hid.intro hh
  have HK := Hid.intro (Sp.isE_nat hn hh)
  have HW := Hid.intro (And.intro hw0 hwl)
  have hnI : (n : Int) < 6 := by omega
  have hs0 : Hid ((Try.prog.info? 163).map (·.size) = some (spA false 0 (mkF 0)).size) := Hid.intro (by rw [spA_size]; kernel_rfl)
  clear h hh hw0 hwl
  go_enter Try.func67, Try.ntmps67
  go_wp2_with fail
  refine (ris_any b n t _ HF.out).mono ?_
  rintro e w1 ⟨rfl, hw⟩
  subst w1
  rw [HK.out]
  go_wp2_with fail
  refine (rmembers_any b n t _ HF.out HW.out.1 HW.out.2).mono ?_
  rintro e w1 ⟨v, rfl, hL⟩
  obtain ⟨a, cap, hv⟩ := own_form hL.own
  subst hv
  have B1 := Hid.intro hL.bel
  have T1 := Hid.intro (HF.out.below hL.bel)
  have HML : Hid (membL t n = Sp.memb t n) := Hid.intro (by unfold membL; rw [if_pos HK.out, Int.toNat_natCast])
  clear hL
  rw [HML.out, HK.out]
  obtain ⟨L, hL⟩ : ∃ L, (Sp.memb t n).length = L := ⟨_, rfl⟩
  have HB0 : Hid (busyK t n 0 = (decide (n = 0) || decide (0 < L))) := Hid.intro (by
    unfold busyK
    have e1 : kidK t n 0 = false := rfl
    have e2 : decide (Sp.memb t n ≠ []) = decide (0 < L) := by
      rw [decide_eq_decide, ← List.length_pos_iff, hL]
    rw [e1, e2]; simp)
  rw [hL]
  clear hL
  by_cases n0 : n = 0
  · have n0' : ((n : Int) == 0) = true := by simp; omega
    have HN0 := Hid.intro n0
    clear n0
    go_wp2_with fail
    go_loopw [8, 9] (fun s i wr => ∃ (k : Nat), s = .bool true ∧ i = .int .i64 k ∧ k ≤ 6 ∧ wr = w1) (fun _ i _ => 6 - (intOf i).toNat)
    case atStart => exact ⟨0, rfl, rfl, by omega, rfl⟩
    case round =>
      obtain ⟨k, rfl, rfl, hk, hw⟩ := hrel
      subst wr
      by_cases hlt : k < 6
      · have hltI : (k : Int) < 6 := by omega
        go_wp2_with fail
        go_roundw
        case rel => exact ⟨k + 1, by first | rfl | trivial, by go_num, by omega, by first | rfl | trivial⟩
        case measure => simp [intOf]; omega
      · have hltI : ¬ (k : Int) < 6 := by omega
        go_wp2_with fail
        go_ret
        exact .inl ⟨by unfold busyK; rw [decide_eq_true HN0.out]; rfl, rfl, B1.out⟩
  · have n0' : ((n : Int) == 0) = false := by simp; omega
    have HN0 := Hid.intro n0
    clear n0
    have HBE : Hid (busyK t n 0 = decide (0 < L)) := Hid.intro (by rw [HB0.out, decide_eq_false HN0.out, Bool.false_or])
    go_wp2_with fail
    go_loopw [8, 9] (fun s i wr => ∃ (k : Nat), s = .bool (busyK t n k) ∧ i = .int .i64 k ∧ k ≤ 6 ∧ wr = w1) (fun _ i _ => 6 - (intOf i).toNat)
    case atStart => exact ⟨0, by rw [HBE.out], rfl, by omega, rfl⟩
    case round =>
      obtain ⟨k, rfl, rfl, hk, hw⟩ := hrel
      subst wr
      by_cases hlt : k < 6
      · have hltI : (k : Int) < 6 := by omega
        have SU := Hid.intro (busyK_succ t n k)
        cases hb : busyK t n k
        · have HB := Hid.intro hb
          have c0 := T1.out.cHere k hlt
          have c1 := T1.out.cPar k hlt
          have HKP : Hid (Sp.kidP t n k = (t.here k && decide (t.par k = (n : Int)))) := Hid.intro rfl
          generalize t.here k = hh at *
          generalize t.par k = pp at *
          clear hb
          cases hh
          · go_wp2_with fail
            go_roundw
            case rel => exact ⟨k + 1, by rw [SU.out, HB.out, HKP.out]; rfl, by go_num, by omega, by first | rfl | trivial⟩
            case measure => simp [intOf]; omega
          · by_cases hp : pp = (n : Int)
            · subst hp
              go_wp2_with fail
              go_roundw
              case rel => exact ⟨k + 1, by rw [SU.out, HB.out, HKP.out]; simp, by go_num, by omega, by first | rfl | trivial⟩
              case measure => simp [intOf]; omega
            · have hp' : (pp == (n : Int)) = false := by simp; exact hp
              go_wp2_with fail
              go_roundw
              case rel => exact ⟨k + 1, by rw [SU.out, HB.out, HKP.out, decide_eq_false hp]; rfl, by go_num, by omega, by first | rfl | trivial⟩
              case measure => simp [intOf]; omega
        · have HB := Hid.intro hb
          clear hb
          go_wp2_with fail
          go_roundw
          case rel => exact ⟨k + 1, by rw [SU.out, HB.out]; rfl, by go_num, by omega, by first | rfl | trivial⟩
          case measure => simp [intOf]; omega
      · have hk6 : k = 6 := by omega
        subst hk6
        cases hb : busyK t n 6
        · have HB := Hid.intro hb
          have S2 : Hid (Tb false (w1.setCells b (n * 23) (spA false 0 (mkF 0)).toList) b { t with here := Sp.upB t.here n false, par := Sp.upI t.par n 0, who := fun a q => if a = n then 0 else t.who a q } ∧ Frm b w (w1.setCells b (n * 23) (spA false 0 (mkF 0)).toList)) := Hid.intro ⟨T1.out.setSpace n hn false 0 (mkF 0) (fun _ => 0) (mkF_cw0 false), Frm.setCells _ _ (Frm.of_below B1.out)⟩
          clear hb
          go_wp2_with (first | (refine wpList_build_rs0 rfl rfl ?_) | (refine wpList_store_mid rfl 163 _ _ rfl b (n * 23) (spA false 0 (mkF 0)) rfl rfl (T1.out.there n hn _ (spA_size _ _ _)) hs0.out (spA_one _ _ _) ?_; generalize hW : World.setCells _ _ _ _ = W2; have S3 : Hid (Tb false W2 b { t with here := Sp.upB t.here n false, par := Sp.upI t.par n 0, who := fun a q => if a = n then 0 else t.who a q } ∧ Frm b w W2) := Hid.intro (by rw [← hW]; exact S2.out); clear hW S2))
          go_ret
          exact .inr ⟨HB.out, rfl, S3.out.1, S3.out.2⟩
        · have HB := Hid.intro hb
          clear hb
          go_wp2_with fail
          go_ret
          exact .inl ⟨HB.out, rfl, B1.out⟩
theorem rdrop_any (b : Nat) (z : Int) (t : T) (d : Nat → Nat) (w : World) (h : Tb false w b t) (hI : Sp.Inv t d) :
    Calls Try.prog 67 #[.pointer (some ⟨b, 0, none⟩), .int .i64 z] w fun e w' => e = .returned (.int .i64 (Sp.dropE t z)) ∧ Tb false w' b (Sp.dropT t z) ∧ Frm b w w' := by
  by_cases k : Sp.isE t z = 0
  · obtain ⟨n, rfl, hn, hh⟩ := Sp.isE_zero k
    have eb : busyK t n 6 = true ↔ ((n : Int) = 0 ∨ Sp.memb t n ≠ [] ∨ Sp.kids t n = true) := by
      unfold busyK
      rw [show kidK t n 6 = Sp.kids t n from rfl]
      simp only [Bool.or_eq_true, decide_eq_true_eq]
      constructor
      · rintro (c | c | c)
        · exact .inl (by omega)
        · exact .inr (.inl c)
        · exact .inr (.inr c)
      · rintro (c | c | c)
        · exact .inl (by omega)
        · exact .inr (.inl c)
        · exact .inr (.inr c)
    refine (rdrop_rest b n t w h hn hh hI.who0 hI.wle).mono ?_
    rintro e w' (⟨hc, rfl, hb⟩ | ⟨hc, rfl, ht, hf⟩)
    · have e1 : Sp.dropE t n = 5 := by unfold Sp.dropE; rw [if_pos k, Int.toNat_natCast, if_pos (eb.1 hc)]
      have e3 : Sp.dropT t n = t := by unfold Sp.dropT; rw [e1]; rfl
      rw [e1, e3]; exact ⟨rfl, h.below hb, Frm.of_below hb⟩
    · have e1 : Sp.dropE t n = 0 := by
        unfold Sp.dropE; rw [if_pos k, Int.toNat_natCast, if_neg]
        intro c; rw [eb.2 c] at hc; cases hc
      have hm : Sp.memb t n = [] := Classical.byContradiction fun c => by rw [eb.2 (.inr (.inl c))] at hc; cases hc
      rw [e1]
      refine ⟨rfl, ?_, hf⟩
      unfold Sp.dropT
      rw [e1, if_pos rfl, Int.toNat_natCast]
      refine ht.congr (cell_sort (fun a ha => by rw [cellT_here false _ a ha, cellT_here false _ a ha]) (fun a ha => by rw [cellT_par false _ a ha, cellT_par false _ a ha]) (fun a q ha hq => ?_) (fun y hy => by rw [cellT_of, cellT_of]))
      rw [cellT_who false _ a q ha hq, cellT_who false _ a q ha hq]
      by_cases c : a = n
      · subst c
        simp [Sp.memb_nil hm q hq]
      · simp [c]
  · have e1 : Sp.dropE t z = Sp.isE t z := by unfold Sp.dropE; rw [if_neg k]
    have e3 : Sp.dropT t z = t := by unfold Sp.dropT; rw [e1, if_neg k]
    refine (rdrop_wrong b z t w h k).mono ?_
    rintro e w' ⟨rfl, rfl⟩
    rw [e1, e3]; exact ⟨rfl, h, Frm.refl _ _⟩
end Go.Proofs.Ytgabfkaadflciaa

import Derived.Test.YtghogbngmcolmaaGreatSaf
namespace Go.Proofs.YtghogbngmcolmaaGreat
open Go.RowKit
open Sp (T)
theorem mkF_cw (q : Nat) (hq : q < 21) : mkF 21 q = cw true true ((fun _ => 0) q) := by unfold mkF; rw [if_pos hq]; rfl
def tzA : Array Value := ((List.range 158).map fun i => if i < 138 ∧ i % 23 = 0 then Value.bool false else .int .i64 0).toArray
theorem tz_eq : Tryz.zeroCells147 = tzA := by kernel_rfl
theorem tz_size : tzA.size = 158 := by simp [tzA]
theorem tz_at (i : Nat) (h : i < 158) : tzA[i]? = some (if i < 138 ∧ i % 23 = 0 then Value.bool false else .int .i64 0) := by simp [tzA, h]
def tz (c : Bool) : T := ⟨fun _ => false, fun _ => 0, fun _ _ => 0, fun _ => if c then 1 else 0⟩
theorem tb_zero {c : Bool} {w : World} {b : Nat} (h : w.heap[b]? = some (.cells tzA (tyT c) (0, 0))) : Tb c w b (tz c) := by
  refine ⟨⟨_, h, tz_size⟩, cell_sort (fun m hm => ?_) (fun m hm => ?_) (fun m q hm hq => ?_) (fun y hy => ?_)⟩
  · rw [cellT_here c _ m hm, cell_blk h, tz_at _ (by omega), if_pos (by omega)]; rfl
  · rw [cellT_par c _ m hm, cell_blk h, tz_at _ (by omega), if_neg (by omega)]; rfl
  · rw [cellT_who c _ m q hm hq, cell_blk h, tz_at _ (by omega), if_neg (by omega)]; cases c <;> rfl
  · rw [cellT_of, cell_blk h, tz_at _ (by omega), if_neg (by omega)]; cases c <;> rfl
def tk (k : Nat) : T := ⟨fun n => decide (n = 0), fun n => if n = 0 then -1 else 0, fun _ _ => 0, fun x => if x < k then 0 else 1⟩
theorem tk_up {w : World} {b k : Nat} (h : Tb true w b (tk k)) (hk : k < 20) : Tb true (w.setCell ⟨b, 138 + k, none⟩ (.int .i64 (-1))) b (tk (k + 1)) := by
  have := h.setOf k 0 hk
  refine this.congr (cell_sort (fun m hm => by rw [cellT_here true _ m hm, cellT_here true _ m hm]; rfl) (fun m hm => by rw [cellT_par true _ m hm, cellT_par true _ m hm]; rfl) (fun m q hm hq => by rw [cellT_who true _ m q hm hq, cellT_who true _ m q hm hq]; rfl) (fun y hy => ?_))
  rw [cellT_of, cellT_of]
  unfold tk Sp.upN
  by_cases c : y = k
  · simp [c]
  · by_cases c2 : y < k
    · simp [c, c2, show y < k + 1 by omega]
    · simp [c, c2, show ¬ y < k + 1 by omega]
theorem tk_end {w : World} {b : Nat} (h : Tb true w b (tk 20)) : Tb true w b Sp.t0 :=
  h.congr (cell_sort (fun m hm => by rw [cellT_here true _ m hm, cellT_here true _ m hm]; rfl) (fun m hm => by rw [cellT_par true _ m hm, cellT_par true _ m hm]; rfl) (fun m q hm hq => by rw [cellT_who true _ m q hm hq, cellT_who true _ m q hm hq]; rfl) (fun y hy => by rw [cellT_of, cellT_of]; unfold tk; simp only [if_pos hy]; rfl))
theorem tk_start {w : World} {b : Nat} (h : Tb true w b (tz true)) : Tb true (w.setCells b 0 (spA true (-1) (mkF 21)).toList) b (tk 0) := by
  have := h.setSpace 0 (by omega) true (-1) (mkF 21) (fun _ => 0) mkF_cw
  rw [Nat.zero_mul] at this
  refine this.congr (cell_sort (fun m hm => ?_) (fun m hm => ?_) (fun m q hm hq => ?_) (fun y hy => ?_))
  · rw [cellT_here true _ m hm, cellT_here true _ m hm]
    by_cases e : m = 0
    · subst e; rfl
    · simp [tk, tz, Sp.upB, e]
  · rw [cellT_par true _ m hm, cellT_par true _ m hm]
    by_cases e : m = 0
    · subst e; rfl
    · simp [tk, tz, Sp.upI, e]
  · rw [cellT_who true _ m q hm hq, cellT_who true _ m q hm hq]
    by_cases e : m = 0
    · subst e; rfl
    · simp [tk, tz, Sp.upB, e]
  · rw [cellT_of, cellT_of]; rfl
set_option maxRecDepth 100000 in
set_option maxHeartbeats 1000000 in
theorem new_any (w : World) : Calls Tryz.prog 52 #[] w fun e w' => e = .returned (.pointer (some ⟨w.heap.size, 0, none⟩)) ∧ Tb true w' w.heap.size Sp.t0 ∧ Below w.heap.size w w' ∧ w.heap.size < w'.heap.size := by
  have Z : Hid (Tb true (w.alloc (.cells Tryz.zeroCells147 147)) w.heap.size (tz true) ∧ Below w.heap.size w (w.alloc (.cells Tryz.zeroCells147 147))) := Hid.intro (by
    rw [tz_eq]
    exact ⟨tb_zero (heap_alloc_new w _), (Below.refl _ _).alloc (Nat.le_refl _) _⟩)
  go_enter Tryz.func52, Tryz.ntmps52
  go_wp2_with fail
  refine wp_gen (fun W => Tb true W w.heap.size (tz true) ∧ Below w.heap.size w W) Z.out ?_
  rintro W1 ⟨h1, hb1⟩
  have S1 := Hid.intro (And.intro h1 hb1)
  clear h1 hb1 Z
  obtain ⟨b, hb⟩ : ∃ b, w.heap.size = b := ⟨_, rfl⟩
  rw [hb] at S1 ⊢
  have HB := Hid.intro hb
  clear hb
  go_region_held3 (fun _ => True) (trivial) ((go_at_call 97; refine (newSpace_any _ _).mono ?_; rintro e w2 ⟨rfl, hb2⟩; have T2 : Hid (Tb true w2 b (tz true) ∧ Below b w w2) := Hid.intro ⟨S1.out.1.drew.below hb2, S1.out.2.drew.trans (hb2.mono (Nat.le_of_lt S1.out.1.lt))⟩; obtain ⟨A, hA⟩ : ∃ A, spA true (-1) (mkF 21) = A := ⟨_, rfl⟩; have HA := Hid.intro hA; have hAs : A.size = 23 := (by rw [← hA]; exact spA_size _ _ _); have st := T2.out.1.store 0 (by omega) true (-1) (mkF 21); rw [Nat.zero_mul] at st; rw [hA] at st ⊢; clear hb2 hA))
  generalize hW2 : World.setCells _ _ _ _ = W2
  have S2 : Hid (Tb true W2 b (tk 0) ∧ Below b w W2) := Hid.intro (by
    have f : Frm b w2 W2 := by rw [← hW2]; exact Frm.setCells _ _ (Frm.refl _ _)
    refine ⟨?_, f.below T2.out.2 (Nat.le_refl _) (Nat.le_of_lt T2.out.1.lt)⟩
    rw [← hW2, ← HA.out]; exact tk_start T2.out.1)
  clear hW2 st T2 S1 hAs HA
  go_wp2_with fail
  go_loopw [10] (fun i wr => ∃ (k : Nat), i = .int .i64 k ∧ k ≤ 20 ∧ Hid (Tb true wr b (tk k) ∧ Below b w wr)) (fun i _ => 20 - (intOf i).toNat)
  case atStart => exact ⟨0, rfl, by omega, S2⟩
  case round =>
    clear S2
    obtain ⟨k, rfl, hk, S⟩ := hrel
    by_cases hlt : k < 20
    · have hltI : (k : Int) < 20 := by omega
      have c0 := S.out.1.cOf k hlt
      have cf := S.out.1.frozen
      go_wp2_with fail
      go_roundw
      case rel => exact ⟨k + 1, by go_num, by omega, tk_up S.out.1 hlt, S.out.2.setCell (by show b ≤ b; omega) _⟩
      case measure => simp [intOf]; omega
    · have hk20 : k = 20 := by omega
      subst hk20
      go_wp2_with fail
      go_ret
      rw [HB.out]
      exact ⟨rfl, tk_end S.out.1, S.out.2, S.out.1.lt⟩
set_option maxRecDepth 100000 in
set_option maxHeartbeats 400000 in
theorem add_wrong (b : Nat) (z : Int) (t : T) (w : World) (h : Tb true w b t) (k : Sp.isE t z ≠ 0) :
    Calls Tryz.prog 67 #[.pointer (some ⟨b, 0, none⟩), .int .i64 z] w fun e w' => e = .returned (.tuple #[.int .i64 0, errV (Sp.isE t z)]) ∧ w' = w := by
  have HF := Hid.intro h
  have HW := Hid.intro k
  clear h k
  go_enter Tryz.func67, Tryz.ntmps67
  go_wp2_with fail
  refine (spwrong_any b z t _ HF.out).mono ?_
  rintro e w1 ⟨rfl, hw⟩
  subst w1
  rw [errV_ne HW.out]
  go_wp2
  go_ret2
  rw [errV_ne HW.out]; exact ⟨rfl, rfl⟩
set_option maxRecDepth 100000 in
set_option maxHeartbeats 400000 in
theorem add_deep (b n : Nat) (t : T) (d : Nat → Nat) (w : World) (h : Tb true w b t) (hT : Sp.Tree t d) (hn : n < 6) (hh : t.here n = true) (hl : 4 ≤ (Sp.W t n).length) :
    Calls Tryz.prog 67 #[.pointer (some ⟨b, 0, none⟩), .int .i64 n] w fun e w' => e = .returned (.tuple #[.int .i64 0, errV 7]) ∧ w' = w := by
  have HF := Hid.intro h
  have HT := Hid.intro (And.intro hT hh)
  have HK := Hid.intro (Sp.isE_nat hn hh)
  clear h hT hh
  go_enter Tryz.func67, Tryz.ntmps67
  go_wp2_with fail
  refine (spwrong_any b n t _ HF.out).mono ?_
  rintro e w1 ⟨rfl, hw⟩
  subst w1
  rw [HK.out, errV_zero]
  go_wp2_with fail
  refine (depth_any b n t d _ HF.out HT.out.1 hn HT.out.2).mono ?_
  rintro e w1 ⟨rfl, hw⟩
  subst w1
  generalize (Sp.W t n).length = L at *
  have hlI : (4 : Int) ≤ (L : Int) := by omega
  go_wp2
  go_ret2
  exact ⟨rfl, rfl⟩
set_option maxRecDepth 100000 in
set_option maxHeartbeats 1000000 in
theorem add_rest (b n : Nat) (t : T) (d : Nat → Nat) (w : World) (h : Tb true w b t) (hT : Sp.Tree t d) (hn : n < 6) (hh : t.here n = true) (hl : (Sp.W t n).length < 4) :
    Calls Tryz.prog 67 #[.pointer (some ⟨b, 0, none⟩), .int .i64 n] w fun e w' =>
      (∃ k : Nat, k < 6 ∧ t.here k = false ∧ (∀ j, j < k → t.here j = true) ∧ e = .returned (.tuple #[.int .i64 k, errV 0]) ∧ Tb true w' b { t with here := Sp.upB t.here k true, par := Sp.upI t.par k n, who := fun a q => if a = k then 0 else t.who a q } ∧ Frm b w w') ∨ ((∀ j, j < 6 → t.here j = true) ∧ e = .returned (.tuple #[.int .i64 0, errV 4]) ∧ w' = w) := by
  have HF := Hid.intro h
  have HT := Hid.intro (And.intro hT hh)
  have HK := Hid.intro (Sp.isE_nat hn hh)
  clear h hT hh
  go_enter Tryz.func67, Tryz.ntmps67
  go_wp2_with fail
  refine (spwrong_any b n t _ HF.out).mono ?_
  rintro e w1 ⟨rfl, hw⟩
  subst w1
  rw [HK.out, errV_zero]
  go_wp2_with fail
  refine (depth_any b n t d _ HF.out HT.out.1 hn HT.out.2).mono ?_
  rintro e w1 ⟨rfl, hw⟩
  subst w1
  generalize (Sp.W t n).length = L at *
  have hlI : decide ((4 : Int) ≤ (L : Int)) = false := by simp; omega
  go_wp2_with fail
  go_loopw [19] (fun i wr => ∃ (k : Nat), i = .int .i64 k ∧ k ≤ 6 ∧ wr = w ∧ Hid (∀ j, j < k → t.here j = true)) (fun i _ => 6 - (intOf i).toNat)
  case atStart => exact ⟨0, rfl, by omega, rfl, fun j hj => by omega⟩
  case round =>
    obtain ⟨k, rfl, hk, hw, HN⟩ := hrel
    subst wr
    by_cases hlt : k < 6
    · have hltI : (k : Int) < 6 := by omega
      have c0 := HF.out.cHere k hlt
      cases hkh : t.here k
      · have HKH := Hid.intro hkh
        rw [hkh] at c0
        clear hkh
        go_wp2_with fail
        clear c0
        go_region_held3 (fun _ => True) (trivial) ((go_at_call 97; refine (newSpace_any _ _).mono ?_; rintro e w2 ⟨rfl, hb2⟩; have T2 : Hid (Tb true w2 b t ∧ Frm b w w2) := Hid.intro ⟨HF.out.drew.below hb2, (Frm.refl b w).drew.trans (Frm.of_below hb2)⟩; obtain ⟨A, hA⟩ : ∃ A, spA true (n : Int) (mkF 21) = A := ⟨_, rfl⟩; have HA := Hid.intro hA; have hAs : A.size = 23 := (by rw [← hA]; exact spA_size _ _ _); have st := T2.out.1.store k hlt true (n : Int) (mkF 21); rw [hA] at st ⊢; clear hb2 hA))
        generalize hW2 : World.setCells _ _ _ _ = W2
        have S2 : Hid (Tb true W2 b { t with here := Sp.upB t.here k true, par := Sp.upI t.par k n, who := fun a q => if a = k then 0 else t.who a q } ∧ Frm b w W2) := Hid.intro (by
          refine ⟨?_, by rw [← hW2]; exact Frm.setCells _ _ T2.out.2⟩
          rw [← hW2, ← HA.out]; exact T2.out.1.setSpace k hlt true n (mkF 21) (fun _ => 0) mkF_cw)
        clear hW2 st T2 hAs HA
        go_wp2_with fail
        go_ret2
        exact .inl ⟨k, hlt, HKH.out, HN.out, rfl, S2.out.1, S2.out.2⟩
      · have HKH := Hid.intro hkh
        rw [hkh] at c0
        clear hkh
        go_wp2_with fail
        go_roundw
        case rel => exact ⟨k + 1, by go_num, by omega, by first | rfl | trivial, fun j hj => by
          by_cases c : j = k
          · rw [c]; exact HKH.out
          · exact HN.out j (by omega)⟩
        case measure => simp [intOf]; omega
    · have hltI : ¬ (k : Int) < 6 := by omega
      go_wp2_with fail
      go_ret2
      exact .inr ⟨fun j hj => HN.out j (by omega), rfl, rfl⟩
theorem add_any (b : Nat) (z : Int) (t : T) (d : Nat → Nat) (w : World) (h : Tb true w b t) (hI : Sp.Inv t d) :
    Calls Tryz.prog 67 #[.pointer (some ⟨b, 0, none⟩), .int .i64 z] w fun e w' => e = .returned (.tuple #[.int .i64 (Sp.addN t z : Int), errV (Sp.addE t z)]) ∧ Tb true w' b (Sp.addT t z) ∧ Frm b w w' := by
  by_cases k : Sp.isE t z = 0
  · obtain ⟨n, rfl, hn, hh⟩ := Sp.isE_zero k
    by_cases hl : 4 ≤ (Sp.W t n).length
    · have e1 : Sp.addE t n = 7 := by unfold Sp.addE; rw [if_pos k, if_pos hl]
      have e2 : Sp.addN t n = 0 := by unfold Sp.addN; rw [e1]; rfl
      have e3 : Sp.addT t n = t := by unfold Sp.addT; rw [e1]; rfl
      refine (add_deep b n t d w h hI.tree hn hh hl).mono ?_
      rintro e w' ⟨rfl, rfl⟩
      rw [e1, e2, e3]; exact ⟨rfl, h, Frm.refl _ _⟩
    · refine (add_rest b n t d w h hI.tree hn hh (by omega)).mono ?_
      rintro e w' (⟨m, hm, hmh, hml, rfl, ht, hf⟩ | ⟨hall, rfl, rfl⟩)
      · have ef := Sp.freeS_at hm hmh hml
        have e1 : Sp.addE t n = 0 := by unfold Sp.addE; rw [if_pos k, if_neg hl, ef, if_neg (by omega)]
        have e2 : Sp.addN t n = m := by unfold Sp.addN; rw [e1, if_pos rfl, ef]
        rw [e1, e2]
        refine ⟨rfl, ?_, hf⟩
        unfold Sp.addT
        rw [e1, if_pos rfl, ef]
        refine ht.congr (cell_sort (fun a ha => by rw [cellT_here true _ a ha, cellT_here true _ a ha]) (fun a ha => by rw [cellT_par true _ a ha, cellT_par true _ a ha]) (fun a q ha hq => ?_) (fun y hy => by rw [cellT_of, cellT_of]))
        rw [cellT_who true _ a q ha hq, cellT_who true _ a q ha hq]
        by_cases c : a = m
        · subst c
          simp [hI.dead ha hq hmh]
        · simp [c]
      · have ef := Sp.freeS_no hall
        have e1 : Sp.addE t n = 4 := by unfold Sp.addE; rw [if_pos k, if_neg hl, ef, if_pos rfl]
        have e2 : Sp.addN t n = 0 := by unfold Sp.addN; rw [e1]; rfl
        have e3 : Sp.addT t n = t := by unfold Sp.addT; rw [e1]; rfl
        rw [e1, e2, e3]; exact ⟨rfl, h, Frm.refl _ _⟩
  · have e1 : Sp.addE t z = Sp.isE t z := by unfold Sp.addE; rw [if_neg k]
    have e2 : Sp.addN t z = 0 := by unfold Sp.addN; rw [e1, if_neg k]
    have e3 : Sp.addT t z = t := by unfold Sp.addT; rw [e1, if_neg k]
    refine (add_wrong b z t w h k).mono ?_
    rintro e w' ⟨rfl, rfl⟩
    rw [e1, e2, e3]; exact ⟨rfl, h, Frm.refl _ _⟩
set_option maxRecDepth 100000 in
set_option maxHeartbeats 400000 in
theorem drop_wrong (b : Nat) (z : Int) (t : T) (w : World) (h : Tb true w b t) (k : Sp.isE t z ≠ 0) :
    Calls Tryz.prog 83 #[.pointer (some ⟨b, 0, none⟩), .int .i64 z] w fun e w' => e = .returned (errV (Sp.isE t z)) ∧ w' = w := by
  have HF := Hid.intro h
  have HW := Hid.intro k
  clear h k
  go_enter Tryz.func83, Tryz.ntmps83
  go_wp2_with fail
  refine (spwrong_any b z t _ HF.out).mono ?_
  rintro e w1 ⟨rfl, hw⟩
  subst w1
  rw [errV_ne HW.out]
  go_wp2
  go_ret
  rw [errV_ne HW.out]; exact ⟨rfl, rfl⟩
set_option maxRecDepth 100000 in
set_option maxHeartbeats 400000 in
theorem drop_root (b : Nat) (t : T) (w : World) (h : Tb true w b t) (k : Sp.isE t 0 = 0) :
    Calls Tryz.prog 83 #[.pointer (some ⟨b, 0, none⟩), .int .i64 0] w fun e w' => e = .returned (errV 5) ∧ w' = w := by
  have HF := Hid.intro h
  have HK := Hid.intro k
  clear h k
  go_enter Tryz.func83, Tryz.ntmps83
  go_wp2_with fail
  refine (spwrong_any b 0 t _ HF.out).mono ?_
  rintro e w1 ⟨rfl, hw⟩
  subst w1
  rw [HK.out, errV_zero]
  go_wp2
  go_ret
  exact ⟨rfl, rfl⟩
set_option maxRecDepth 100000 in
set_option maxHeartbeats 1000000 in
theorem drop_rest (b n : Nat) (t : T) (w : World) (h : Tb true w b t) (n0 : n ≠ 0) (hn : n < 6) (hh : t.here n = true) :
    Calls Tryz.prog 83 #[.pointer (some ⟨b, 0, none⟩), .int .i64 n] w fun e w' =>
      ((Sp.memb t n ≠ [] ∨ Sp.kids t n = true) ∧ e = .returned (errV 5) ∧ Below w.heap.size w w') ∨ (Sp.memb t n = [] ∧ Sp.kids t n = false ∧ e = .returned (errV 0) ∧ Tb true w' b { t with here := Sp.upB t.here n false, par := Sp.upI t.par n 0, who := fun a q => if a = n then 0 else t.who a q } ∧ Frm b w w') := by
  have HF := Hid.intro h
  have HH := Hid.intro hh
  have HK := Hid.intro (Sp.isE_nat hn hh)
  have nz : ((n : Int) == 0) = false := by simp; omega
  have hnI : (n : Int) < 6 := by omega
  have hs0 : Hid ((Tryz.prog.info? 143).map (·.size) = some (spA false 0 (mkF 0)).size) := Hid.intro (by rw [spA_size]; kernel_rfl)
  clear h hh
  go_enter Tryz.func83, Tryz.ntmps83
  go_wp2_with fail
  refine (spwrong_any b n t _ HF.out).mono ?_
  rintro e w1 ⟨rfl, hw⟩
  subst w1
  rw [HK.out, errV_zero]
  go_wp2_with fail
  refine (members_any b n t _ HF.out hn HH.out).mono ?_
  rintro e w1 ⟨v, rfl, hL⟩
  obtain ⟨a, cap, hv⟩ := own_form hL.own
  subst hv
  have B1 := Hid.intro hL.bel
  clear hL
  by_cases c : Sp.memb t n = []
  · have HC := Hid.intro c
    rw [c]
    clear c
    go_wp2_with fail
    refine (above_any b n t _ (HF.out.below B1.out)).mono ?_
    rintro e w2 ⟨rfl, hb2⟩
    have B2 := Hid.intro (B1.out.trans (hb2.mono B1.out.size))
    clear hb2
    cases hkd : Sp.kids t n
    · have HKD := Hid.intro hkd
      have T2 := Hid.intro (HF.out.below B2.out)
      have S2 : Hid (Tb true (w2.setCells b (n * 23) (spA false 0 (mkF 0)).toList) b { t with here := Sp.upB t.here n false, par := Sp.upI t.par n 0, who := fun a q => if a = n then 0 else t.who a q } ∧ Frm b w (w2.setCells b (n * 23) (spA false 0 (mkF 0)).toList)) := Hid.intro ⟨T2.out.setSpace n hn false 0 (mkF 0) (fun _ => 0) (fun q hq => by unfold mkF; rw [if_neg (by omega)]; rfl), Frm.setCells _ _ (Frm.of_below B2.out)⟩
      clear hkd
      go_wp2_with (first | (refine wpList_build_sp0 rfl rfl ?_) | (refine wpList_store_mid rfl 143 _ _ rfl b (n * 23) (spA false 0 (mkF 0)) rfl rfl (T2.out.there n hn _ (spA_size _ _ _)) hs0.out (spA_one _ _ _) ?_; generalize hW : World.setCells _ _ _ _ = W2; have S3 : Hid (Tb true W2 b { t with here := Sp.upB t.here n false, par := Sp.upI t.par n 0, who := fun a q => if a = n then 0 else t.who a q } ∧ Frm b w W2) := Hid.intro (by rw [← hW]; exact S2.out); clear hW S2 T2))
      go_ret
      exact .inr ⟨HC.out, HKD.out, rfl, S3.out.1, S3.out.2⟩
    · have HKD := Hid.intro hkd
      clear hkd
      go_wp2_with fail
      go_ret
      exact .inl ⟨.inr HKD.out, rfl, B2.out⟩
  · have HC := Hid.intro c
    have hlen : 0 < (Sp.memb t n).length := List.length_pos_iff.2 c
    generalize (Sp.memb t n).length = L at *
    have hlI : (0 : Int) < (L : Int) := by omega
    clear c hlen
    go_wp2_with fail
    go_ret
    exact .inl ⟨.inl HC.out, rfl, B1.out⟩
theorem drop_any (b : Nat) (z : Int) (t : T) (w : World) (h : Tb true w b t) :
    Calls Tryz.prog 83 #[.pointer (some ⟨b, 0, none⟩), .int .i64 z] w fun e w' => e = .returned (errV (Sp.dropE t z)) ∧ Tb true w' b (Sp.dropT t z) ∧ Frm b w w' := by
  by_cases k : Sp.isE t z = 0
  · obtain ⟨n, rfl, hn, hh⟩ := Sp.isE_zero k
    by_cases n0 : n = 0
    · subst n0
      have e1 : Sp.dropE t ((0 : Nat) : Int) = 5 := by unfold Sp.dropE; rw [if_pos k, if_pos (.inl rfl)]
      have e3 : Sp.dropT t ((0 : Nat) : Int) = t := by unfold Sp.dropT; rw [e1]; rfl
      refine (drop_root b t w h k).mono ?_
      rintro e w' ⟨rfl, rfl⟩
      rw [e1, e3]; exact ⟨rfl, h, Frm.refl _ _⟩
    · refine (drop_rest b n t w h n0 hn hh).mono ?_
      rintro e w' (⟨hc, rfl, hb⟩ | ⟨hm, hk, rfl, ht, hf⟩)
      · have e1 : Sp.dropE t n = 5 := by unfold Sp.dropE; rw [if_pos k, Int.toNat_natCast, if_pos (.inr hc)]
        have e3 : Sp.dropT t n = t := by unfold Sp.dropT; rw [e1]; rfl
        rw [e1, e3]; exact ⟨rfl, h.below hb, Frm.of_below hb⟩
      · have e1 : Sp.dropE t n = 0 := by
          unfold Sp.dropE; rw [if_pos k, Int.toNat_natCast, if_neg]
          rintro (c | c | c)
          · omega
          · exact c hm
          · rw [hk] at c; cases c
        rw [e1]
        refine ⟨rfl, ?_, hf⟩
        unfold Sp.dropT
        rw [e1, if_pos rfl, Int.toNat_natCast]
        refine ht.congr (cell_sort (fun a ha => by rw [cellT_here true _ a ha, cellT_here true _ a ha]) (fun a ha => by rw [cellT_par true _ a ha, cellT_par true _ a ha]) (fun a q ha hq => ?_) (fun y hy => by rw [cellT_of, cellT_of]))
        rw [cellT_who true _ a q ha hq, cellT_who true _ a q ha hq]
        by_cases c : a = n
        · subst c
          simp [Sp.memb_nil hm q hq]
        · simp [c]
  · have e1 : Sp.dropE t z = Sp.isE t z := by unfold Sp.dropE; rw [if_neg k]
    have e3 : Sp.dropT t z = t := by unfold Sp.dropT; rw [e1, if_neg k]
    refine (drop_wrong b z t w h k).mono ?_
    rintro e w' ⟨rfl, rfl⟩
    rw [e1, e3]; exact ⟨rfl, h, Frm.refl _ _⟩
end Go.Proofs.YtghogbngmcolmaaGreat
namespace Go.Proofs.YtghogbngmcolmaaGreat
open Go.RowKit
open Sp (T)
namespace Sp
theorem low_same {t t' : T} {n : Nat} (h : ∀ p, t'.who n p = t.who n p) : low t' n = low t n := by
  unfold low
  have : lowP t' n = lowP t n := by funext p; unfold lowP; rw [h]
  rw [this]
theorem pidOf_same {t t' : T} {n x : Nat} (h : ∀ p, t'.who n p = t.who n p) : pidOf t' n x = pidOf t n x := by
  unfold pidOf
  have : isP t' n x = isP t n x := by funext p; unfold isP; rw [h]
  rw [this]
theorem Inv.pid {t : T} {d : Nat → Nat} (h : Inv t d) {n x : Nat} (hn : n < 6) (he : ∃ p, p < 21 ∧ t.who n p = x + 1) : pidOf t n x ≠ 0 ∧ pidOf t n x < 21 ∧ t.who n (pidOf t n x) = x + 1 := by
  obtain ⟨p, hp, e⟩ := he
  unfold pidOf
  cases hf : (List.range 21).find? (isP t n x) with
  | none =>
    have := List.find?_eq_none.1 hf p (by simpa using hp)
    exact absurd (by unfold isP; simp [e]) this
  | some k =>
    have := find_lt hf
    have hk : t.who n k = x + 1 := by have := this.2.1; unfold isP at this; simpa using this
    refine ⟨fun c => ?_, this.1, hk⟩
    have c' : k = 0 := c
    rw [c', h.who0 n hn] at hk
    omega
def inT (t : T) (L : List Nat) (n y : Nat) : T := { putT t L y with of := upN t.of y (n + 1) }
def outT (t : T) (L : List Nat) (y : Nat) : T := { cutT t L y with of := upN t.of y 0 }
end Sp
section
variable {w : World} {b : Nat} {t : T}
theorem inT_start {n y : Nat} (h : Tb true w b t) (hy : y < 20) : Tb true (w.setCell ⟨b, 138 + y, none⟩ (.int .i64 (n : Int))) b (Sp.inT t [] n y) := by
  have := h.setOf y (n + 1) hy
  rw [show co true (n + 1) = (n : Int) by unfold co; simp] at this
  exact this.congr (cell_sort (fun m hm => by rw [cellT_here true _ m hm, cellT_here true _ m hm]; rfl) (fun m hm => by rw [cellT_par true _ m hm, cellT_par true _ m hm]; rfl) (fun m q hm hq => by rw [cellT_who true _ m q hm hq, cellT_who true _ m q hm hq]; simp [Sp.inT, Sp.putT]) (fun z hz => by rw [cellT_of, cellT_of]; rfl))
theorem inT_up {L : List Nat} {n y m : Nat} (h : Tb true w b (Sp.inT t L n y)) (hm : m < 6) (hh : t.here m = true) (hp : Sp.low t m < 21) : Tb true (w.setCell ⟨b, m * 23 + 2 + Sp.low t m, none⟩ (.int .i64 (y : Int))) b (Sp.inT t (L ++ [m]) n y) := by
  have := h.setWho m (Sp.low t m) (y + 1) hm hp
  rw [show cw true ((Sp.inT t L n y).here m) (y + 1) = (y : Int) by rw [show (Sp.inT t L n y).here m = t.here m from rfl, hh]; unfold cw; simp] at this
  refine this.congr (cell_sort (fun a ha => by rw [cellT_here true _ a ha, cellT_here true _ a ha]; rfl) (fun a ha => by rw [cellT_par true _ a ha, cellT_par true _ a ha]; rfl) (fun a q ha hq => ?_) (fun z hz => by rw [cellT_of, cellT_of]; rfl))
  rw [cellT_who true _ a q ha hq, cellT_who true _ a q ha hq]
  have e : (Sp.inT t (L ++ [m]) n y).who a q = (upW (Sp.inT t L n y) m (Sp.low t m) (y + 1)).who a q := by
    show (if a ∈ L ++ [m] ∧ q = Sp.low t a then y + 1 else t.who a q) = if a = m ∧ q = Sp.low t m then y + 1 else (if a ∈ L ∧ q = Sp.low t a then y + 1 else t.who a q)
    by_cases c : a = m
    · subst c
      by_cases c2 : q = Sp.low t a
      · rw [if_pos ⟨by simp, c2⟩, if_pos ⟨rfl, c2⟩]
      · rw [if_neg (fun k => c2 k.2), if_neg (fun k => c2 k.2), if_neg (fun k => c2 k.2)]
    · rw [if_neg (show ¬ (a = m ∧ q = Sp.low t m) from fun k => c k.1)]
      have : (a ∈ L ++ [m]) ↔ a ∈ L := by simp [c]
      simp only [this]
  rw [e]; rfl
theorem outT_start {y : Nat} (h : Tb true w b t) (hy : y < 20) : Tb true (w.setCell ⟨b, 138 + y, none⟩ (.int .i64 (-1))) b (Sp.outT t [] y) := by
  have := h.setOf y 0 hy
  exact this.congr (cell_sort (fun m hm => by rw [cellT_here true _ m hm, cellT_here true _ m hm]; rfl) (fun m hm => by rw [cellT_par true _ m hm, cellT_par true _ m hm]; rfl) (fun m q hm hq => by rw [cellT_who true _ m q hm hq, cellT_who true _ m q hm hq]; simp [Sp.outT, Sp.cutT]) (fun z hz => by rw [cellT_of, cellT_of]; rfl))
theorem outT_up {L : List Nat} {y m p : Nat} (h : Tb true w b (Sp.outT t L y)) (hm : m < 6) (hh : t.here m = true) (hp : p < 21) (e1 : t.who m p = y + 1) (e2 : ∀ q, q < 21 → t.who m q = y + 1 → q = p) : Tb true (w.setCell ⟨b, m * 23 + 2 + p, none⟩ (.int .i64 (-1))) b (Sp.outT t (L ++ [m]) y) := by
  have := h.setWho m p 0 hm hp
  rw [show cw true ((Sp.outT t L y).here m) 0 = -1 by rw [show (Sp.outT t L y).here m = t.here m from rfl, hh]; rfl] at this
  refine this.congr (cell_sort (fun a ha => by rw [cellT_here true _ a ha, cellT_here true _ a ha]; rfl) (fun a ha => by rw [cellT_par true _ a ha, cellT_par true _ a ha]; rfl) (fun a q ha hq => ?_) (fun z hz => by rw [cellT_of, cellT_of]; rfl))
  rw [cellT_who true _ a q ha hq, cellT_who true _ a q ha hq]
  have e : (Sp.outT t (L ++ [m]) y).who a q = (upW (Sp.outT t L y) m p 0).who a q := by
    show (if a ∈ L ++ [m] ∧ t.who a q = y + 1 then 0 else t.who a q) = if a = m ∧ q = p then 0 else (if a ∈ L ∧ t.who a q = y + 1 then 0 else t.who a q)
    by_cases c : a = m
    · subst c
      by_cases c2 : q = p
      · rw [if_pos ⟨by simp, by rw [c2]; exact e1⟩, if_pos ⟨rfl, c2⟩]
      · have c3 : t.who a q ≠ y + 1 := fun k => c2 (e2 q hq k)
        rw [if_neg (fun k => c3 k.2), if_neg (fun k => c2 k.2), if_neg (fun k => c3 k.2)]
    · rw [if_neg (show ¬ (a = m ∧ q = p) from fun k => c k.1)]
      have : (a ∈ L ++ [m]) ↔ a ∈ L := by simp [c]
      simp only [this]
  rw [e]; rfl
end
set_option maxRecDepth 100000 in
set_option maxHeartbeats 400000 in
theorem enter_wrong (b : Nat) (z x : Int) (t : T) (w : World) (h : Tb true w b t) (k : Sp.pairE t z x ≠ 0) :
    Calls Tryz.prog 69 #[.pointer (some ⟨b, 0, none⟩), .int .i64 z, .int .i64 x] w fun e w' => e = .returned (.tuple #[.int .i64 0, errV (Sp.pairE t z x)]) ∧ w' = w := by
  have HF := Hid.intro h
  have HW := Hid.intro k
  clear h k
  go_enter Tryz.func69, Tryz.ntmps69
  go_wp2_with fail
  refine (wrongPair_any b z x t _ HF.out).mono ?_
  rintro e w1 ⟨rfl, hw⟩
  subst w1
  rw [errV_ne HW.out]
  go_wp2
  go_ret2
  rw [errV_ne HW.out]; exact ⟨rfl, rfl⟩
set_option maxRecDepth 100000 in
set_option maxHeartbeats 400000 in
theorem enter_exist (b n y : Nat) (t : T) (w : World) (h : Tb true w b t) (k : Sp.pairE t n y = 0) (hy : y < 20) (ho : t.of y ≠ 0) :
    Calls Tryz.prog 69 #[.pointer (some ⟨b, 0, none⟩), .int .i64 n, .int .i64 y] w fun e w' => e = .returned (.tuple #[.int .i64 0, errV 3]) ∧ w' = w := by
  have HF := Hid.intro h
  have HK := Hid.intro k
  have c := h.ofC y hy
  have hyI : (y : Int) < 20 := by omega
  obtain ⟨v, hv⟩ : ∃ v, (t.of y : Int) - 1 = v := ⟨_, rfl⟩
  have v0 : (v == -1) = false := by simp; omega
  rw [hv] at c
  clear h k hv ho
  go_enter Tryz.func69, Tryz.ntmps69
  go_wp2_with fail
  refine (wrongPair_any b n y t _ HF.out).mono ?_
  rintro e w1 ⟨rfl, hw⟩
  subst w1
  rw [HK.out, errV_zero]
  go_wp2
  go_ret2
  exact ⟨rfl, rfl⟩
set_option maxRecDepth 100000 in
set_option maxHeartbeats 1000000 in
theorem enter_ok (b n y : Nat) (t : T) (d : Nat → Nat) (w : World) (h : Tb true w b t) (hI : Sp.Inv t d) (k : Sp.pairE t n y = 0) (hn : n < 6) (hh : t.here n = true) (hy : y < 20) (ho : t.of y = 0) :
    Calls Tryz.prog 69 #[.pointer (some ⟨b, 0, none⟩), .int .i64 n, .int .i64 y] w fun e w' => e = .returned (.tuple #[.int .i64 (pidI (Sp.inT t (Sp.W t n) n y) n y), errV 0]) ∧ Tb true w' b (Sp.inT t (Sp.W t n) n y) ∧ Frm b w w' := by
  have HF := Hid.intro h
  have HI := Hid.intro hI
  have HK := Hid.intro k
  have HH := Hid.intro (And.intro hh ho)
  have c := h.ofC y hy
  rw [ho] at c
  have c' : w.cell? ⟨b, 138 + y, none⟩ = some (.int .i64 (-1)) := c
  have cf := h.frozen
  have hyI : (y : Int) < 20 := by omega
  have hnI : (n : Int) < 6 := by omega
  have S0 : Hid (Tb true (w.setCell ⟨b, 138 + y, none⟩ (.int .i64 (n : Int))) b (Sp.inT t [] n y) ∧ Frm b w (w.setCell ⟨b, 138 + y, none⟩ (.int .i64 (n : Int)))) := Hid.intro ⟨inT_start h hy, (Frm.refl b w).setCell _ _⟩
  clear h hI k hh ho c
  go_enter Tryz.func69, Tryz.ntmps69
  go_wp2_with fail
  refine (wrongPair_any b n y t _ HF.out).mono ?_
  rintro e w1 ⟨rfl, hw⟩
  subst w1
  rw [HK.out, errV_zero]
  go_wp2_with fail
  refine wp_gen (fun W => Tb true W b (Sp.inT t [] n y) ∧ Frm b w W) S0.out ?_
  rintro W1 ⟨h1, f1⟩
  have S1 := Hid.intro (And.intro h1 f1)
  clear h1 f1 S0 c' cf
  go_loopw [9] (fun i wr => ∃ (z : Int) (L : List Nat), i = .int .i64 z ∧ Hid (Tb true wr b (Sp.inT t L n y) ∧ Frm b w wr ∧ L ++ Sp.W t z = Sp.W t n ∧ (z = -1 ∨ ∃ m : Nat, z = m ∧ m < 6 ∧ t.here m = true))) (fun i _ => (Sp.W t (intOf i)).length)
  case atStart => exact ⟨n, [], rfl, S1.out.1, S1.out.2, rfl, .inr ⟨n, rfl, hn, HH.out.1⟩⟩
  case round =>
    clear S1
    obtain ⟨z, L, rfl, S⟩ := hrel
    rcases S.out.2.2.2 with rfl | ⟨m, rfl, hm, hmh⟩
    · have HE : Hid (L = Sp.W t n) := Hid.intro (by have := S.out.2.2.1; rw [Sp.W_neg t (-1) (by omega), List.append_nil] at this; exact this)
      have S2 : Hid (Tb true wr b (Sp.inT t (Sp.W t n) n y) ∧ Frm b w wr) := Hid.intro (by rw [← HE.out]; exact ⟨S.out.1, S.out.2.1⟩)
      clear S HE
      have h0 : Hid ((Sp.inT t (Sp.W t n) n y).who n 0 = 0) := Hid.intro (by
        show (if n ∈ Sp.W t n ∧ 0 = Sp.low t n then y + 1 else t.who n 0) = 0
        have := (HI.out.low hy HH.out.2 hn).1
        rw [if_neg (fun c => by omega)]; exact HI.out.who0 n hn)
      go_wp2_with fail
      refine (pid_any b n y _ _ S2.out.1 hn HH.out.1 h0.out).mono ?_
      rintro e w1 ⟨rfl, hw⟩
      subst w1
      go_wp2_with fail
      go_ret2
      exact ⟨rfl, S2.out⟩
    · have HMH := Hid.intro hmh
      have ST := Hid.intro (HI.out.tree.step hm hmh)
      have PC := Hid.intro (HI.out.tree.par_cases hm hmh)
      have LW := Hid.intro (HI.out.low hy HH.out.2 hm)
      have hmI : (m : Int) < 6 := by omega
      have hne := neg1_ne m
      have NM : Hid (m ∉ L) := Hid.intro (fun c => by
        have nd := HI.out.tree.nodup hn HH.out.1
        rw [← S.out.2.2.1, ST.out] at nd
        exact (List.nodup_append.1 nd).2.2 m c m (by simp) rfl)
      have SW : Hid (∀ p, (Sp.inT t L n y).who m p = t.who m p) := Hid.intro (fun p => by
        show (if m ∈ L ∧ p = Sp.low t m then y + 1 else t.who m p) = t.who m p
        rw [if_neg (fun c => NM.out c.1)])
      clear hmh
      go_wp2_with fail
      obtain ⟨l, hl⟩ : ∃ l, Sp.low t m = l := ⟨_, rfl⟩
      have HL := Hid.intro hl
      have hl21 : (l : Int) < 21 := by have := LW.out.2.1; omega
      clear hl
      go_region_held3 (fun _ => True) (trivial) ((go_at_call 117; refine (free_any b m _ _ S.out.1.drew hm HMH.out ⟨Sp.low t m, LW.out.1, LW.out.2.1, by rw [SW.out]; exact LW.out.2.2.1⟩).mono ?_; rintro e w2 ⟨rfl, hw2⟩; rw [Sp.low_same SW.out, HL.out]; subst hw2; have q1 := S.out.1.drew.cWho m l hm (by have := LW.out.2.1; rw [HL.out] at this; exact this); have qf := S.out.1.drew.frozen))
      clear q1 qf
      generalize hW2 : World.drew _ = W2
      have S2 : Hid (Tb true W2 b (Sp.inT t (L ++ [m]) n y) ∧ Frm b w W2) := Hid.intro (by
        rw [← hW2, ← HL.out]
        exact ⟨(inT_up S.out.1 hm HMH.out LW.out.2.1).drew, (S.out.2.1.setCell _ _).drew⟩)
      have c1 : W2.cell? ⟨b, m * 23 + 1, none⟩ = some (.int .i64 (t.par m)) := S2.out.1.cPar m hm
      clear hW2
      go_wp2_with fail
      go_roundw
      case rel =>
        refine ⟨t.par m, L ++ [m], by first | rfl | trivial, S2.out.1, S2.out.2, ?_, ?_⟩
        · have := S.out.2.2.1
          rw [ST.out] at this
          rw [← this]; simp
        · rcases PC.out with ⟨_, e, _⟩ | ⟨p, p1, p2, p3, _⟩
          · exact .inl e
          · exact .inr ⟨p, p2, p1, p3⟩
      case measure =>
        simp only [intOf]
        rw [ST.out, List.length_cons]
        omega
theorem enter_any (b : Nat) (z x : Int) (t : T) (d : Nat → Nat) (w : World) (h : Tb true w b t) (hI : Sp.Inv t d) :
    Calls Tryz.prog 69 #[.pointer (some ⟨b, 0, none⟩), .int .i64 z, .int .i64 x] w fun e w' => e = .returned (.tuple #[.int .i64 (Sp.entN t z x : Int), errV (Sp.entE t z x)]) ∧ Tb true w' b (Sp.entT t z x) ∧ Frm b w w' := by
  by_cases k : Sp.pairE t z x = 0
  · obtain ⟨n, y, rfl, rfl, hn, hy, hh⟩ := Sp.pairE_zero k
    by_cases ho : t.of y = 0
    · have e1 : Sp.entE t n y = 0 := by unfold Sp.entE; rw [if_pos k, Int.toNat_natCast, if_pos ho]
      have e3 : Sp.entT t n y = Sp.inT t (Sp.W t n) n y := by unfold Sp.entT; rw [e1, if_pos rfl, Int.toNat_natCast, Int.toNat_natCast]; rfl
      have e2 : Sp.entN t n y = Sp.pidOf (Sp.inT t (Sp.W t n) n y) n y := by unfold Sp.entN; rw [e1, if_pos rfl, e3, Int.toNat_natCast, Int.toNat_natCast]
      have i2 := hI.enter n y
      rw [e3] at i2
      have hp := i2.pid (n := n) (x := y) hn ⟨Sp.low t n, (hI.low hy ho hn).2.1, by
        show (if n ∈ Sp.W t n ∧ Sp.low t n = Sp.low t n then y + 1 else t.who n (Sp.low t n)) = y + 1
        rw [if_pos ⟨by rw [hI.tree.step hn hh]; simp, rfl⟩]⟩
      refine (enter_ok b n y t d w h hI k hn hh hy ho).mono ?_
      rintro e w' ⟨rfl, h1, h2⟩
      rw [e1, e2, e3]
      refine ⟨?_, h1, h2⟩
      unfold pidI; rw [if_neg hp.1]
    · have e1 : Sp.entE t n y = 3 := by unfold Sp.entE; rw [if_pos k, Int.toNat_natCast, if_neg ho]
      have e3 : Sp.entT t n y = t := by unfold Sp.entT; rw [e1]; rfl
      have e2 : Sp.entN t n y = 0 := by unfold Sp.entN; rw [e1]; rfl
      refine (enter_exist b n y t w h k hy ho).mono ?_
      rintro e w' ⟨rfl, rfl⟩
      rw [e1, e2, e3]; exact ⟨rfl, h, Frm.refl _ _⟩
  · have e1 : Sp.entE t z x = Sp.pairE t z x := by unfold Sp.entE; rw [if_neg k]
    have e3 : Sp.entT t z x = t := by unfold Sp.entT; rw [e1, if_neg k]
    have e2 : Sp.entN t z x = 0 := by unfold Sp.entN; rw [e1, if_neg k]
    refine (enter_wrong b z x t w h k).mono ?_
    rintro e w' ⟨rfl, rfl⟩
    rw [e1, e2, e3]; exact ⟨rfl, h, Frm.refl _ _⟩
set_option maxRecDepth 100000 in
set_option maxHeartbeats 400000 in
theorem leave_wrong (b : Nat) (x : Int) (t : T) (w : World) (h : Tb true w b t) (k : Sp.inE t x ≠ 0) :
    Calls Tryz.prog 82 #[.pointer (some ⟨b, 0, none⟩), .int .i64 x] w fun e w' => e = .returned (errV (Sp.inE t x)) ∧ w' = w := by
  have HF := Hid.intro h
  have HW := Hid.intro k
  clear h k
  go_enter Tryz.func82, Tryz.ntmps82
  go_wp2_with fail
  refine (of_any b x t _ HF.out).mono ?_
  rintro e w1 ⟨rfl, hw⟩
  subst w1
  rw [errV_ne HW.out]
  go_wp2
  go_ret
  rw [errV_ne HW.out]; exact ⟨rfl, rfl⟩
set_option maxRecDepth 100000 in
set_option maxHeartbeats 1000000 in
theorem leave_ok (b n y : Nat) (t : T) (d : Nat → Nat) (w : World) (h : Tb true w b t) (hI : Sp.Inv t d) (k : Sp.inE t y = 0) (hk : Sp.inN t y = n) (hn : n < 6) (hh : t.here n = true) (hy : y < 20) (ho : t.of y = n + 1) :
    Calls Tryz.prog 82 #[.pointer (some ⟨b, 0, none⟩), .int .i64 y] w fun e w' => e = .returned (errV 0) ∧ Tb true w' b (Sp.outT t (Sp.W t n) y) ∧ Frm b w w' := by
  have HF := Hid.intro h
  have HI := Hid.intro hI
  have HK := Hid.intro (And.intro k hk)
  have HH := Hid.intro (And.intro hh ho)
  have c := h.ofC y hy
  have cf := h.frozen
  have hyI : (y : Int) < 20 := by omega
  have hnI : (n : Int) < 6 := by omega
  have S0 : Hid (Tb true (w.setCell ⟨b, 138 + y, none⟩ (.int .i64 (-1))) b (Sp.outT t [] y) ∧ Frm b w (w.setCell ⟨b, 138 + y, none⟩ (.int .i64 (-1)))) := Hid.intro ⟨outT_start h hy, (Frm.refl b w).setCell _ _⟩
  clear h hI k hk hh ho
  go_enter Tryz.func82, Tryz.ntmps82
  go_wp2_with fail
  refine (of_any b y t _ HF.out).mono ?_
  rintro e w1 ⟨rfl, hw⟩
  subst w1
  rw [HK.out.1, HK.out.2, errV_zero]
  go_wp2_with fail
  refine wp_gen (fun W => Tb true W b (Sp.outT t [] y) ∧ Frm b w W) S0.out ?_
  rintro W1 ⟨h1, f1⟩
  have S1 := Hid.intro (And.intro h1 f1)
  clear h1 f1 S0 c cf
  go_loopw [7] (fun i wr => ∃ (z : Int) (L : List Nat), i = .int .i64 z ∧ Hid (Tb true wr b (Sp.outT t L y) ∧ Frm b w wr ∧ L ++ Sp.W t z = Sp.W t n ∧ (z = -1 ∨ ∃ m : Nat, z = m ∧ m < 6 ∧ t.here m = true))) (fun i _ => (Sp.W t (intOf i)).length)
  case atStart => exact ⟨n, [], rfl, S1.out.1, S1.out.2, rfl, .inr ⟨n, rfl, hn, HH.out.1⟩⟩
  case round =>
    clear S1
    obtain ⟨z, L, rfl, S⟩ := hrel
    rcases S.out.2.2.2 with rfl | ⟨m, rfl, hm, hmh⟩
    · have HE : Hid (L = Sp.W t n) := Hid.intro (by have := S.out.2.2.1; rw [Sp.W_neg t (-1) (by omega), List.append_nil] at this; exact this)
      have S2 : Hid (Tb true wr b (Sp.outT t (Sp.W t n) y) ∧ Frm b w wr) := Hid.intro (by rw [← HE.out]; exact ⟨S.out.1, S.out.2.1⟩)
      clear S HE
      go_wp2_with fail
      go_ret
      exact ⟨rfl, S2.out⟩
    · have HMH := Hid.intro hmh
      have ST := Hid.intro (HI.out.tree.step hm hmh)
      have PC := Hid.intro (HI.out.tree.par_cases hm hmh)
      have MW : Hid (m ∈ Sp.W t n) := Hid.intro (by rw [← S.out.2.2.1, ST.out]; simp)
      have LW := Hid.intro (HI.out.pid (x := y) hm ((HI.out.has m y hm hy).2 ⟨by rw [HH.out.2]; omega, by rw [HH.out.2, Nat.add_sub_cancel]; exact MW.out⟩))
      have hmI : (m : Int) < 6 := by omega
      have hne := neg1_ne m
      have NM : Hid (m ∉ L) := Hid.intro (fun c => by
        have nd := HI.out.tree.nodup hn HH.out.1
        rw [← S.out.2.2.1, ST.out] at nd
        exact (List.nodup_append.1 nd).2.2 m c m (by simp) rfl)
      have SW : Hid (∀ p, (Sp.outT t L y).who m p = t.who m p) := Hid.intro (fun p => by
        show (if m ∈ L ∧ t.who m p = y + 1 then 0 else t.who m p) = t.who m p
        rw [if_neg (fun c => NM.out c.1)])
      clear hmh
      go_wp2_with fail
      obtain ⟨l, hl⟩ : ∃ l, Sp.pidOf t m y = l := ⟨_, rfl⟩
      have HL := Hid.intro hl
      have hl21 : (l : Int) < 21 := by have := LW.out.2.1; omega
      clear hl
      go_region_held3 (fun _ => True) (trivial) ((go_at_call 118; refine (pid_any b m y _ _ S.out.1.drew hm HMH.out (by rw [SW.out]; exact HI.out.who0 m hm)).mono ?_; rintro e w2 ⟨rfl, hw2⟩; have hpi : pidI (Sp.outT t L y) m y = (l : Int) := (by unfold pidI; rw [Sp.pidOf_same SW.out, HL.out, if_neg (by have := LW.out.1; rw [HL.out] at this; exact this)]); rw [hpi]; subst hw2; have q1 := S.out.1.drew.cWho m l hm (by have := LW.out.2.1; rw [HL.out] at this; exact this); have qf := S.out.1.drew.frozen; clear hpi))
      clear q1 qf
      generalize hW2 : World.drew _ = W2
      have S2 : Hid (Tb true W2 b (Sp.outT t (L ++ [m]) y) ∧ Frm b w W2) := Hid.intro (by
        have lw := LW.out
        rw [HL.out] at lw
        rw [← hW2]
        exact ⟨(outT_up S.out.1 hm HMH.out lw.2.1 lw.2.2 (fun q hq e => HI.out.one m q l hm hq lw.2.1 (by rw [e, lw.2.2]) (by rw [e]; omega))).drew, (S.out.2.1.setCell _ _).drew⟩)
      have c1 : W2.cell? ⟨b, m * 23 + 1, none⟩ = some (.int .i64 (t.par m)) := S2.out.1.cPar m hm
      clear hW2
      go_wp2_with fail
      go_roundw
      case rel =>
        refine ⟨t.par m, L ++ [m], by first | rfl | trivial, S2.out.1, S2.out.2, ?_, ?_⟩
        · have := S.out.2.2.1
          rw [ST.out] at this
          rw [← this]; simp
        · rcases PC.out with ⟨_, e, _⟩ | ⟨p, p1, p2, p3, _⟩
          · exact .inl e
          · exact .inr ⟨p, p2, p1, p3⟩
      case measure =>
        simp only [intOf]
        rw [ST.out, List.length_cons]
        omega
theorem leave_any (b : Nat) (x : Int) (t : T) (d : Nat → Nat) (w : World) (h : Tb true w b t) (hI : Sp.Inv t d) :
    Calls Tryz.prog 82 #[.pointer (some ⟨b, 0, none⟩), .int .i64 x] w fun e w' => e = .returned (errV (Sp.inE t x)) ∧ Tb true w' b (Sp.leaT t x) ∧ Frm b w w' := by
  by_cases k : Sp.inE t x = 0
  · obtain ⟨y, rfl, hy, ho⟩ := Sp.inE_zero k
    have o := hI.ofs y hy ho
    have e2 : Sp.inN t y = t.of y - 1 := by unfold Sp.inN; rw [if_pos k, Int.toNat_natCast]
    refine (leave_ok b (t.of y - 1) y t d w h hI k e2 (by omega) o.2 hy (by omega)).mono ?_
    rintro e w' ⟨rfl, h1, h2⟩
    rw [k]
    refine ⟨rfl, ?_, h2⟩
    unfold Sp.leaT
    rw [k, if_pos rfl, Int.toNat_natCast]
    refine h1.congr (cell_sort (fun a ha => by rw [cellT_here true _ a ha, cellT_here true _ a ha]; rfl) (fun a ha => by rw [cellT_par true _ a ha, cellT_par true _ a ha]; rfl) (fun a q ha hq => ?_) (fun z hz => by rw [cellT_of, cellT_of]; rfl))
    rw [cellT_who true _ a q ha hq, cellT_who true _ a q ha hq]
    have e : (if a ∈ List.range 6 ∧ t.who a q = y + 1 then 0 else t.who a q) = (if a ∈ Sp.W t ((t.of y - 1 : Nat) : Int) ∧ t.who a q = y + 1 then 0 else t.who a q) := by
      by_cases c : t.who a q = y + 1
      · rw [if_pos ⟨by simpa using ha, c⟩, if_pos ⟨((hI.has a y ha hy).1 ⟨q, hq, c⟩).2, c⟩]
      · rw [if_neg (fun k => c k.2), if_neg (fun k => c k.2)]
    show Value.int .i64 (cw true (t.here a) (if a ∈ List.range 6 ∧ t.who a q = y + 1 then 0 else t.who a q)) = Value.int .i64 (cw true (t.here a) (if a ∈ Sp.W t ((t.of y - 1 : Nat) : Int) ∧ t.who a q = y + 1 then 0 else t.who a q))
    rw [e]
  · have e3 : Sp.leaT t x = t := by unfold Sp.leaT; rw [if_neg k]
    refine (leave_wrong b x t w h k).mono ?_
    rintro e w' ⟨rfl, rfl⟩
    rw [e3]; exact ⟨rfl, h, Frm.refl _ _⟩
end Go.Proofs.YtghogbngmcolmaaGreat

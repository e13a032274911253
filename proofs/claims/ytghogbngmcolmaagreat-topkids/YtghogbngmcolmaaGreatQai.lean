import Derived.Test.YtghogbngmcolmaaGreatQah
namespace Go.Proofs.YtghogbngmcolmaaGreat
open Go.RowKit
open Sp (T)
theorem mkF_cw (q : Nat) (hq : q < 21) : mkF 21 q = cw true true ((fun _ => 0) q) := by unfold mkF; rw [if_pos hq]; rfl
def tzA : Array Value := ((List.range 158).map fun i => if i < 138 ∧ i % 23 = 0 then Value.bool false else .int .i64 0).toArray
theorem tz_eq : Tryz.zeroCells147 = tzA := by kernel_rfl
theorem tz_size : tzA.size = 158 := by simp [tzA]
theorem tz_at (i : Nat) (h : i < 158) : tzA[i]? = some (if i < 138 ∧ i % 23 = 0 then Value.bool false else .int .i64 0) := by simp [tzA, h]
def tz (c : Bool) : T := ⟨fun _ => false, fun _ => 0, fun _ _ => 0, fun _ => if c then 1 else 0⟩
theorem tb_zero {c : Bool} {w : World} {b : Nat} (h : w.heap[b]? = some (.cells tzA (tyT c) (0, 0))) : Tb c w b (tz c) := by
  refine ⟨⟨_, h, tz_size⟩, cell_sort (fun m hm => ?_) (fun m hm => ?_) (fun m q hm hq => ?_) (fun y hy => ?_)⟩
  · rw [cellT_here c _ m hm, cell_blk h, tz_at _ (by omega), if_pos (by omega)]; rfl
  · rw [cellT_par c _ m hm, cell_blk h, tz_at _ (by omega), if_neg (by omega)]; rfl
  · rw [cellT_who c _ m q hm hq, cell_blk h, tz_at _ (by omega), if_neg (by omega)]; cases c <;> rfl
  · rw [cellT_of, cell_blk h, tz_at _ (by omega), if_neg (by omega)]; cases c <;> rfl
def tk (k : Nat) : T := ⟨fun n => decide (n = 0), fun n => if n = 0 then -1 else 0, fun _ _ => 0, fun x => if x < k then 0 else 1⟩
theorem tk_up {w : World} {b k : Nat} (h : Tb true w b (tk k)) (hk : k < 20) : Tb true (w.setCell ⟨b, 138 + k, none⟩ (.int .i64 (-1))) b (tk (k + 1)) := by
  have := h.setOf k 0 hk
  refine this.congr (cell_sort (fun m hm => by rw [cellT_here true _ m hm, cellT_here true _ m hm]; rfl) (fun m hm => by rw [cellT_par true _ m hm, cellT_par true _ m hm]; rfl) (fun m q hm hq => by rw [cellT_who true _ m q hm hq, cellT_who true _ m q hm hq]; rfl) (fun y hy => ?_))
  rw [cellT_of, cellT_of]
  unfold tk Sp.upN
  by_cases c : y = k
  · simp [c]
  · by_cases c2 : y < k
    · simp [c, c2, show y < k + 1 by omega]
    · simp [c, c2, show ¬ y < k + 1 by omega]
theorem tk_end {w : World} {b : Nat} (h : Tb true w b (tk 20)) : Tb true w b Sp.t0 :=
  h.congr (cell_sort (fun m hm => by rw [cellT_here true _ m hm, cellT_here true _ m hm]; rfl) (fun m hm => by rw [cellT_par true _ m hm, cellT_par true _ m hm]; rfl) (fun m q hm hq => by rw [cellT_who true _ m q hm hq, cellT_who true _ m q hm hq]; rfl) (fun y hy => by rw [cellT_of, cellT_of]; unfold tk; simp only [if_pos hy]; rfl))
theorem tk_start {w : World} {b : Nat} (h : Tb true w b (tz true)) : Tb true (w.setCells b 0 (spA true (-1) (mkF 21)).toList) b (tk 0) := by
  have := h.setSpace 0 (by omega) true (-1) (mkF 21) (fun _ => 0) mkF_cw
  rw [Nat.zero_mul] at this
  refine this.congr (cell_sort (fun m hm => ?_) (fun m hm => ?_) (fun m q hm hq => ?_) (fun y hy => ?_))
  · rw [cellT_here true _ m hm, cellT_here true _ m hm]
    by_cases e : m = 0
    · subst e; rfl
    · simp [tk, tz, Sp.upB, e]
  · rw [cellT_par true _ m hm, cellT_par true _ m hm]
    by_cases e : m = 0
    · subst e; rfl
    · simp [tk, tz, Sp.upI, e]
  · rw [cellT_who true _ m q hm hq, cellT_who true _ m q hm hq]
    by_cases e : m = 0
    · subst e; rfl
    · simp [tk, tz, Sp.upB, e]
  · rw [cellT_of, cellT_of]; rfl
set_option maxRecDepth 100000 in
set_option maxHeartbeats 1000000 in
theorem new_any (w : World) : Calls Tryz.prog 52 #[] w fun e w' => e = .returned (.pointer (some ⟨w.heap.size, 0, none⟩)) ∧ Tb true w' w.heap.size Sp.t0 ∧ Below w.heap.size w w' ∧ w.heap.size < w'.heap.size := by
  have Z : Hid (Tb true (w.alloc (.cells Tryz.zeroCells147 147)) w.heap.size (tz true) ∧ Below w.heap.size w (w.alloc (.cells Tryz.zeroCells147 147))) := Hid.intro (by
    rw [tz_eq]
    exact ⟨tb_zero (heap_alloc_new w _), (Below.refl _ _).alloc (Nat.le_refl _) _⟩)
  go_enter Tryz.func52, Tryz.ntmps52
  go_wp2_with fail
  refine wp_gen (fun W => Tb true W w.heap.size (tz true) ∧ Below w.heap.size w W) Z.out ?_
  rintro W1 ⟨h1, hb1⟩
  have S1 := Hid.intro (And.intro h1 hb1)
  clear h1 hb1 Z
  obtain ⟨b, hb⟩ : ∃ b, w.heap.size = b := ⟨_, rfl⟩
  rw [hb] at S1 ⊢
  have HB := Hid.intro hb
  clear hb
  go_region_held3 (fun _ => True) (trivial) ((go_at_call 97; refine (newSpace_any _ _).mono ?_; rintro e w2 ⟨rfl, hb2⟩; have T2 : Hid (Tb true w2 b (tz true) ∧ Below b w w2) := Hid.intro ⟨S1.out.1.drew.below hb2, S1.out.2.drew.trans (hb2.mono (Nat.le_of_lt S1.out.1.lt))⟩; obtain ⟨A, hA⟩ : ∃ A, spA true (-1) (mkF 21) = A := ⟨_, rfl⟩; have HA := Hid.intro hA; have hAs : A.size = 23 := (by rw [← hA]; exact spA_size _ _ _); have st := T2.out.1.store 0 (by omega) true (-1) (mkF 21); rw [Nat.zero_mul] at st; rw [hA] at st ⊢; clear hb2 hA))
  generalize hW2 : World.setCells _ _ _ _ = W2
  have S2 : Hid (Tb true W2 b (tk 0) ∧ Below b w W2) := Hid.intro (by
    have f : Frm b w2 W2 := by rw [← hW2]; exact Frm.setCells _ _ (Frm.refl _ _)
    refine ⟨?_, f.below T2.out.2 (Nat.le_refl _) (Nat.le_of_lt T2.out.1.lt)⟩
    rw [← hW2, ← HA.out]; exact tk_start T2.out.1)
  clear hW2 st T2 S1 hAs HA
  go_wp2_with fail
  go_loopw [10] (fun i wr => ∃ (k : Nat), i = .int .i64 k ∧ k ≤ 20 ∧ Hid (Tb true wr b (tk k) ∧ Below b w wr)) (fun i _ => 20 - (intOf i).toNat)
  case atStart => exact ⟨0, rfl, by omega, S2⟩
  case round =>
    clear S2
    obtain ⟨k, rfl, hk, S⟩ := hrel
    by_cases hlt : k < 20
    · have hltI : (k : Int) < 20 := by omega
      have c0 := S.out.1.cOf k hlt
      have cf := S.out.1.frozen
      go_wp2_with fail
      go_roundw
      case rel => exact ⟨k + 1, by go_num, by omega, tk_up S.out.1 hlt, S.out.2.setCell (by show b ≤ b; omega) _⟩
      case measure => simp [intOf]; omega
    · have hk20 : k = 20 := by omega
      subst hk20
      go_wp2_with fail
      go_ret
      rw [HB.out]
      exact ⟨rfl, tk_end S.out.1, S.out.2, S.out.1.lt⟩
set_option maxRecDepth 100000 in
set_option maxHeartbeats 400000 in
theorem add_wrong (b : Nat) (z : Int) (t : T) (w : World) (h : Tb true w b t) (k : Sp.isE t z ≠ 0) :
    Calls Tryz.prog 67 #[.pointer (some ⟨b, 0, none⟩), .int .i64 z] w fun e w' => e = .returned (.tuple #[.int .i64 0, errV (Sp.isE t z)]) ∧ w' = w := by
  have HF := Hid.intro h
  have HW := Hid.intro k
  clear h k
  go_enter Tryz.func67, Tryz.ntmps67
  go_wp2_with fail
  refine (spwrong_any b z t _ HF.out).mono ?_
  rintro e w1 ⟨rfl, hw⟩
  subst w1
  rw [errV_ne HW.out]
  go_wp2
  go_ret2
  rw [errV_ne HW.out]; exact ⟨rfl, rfl⟩
set_option maxRecDepth 100000 in
set_option maxHeartbeats 400000 in
theorem add_deep (b n : Nat) (t : T) (d : Nat → Nat) (w : World) (h : Tb true w b t) (hT : Sp.Tree t d) (hn : n < 6) (hh : t.here n = true) (hl : 4 ≤ (Sp.W t n).length) :
    Calls Tryz.prog 67 #[.pointer (some ⟨b, 0, none⟩), .int .i64 n] w fun e w' => e = .returned (.tuple #[.int .i64 0, errV 7]) ∧ w' = w := by
  have HF := Hid.intro h
  have HT := Hid.intro (And.intro hT hh)
  have HK := Hid.intro (Sp.isE_nat hn hh)
  clear h hT hh
  go_enter Tryz.func67, Tryz.ntmps67
  go_wp2_with fail
  refine (spwrong_any b n t _ HF.out).mono ?_
  rintro e w1 ⟨rfl, hw⟩
  subst w1
  rw [HK.out, errV_zero]
  go_wp2_with fail
  refine (depth_any b n t d _ HF.out HT.out.1 hn HT.out.2).mono ?_
  rintro e w1 ⟨rfl, hw⟩
  subst w1
  generalize (Sp.W t n).length = L at *
  have hlI : (4 : Int) ≤ (L : Int) := by omega
  go_wp2
  go_ret2
  exact ⟨rfl, rfl⟩
set_option maxRecDepth 100000 in
set_option maxHeartbeats 1000000 in
theorem add_rest (b n : Nat) (t : T) (d : Nat → Nat) (w : World) (h : Tb true w b t) (hT : Sp.Tree t d) (hn : n < 6) (hh : t.here n = true) (hl : (Sp.W t n).length < 4) :
    Calls Tryz.prog 67 #[.pointer (some ⟨b, 0, none⟩), .int .i64 n] w fun e w' =>
      (∃ k : Nat, k < 6 ∧ t.here k = false ∧ (∀ j, j < k → t.here j = true) ∧ e = .returned (.tuple #[.int .i64 k, errV 0]) ∧ Tb true w' b { t with here := Sp.upB t.here k true, par := Sp.upI t.par k n, who := fun a q => if a = k then 0 else t.who a q } ∧ Frm b w w') ∨ ((∀ j, j < 6 → t.here j = true) ∧ e = .returned (.tuple #[.int .i64 0, errV 4]) ∧ w' = w) := by
  have HF := Hid.intro h
  have HT := Hid.intro (And.intro hT hh)
  have HK := Hid.intro (Sp.isE_nat hn hh)
  clear h hT hh
  go_enter Tryz.func67, Tryz.ntmps67
  go_wp2_with fail
  refine (spwrong_any b n t _ HF.out).mono ?_
  rintro e w1 ⟨rfl, hw⟩
  subst w1
  rw [HK.out, errV_zero]
  go_wp2_with fail
  refine (depth_any b n t d _ HF.out HT.out.1 hn HT.out.2).mono ?_
  rintro e w1 ⟨rfl, hw⟩
  subst w1
  generalize (Sp.W t n).length = L at *
  have hlI : decide ((4 : Int) ≤ (L : Int)) = false := by simp; omega
  go_wp2_with fail
  go_loopw [19] (fun i wr => ∃ (k : Nat), i = .int .i64 k ∧ k ≤ 6 ∧ wr = w ∧ Hid (∀ j, j < k → t.here j = true)) (fun i _ => 6 - (intOf i).toNat)
  case atStart => exact ⟨0, rfl, by omega, rfl, fun j hj => by omega⟩
  case round =>
    obtain ⟨k, rfl, hk, hw, HN⟩ := hrel
    subst wr
    by_cases hlt : k < 6
    · have hltI : (k : Int) < 6 := by omega
      have c0 := HF.out.cHere k hlt
      cases hkh : t.here k
      · have HKH := Hid.intro hkh
        rw [hkh] at c0
        clear hkh
        go_wp2_with fail
        clear c0
        go_region_held3 (fun _ => True) (trivial) ((go_at_call 97; refine (newSpace_any _ _).mono ?_; rintro e w2 ⟨rfl, hb2⟩; have T2 : Hid (Tb true w2 b t ∧ Frm b w w2) := Hid.intro ⟨HF.out.drew.below hb2, (Frm.refl b w).drew.trans (Frm.of_below hb2)⟩; obtain ⟨A, hA⟩ : ∃ A, spA true (n : Int) (mkF 21) = A := ⟨_, rfl⟩; have HA := Hid.intro hA; have hAs : A.size = 23 := (by rw [← hA]; exact spA_size _ _ _); have st := T2.out.1.store k hlt true (n : Int) (mkF 21); rw [hA] at st ⊢; clear hb2 hA))
        generalize hW2 : World.setCells _ _ _ _ = W2
        have S2 : Hid (Tb true W2 b { t with here := Sp.upB t.here k true, par := Sp.upI t.par k n, who := fun a q => if a = k then 0 else t.who a q } ∧ Frm b w W2) := Hid.intro (by
          refine ⟨?_, by rw [← hW2]; exact Frm.setCells _ _ T2.out.2⟩
          rw [← hW2, ← HA.out]; exact T2.out.1.setSpace k hlt true n (mkF 21) (fun _ => 0) mkF_cw)
        clear hW2 st T2 hAs HA
        go_wp2_with fail
        go_ret2
        exact .inl ⟨k, hlt, HKH.out, HN.out, rfl, S2.out.1, S2.out.2⟩
      · have HKH := Hid.intro hkh
        rw [hkh] at c0
        clear hkh
        go_wp2_with fail
        go_roundw
        case rel => exact ⟨k + 1, by go_num, by omega, by first | rfl | trivial, fun j hj => by
          by_cases c : j = k
          · rw [c]; exact HKH.out
          · exact HN.out j (by omega)⟩
        case measure => simp [intOf]; omega
    · have hltI : ¬ (k : Int) < 6 := by omega
      go_wp2_with fail
      go_ret2
      exact .inr ⟨fun j hj => HN.out j (by omega), rfl, rfl⟩
theorem add_any (b : Nat) (z : Int) (t : T) (d : Nat → Nat) (w : World) (h : Tb true w b t) (hI : Sp.Inv t d) :
    Calls Tryz.prog 67 #[.pointer (some ⟨b, 0, none⟩), .int .i64 z] w fun e w' => e = .returned (.tuple #[.int .i64 (Sp.addN t z : Int), errV (Sp.addE t z)]) ∧ Tb true w' b (Sp.addT t z) ∧ Frm b w w' := by
  by_cases k : Sp.isE t z = 0
  · obtain ⟨n, rfl, hn, hh⟩ := Sp.isE_zero k
    by_cases hl : 4 ≤ (Sp.W t n).length
    · have e1 : Sp.addE t n = 7 := by unfold Sp.addE; rw [if_pos k, if_pos hl]
      have e2 : Sp.addN t n = 0 := by unfold Sp.addN; rw [e1]; rfl
      have e3 : Sp.addT t n = t := by unfold Sp.addT; rw [e1]; rfl
      refine (add_deep b n t d w h hI.tree hn hh hl).mono ?_
      rintro e w' ⟨rfl, rfl⟩
      rw [e1, e2, e3]; exact ⟨rfl, h, Frm.refl _ _⟩
    · refine (add_rest b n t d w h hI.tree hn hh (by omega)).mono ?_
      rintro e w' (⟨m, hm, hmh, hml, rfl, ht, hf⟩ | ⟨hall, rfl, rfl⟩)
      · have ef := Sp.freeS_at hm hmh hml
        have e1 : Sp.addE t n = 0 := by unfold Sp.addE; rw [if_pos k, if_neg hl, ef, if_neg (by omega)]
        have e2 : Sp.addN t n = m := by unfold Sp.addN; rw [e1, if_pos rfl, ef]
        rw [e1, e2]
        refine ⟨rfl, ?_, hf⟩
        unfold Sp.addT
        rw [e1, if_pos rfl, ef]
        refine ht.congr (cell_sort (fun a ha => by rw [cellT_here true _ a ha, cellT_here true _ a ha]) (fun a ha => by rw [cellT_par true _ a ha, cellT_par true _ a ha]) (fun a q ha hq => ?_) (fun y hy => by rw [cellT_of, cellT_of]))
        rw [cellT_who true _ a q ha hq, cellT_who true _ a q ha hq]
        by_cases c : a = m
        · subst c
          simp [hI.dead ha hq hmh]
        · simp [c]
      · have ef := Sp.freeS_no hall
        have e1 : Sp.addE t n = 4 := by unfold Sp.addE; rw [if_pos k, if_neg hl, ef, if_pos rfl]
        have e2 : Sp.addN t n = 0 := by unfold Sp.addN; rw [e1]; rfl
        have e3 : Sp.addT t n = t := by unfold Sp.addT; rw [e1]; rfl
        rw [e1, e2, e3]; exact ⟨rfl, h, Frm.refl _ _⟩
  · have e1 : Sp.addE t z = Sp.isE t z := by unfold Sp.addE; rw [if_neg k]
    have e2 : Sp.addN t z = 0 := by unfold Sp.addN; rw [e1, if_neg k]
    have e3 : Sp.addT t z = t := by unfold Sp.addT; rw [e1, if_neg k]
    refine (add_wrong b z t w h k).mono ?_
    rintro e w' ⟨rfl, rfl⟩
    rw [e1, e2, e3]; exact ⟨rfl, h, Frm.refl _ _⟩
set_option maxRecDepth 100000 in
set_option maxHeartbeats 400000 in
theorem drop_wrong (b : Nat) (z : Int) (t : T) (w : World) (h : Tb true w b t) (k : Sp.isE t z ≠ 0) :
    Calls Tryz.prog 83 #[.pointer (some ⟨b, 0, none⟩), .int .i64 z] w fun e w' => e = .returned (errV (Sp.isE t z)) ∧ w' = w := by
  have HF := Hid.intro h
  have HW := Hid.intro k
  clear h k
  go_enter Tryz.func83, Tryz.ntmps83
  go_wp2_with fail
  refine (spwrong_any b z t _ HF.out).mono ?_
  rintro e w1 ⟨rfl, hw⟩
  subst w1
  rw [errV_ne HW.out]
  go_wp2
  go_ret
  rw [errV_ne HW.out]; exact ⟨rfl, rfl⟩
set_option maxRecDepth 100000 in
set_option maxHeartbeats 400000 in
theorem drop_root (b : Nat) (t : T) (w : World) (h : Tb true w b t) (k : Sp.isE t 0 = 0) :
    Calls Tryz.prog 83 #[.pointer (some ⟨b, 0, none⟩), .int .i64 0] w fun e w' => e = .returned (errV 5) ∧ w' = w := by
  have HF := Hid.intro h
  have HK := Hid.intro k
  clear h k
  go_enter Tryz.func83, Tryz.ntmps83
  go_wp2_with fail
  refine (spwrong_any b 0 t _ HF.out).mono ?_
  rintro e w1 ⟨rfl, hw⟩
  subst w1
  rw [HK.out, errV_zero]
  go_wp2
  go_ret
  exact ⟨rfl, rfl⟩
set_option maxRecDepth 100000 in
set_option maxHeartbeats 1000000 in
theorem drop_rest (b n : Nat) (t : T) (w : World) (h : Tb true w b t) (n0 : n ≠ 0) (hn : n < 6) (hh : t.here n = true) :
    Calls Tryz.prog 83 #[.pointer (some ⟨b, 0, none⟩), .int .i64 n] w fun e w' =>
      ((Sp.memb t n ≠ [] ∨ Sp.kids t n = true) ∧ e = .returned (errV 5) ∧ Below w.heap.size w w') ∨ (Sp.memb t n = [] ∧ Sp.kids t n = false ∧ e = .returned (errV 0) ∧ Tb true w' b { t with here := Sp.upB t.here n false, par := Sp.upI t.par n 0, who := fun a q => if a = n then 0 else t.who a q } ∧ Frm b w w') := by
  have HF := Hid.intro h
  have HH := Hid.intro hh
  have HK := Hid.intro (Sp.isE_nat hn hh)
  have nz : ((n : Int) == 0) = false := by simp; omega
  have hnI : (n : Int) < 6 := by omega
  have hs0 : Hid ((Tryz.prog.info? 143).map (·.size) = some (spA false 0 (mkF 0)).size) := Hid.intro (by rw [spA_size]; kernel_rfl)
  clear h hh
  go_enter Tryz.func83, Tryz.ntmps83
  go_wp2_with fail
  refine (spwrong_any b n t _ HF.out).mono ?_
  rintro e w1 ⟨rfl, hw⟩
  subst w1
  rw [HK.out, errV_zero]
  go_wp2_with fail
  refine (members_any b n t _ HF.out hn HH.out).mono ?_
  rintro e w1 ⟨v, rfl, hL⟩
  obtain ⟨a, cap, hv⟩ := own_form hL.own
  subst hv
  have B1 := Hid.intro hL.bel
  clear hL
  by_cases c : Sp.memb t n = []
  · have HC := Hid.intro c
    rw [c]
    clear c
    go_wp2_with fail
    refine (above_any b n t _ (HF.out.below B1.out)).mono ?_
    rintro e w2 ⟨rfl, hb2⟩
    have B2 := Hid.intro (B1.out.trans (hb2.mono B1.out.size))
    clear hb2
    cases hkd : Sp.kids t n
    · have HKD := Hid.intro hkd
      have T2 := Hid.intro (HF.out.below B2.out)
      have S2 : Hid (Tb true (w2.setCells b (n * 23) (spA false 0 (mkF 0)).toList) b { t with here := Sp.upB t.here n false, par := Sp.upI t.par n 0, who := fun a q => if a = n then 0 else t.who a q } ∧ Frm b w (w2.setCells b (n * 23) (spA false 0 (mkF 0)).toList)) := Hid.intro ⟨T2.out.setSpace n hn false 0 (mkF 0) (fun _ => 0) (fun q hq => by unfold mkF; rw [if_neg (by omega)]; rfl), Frm.setCells _ _ (Frm.of_below B2.out)⟩
      clear hkd
      go_wp2_with (first | (refine wpList_build_sp0 rfl rfl ?_) | (refine wpList_store_mid rfl 143 _ _ rfl b (n * 23) (spA false 0 (mkF 0)) rfl rfl (T2.out.there n hn _ (spA_size _ _ _)) hs0.out (spA_one _ _ _) ?_; generalize hW : World.setCells _ _ _ _ = W2; have S3 : Hid (Tb true W2 b { t with here := Sp.upB t.here n false, par := Sp.upI t.par n 0, who := fun a q => if a = n then 0 else t.who a q } ∧ Frm b w W2) := Hid.intro (by rw [← hW]; exact S2.out); clear hW S2 T2))
      go_ret
      exact .inr ⟨HC.out, HKD.out, rfl, S3.out.1, S3.out.2⟩
    · have HKD := Hid.intro hkd
      clear hkd
      go_wp2_with fail
      go_ret
      exact .inl ⟨.inr HKD.out, rfl, B2.out⟩
  · have HC := Hid.intro c
    have hlen : 0 < (Sp.memb t n).length := List.length_pos_iff.2 c
    generalize (Sp.memb t n).length = L at *
    have hlI : (0 : Int) < (L : Int) := by omega
    clear c hlen
    go_wp2_with fail
    go_ret
    exact .inl ⟨.inl HC.out, rfl, B1.out⟩
theorem drop_any (b : Nat) (z : Int) (t : T) (w : World) (h : Tb true w b t) :
    Calls Tryz.prog 83 #[.pointer (some ⟨b, 0, none⟩), .int .i64 z] w fun e w' => e = .returned (errV (Sp.dropE t z)) ∧ Tb true w' b (Sp.dropT t z) ∧ Frm b w w' := by
  by_cases k : Sp.isE t z = 0
  · obtain ⟨n, rfl, hn, hh⟩ := Sp.isE_zero k
    by_cases n0 : n = 0
    · subst n0
      have e1 : Sp.dropE t ((0 : Nat) : Int) = 5 := by unfold Sp.dropE; rw [if_pos k, if_pos (.inl rfl)]
      have e3 : Sp.dropT t ((0 : Nat) : Int) = t := by unfold Sp.dropT; rw [e1]; rfl
      refine (drop_root b t w h k).mono ?_
      rintro e w' ⟨rfl, rfl⟩
      rw [e1, e3]; exact ⟨rfl, h, Frm.refl _ _⟩
    · refine (drop_rest b n t w h n0 hn hh).mono ?_
      rintro e w' (⟨hc, rfl, hb⟩ | ⟨hm, hk, rfl, ht, hf⟩)
      · have e1 : Sp.dropE t n = 5 := by unfold Sp.dropE; rw [if_pos k, Int.toNat_natCast, if_pos (.inr hc)]
        have e3 : Sp.dropT t n = t := by unfold Sp.dropT; rw [e1]; rfl
        rw [e1, e3]; exact ⟨rfl, h.below hb, Frm.of_below hb⟩
      · have e1 : Sp.dropE t n = 0 := by
          unfold Sp.dropE; rw [if_pos k, Int.toNat_natCast, if_neg]
          rintro (c | c | c)
          · omega
          · exact c hm
          · rw [hk] at c; cases c
        rw [e1]
        refine ⟨rfl, ?_, hf⟩
        unfold Sp.dropT
        rw [e1, if_pos rfl, Int.toNat_natCast]
        refine ht.congr (cell_sort (fun a ha => by rw [cellT_here true _ a ha, cellT_here true _ a ha]) (fun a ha => by rw [cellT_par true _ a ha, cellT_par true _ a ha]) (fun a q ha hq => ?_) (fun y hy => by rw [cellT_of, cellT_of]))
        rw [cellT_who true _ a q ha hq, cellT_who true _ a q ha hq]
        by_cases c : a = n
        · subst c
          simp [Sp.memb_nil hm q hq]
        · simp [c]
  · have e1 : Sp.dropE t z = Sp.isE t z := by unfold Sp.dropE; rw [if_neg k]
    have e3 : Sp.dropT t z = t := by unfold Sp.dropT; rw [e1, if_neg k]
    refine (drop_wrong b z t w h k).mono ?_
    rintro e w' ⟨rfl, rfl⟩
    rw [e1, e3]; exact ⟨rfl, h, Frm.refl _ _⟩
end Go.Proofs.YtghogbngmcolmaaGreat

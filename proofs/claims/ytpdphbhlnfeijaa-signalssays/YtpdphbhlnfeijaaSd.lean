/- The document's own box: ignored, Send, Hold, Does, First, Take. -/
import Derived.Test.YtpdphbhlnfeijaaSc
namespace Go.Proofs.Ytpdphbhlnfeijaa
open Go.RowKit
open Sg (S1)

/-- The document's own box: nine that wait, nine that are held back, nine ways. -/
structure RX (w : World) (b : Nat) (X : Nat → S1) : Prop where
  blk : ∃ C T, w.heap[b]? = some (.cells C T (0, 0)) ∧ C.size = 27
  wt : ∀ n, n < 9 → w.cell? ⟨b, n, none⟩ = some (.bool (X n).wt)
  hd : ∀ n, n < 9 → w.cell? ⟨b, 9 + n, none⟩ = some (.bool (X n).hd)
  hw : ∀ n, n < 9 → w.cell? ⟨b, 18 + n, none⟩ = some (.int .i64 (X n).hw)
section
variable {w w' : World} {b : Nat} {X : Nat → S1}
theorem RX.lt (h : RX w b X) : b < w.heap.size := by
  obtain ⟨C, T, e, _⟩ := h.blk
  exact (Array.getElem?_eq_some_iff.1 e).1
theorem RX.frozen (h : RX w b X) (o : Nat) : w.frozen? ⟨b, o, none⟩ = false := by
  obtain ⟨C, T, e, _⟩ := h.blk
  exact frozen_blk e o
theorem RX.same (h : RX w b X) (e : w'.heap[b]? = w.heap[b]?) : RX w' b X := by
  have hc : ∀ o, w'.cell? ⟨b, o, none⟩ = w.cell? ⟨b, o, none⟩ := fun o => World.cell?_of_block e
  exact ⟨by rw [e]; exact h.blk, fun n hn => (hc _).trans (h.wt n hn), fun n hn => (hc _).trans (h.hd n hn), fun n hn => (hc _).trans (h.hw n hn)⟩
theorem RX.drew (h : RX w b X) : RX w.drew b X := h.same rfl
theorem RX.drewN (h : RX w b X) (n : Nat) : RX (w.drewN n) b X := h.same rfl
theorem RX.below {B : Nat} (h : RX w b X) (k : Below B w w') (hb : b < B) : RX w' b X := h.same (k.block b hb)
theorem RX.frm {c : Nat} (h : RX w b X) (k : Frm c w w') (hb : b ≠ c) : RX w' b X := h.same (k.block b h.lt hb)
theorem RX.setW (h : RX w b X) (i : Nat) (hi : i < 9) (v : Bool) : RX (w.setCell ⟨b, i, none⟩ (.bool v)) b (Sg.put X i ⟨v, (X i).hd, (X i).hw⟩) := by
  obtain ⟨C, T, e, hC⟩ := h.blk
  refine ⟨⟨_, T, blk_set e _ _, by simpa using hC⟩, fun m hm => ?_, fun m hm => ?_, fun m hm => ?_⟩
  · by_cases c : m = i
    · subst c
      rw [Sg.put_same]
      exact cell_set_same e _ _ (by omega)
    · rw [Sg.put_ne _ _ _ _ c, cell_set_ne e _ _ _ (by omega), h.wt m hm]
  · rw [cell_set_ne e _ _ _ (by omega), h.hd m hm]
    unfold Sg.put
    by_cases c : m = i
    · rw [if_pos c, c]
    · rw [if_neg c]
  · rw [cell_set_ne e _ _ _ (by omega), h.hw m hm]
    unfold Sg.put
    by_cases c : m = i
    · rw [if_pos c, c]
    · rw [if_neg c]
theorem RX.setH (h : RX w b X) (i : Nat) (hi : i < 9) (v : Bool) : RX (w.setCell ⟨b, 9 + i, none⟩ (.bool v)) b (Sg.put X i ⟨(X i).wt, v, (X i).hw⟩) := by
  obtain ⟨C, T, e, hC⟩ := h.blk
  refine ⟨⟨_, T, blk_set e _ _, by simpa using hC⟩, fun m hm => ?_, fun m hm => ?_, fun m hm => ?_⟩
  · rw [cell_set_ne e _ _ _ (by omega), h.wt m hm]
    unfold Sg.put
    by_cases c : m = i
    · rw [if_pos c, c]
    · rw [if_neg c]
  · by_cases c : m = i
    · subst c
      rw [Sg.put_same]
      exact cell_set_same e _ _ (by omega)
    · rw [Sg.put_ne _ _ _ _ c, cell_set_ne e _ _ _ (by omega), h.hd m hm]
  · rw [cell_set_ne e _ _ _ (by omega), h.hw m hm]
    unfold Sg.put
    by_cases c : m = i
    · rw [if_pos c, c]
    · rw [if_neg c]
theorem RX.setK (h : RX w b X) (i : Nat) (hi : i < 9) (v : Int) : RX (w.setCell ⟨b, 18 + i, none⟩ (.int .i64 v)) b (Sg.put X i ⟨(X i).wt, (X i).hd, v⟩) := by
  obtain ⟨C, T, e, hC⟩ := h.blk
  refine ⟨⟨_, T, blk_set e _ _, by simpa using hC⟩, fun m hm => ?_, fun m hm => ?_, fun m hm => ?_⟩
  · rw [cell_set_ne e _ _ _ (by omega), h.wt m hm]
    unfold Sg.put
    by_cases c : m = i
    · rw [if_pos c, c]
    · rw [if_neg c]
  · rw [cell_set_ne e _ _ _ (by omega), h.hd m hm]
    unfold Sg.put
    by_cases c : m = i
    · rw [if_pos c, c]
    · rw [if_neg c]
  · by_cases c : m = i
    · subst c
      rw [Sg.put_same]
      exact cell_set_same e _ _ (by omega)
    · rw [Sg.put_ne _ _ _ _ c, cell_set_ne e _ _ _ (by omega), h.hw m hm]
end
set_option maxRecDepth 100000 in
set_option maxHeartbeats 400000 in
theorem rign_any (b n : Nat) (K : Int) (w : World) (hn : n < 9) (c : w.cell? ⟨b, 18 + n, none⟩ = some (.int .i64 K)) :
    Calls Try.prog 22 #[.pointer (some ⟨b, 0, none⟩), .int .i64 n] w fun e w' => e = .returned (.bool (Sg.ign n K)) ∧ w' = w := by
  have nI : (n : Int) < 9 := by omega
  by_cases k1 : K = 1
  · have E : Hid (Sg.ign n K = true) := Hid.intro (by unfold Sg.ign; simp [k1])
    rw [E.out]
    have k1' : (K == 1) = true := by simp [k1]
    clear k1
    go_enter Try.func22, Try.ntmps22
    go_wp2_with fail
    go_ret
    exact ⟨rfl, rfl⟩
  · have k1' : (K == 1) = false := by simp [k1]
    by_cases z3 : n = 3
    · subst z3
      have E : Hid (Sg.ign (3 : Nat) K = (K == 0)) := Hid.intro (by unfold Sg.ign; simp [k1]; rfl)
      rw [E.out]
      have c' : w.cell? ⟨b, 21, none⟩ = some (.int .i64 K) := c
      clear k1 c
      show Calls Try.prog 22 #[.pointer (some ⟨b, 0, none⟩), .int .i64 3] w fun e w' => e = .returned (.bool (K == 0)) ∧ w' = w
      go_enter Try.func22, Try.ntmps22
      go_wp2_with fail
      go_ret
      exact ⟨rfl, rfl⟩
    · have z3i : ¬ (n : Int) = 3 := by omega
      have E : Hid (Sg.ign n K = false) := Hid.intro (by unfold Sg.ign; simp [k1, z3i])
      rw [E.out]
      have z3' : ((n : Int) == 3) = false := by simp [z3i]
      clear k1 z3
      go_enter Try.func22, Try.ntmps22
      go_wp2_with fail
      go_ret
      exact ⟨rfl, rfl⟩
set_option maxRecDepth 100000 in
set_option maxHeartbeats 400000 in
theorem rsend_any (b : Nat) (z : Int) (X : Nat → S1) (w : World) (h : RX w b X) (hI : Sg.Inv X) :
    Calls Try.prog 9 #[.pointer (some ⟨b, 0, none⟩), .int .i64 z] w fun e w' => e = .returned (.int .i64 (Sg.isE z)) ∧ RX w' b (Sg.senF X z) ∧ Frm b w w' := by
  have HF := Hid.intro h
  by_cases c : z < 1 ∨ 8 < z
  · have E : Hid (Sg.isE z = 1 ∧ Sg.senF X z = X) := Hid.intro ⟨Sg.isE_no c, if_neg (by rw [Sg.isE_no c]; decide)⟩
    rw [E.out.1, E.out.2]
    by_cases c1 : z < 1
    · clear c h
      go_enter Try.func9, Try.ntmps9
      go_wp2_with fail
      go_ret
      exact ⟨rfl, HF.out, Frm.refl _ _⟩
    · have c2 : 8 < z := by omega
      clear c h
      go_enter Try.func9, Try.ntmps9
      go_wp2_with fail
      go_ret
      exact ⟨rfl, HF.out, Frm.refl _ _⟩
  · obtain ⟨n, rfl⟩ : ∃ n : Nat, z = n := ⟨z.toNat, by omega⟩
    have n1 : 1 ≤ n := by omega
    have n8 : n ≤ 8 := by omega
    have n1i : ¬ (n : Int) < 1 := by omega
    have n8i : ¬ 8 < (n : Int) := by omega
    have n9i : (n : Int) < 9 := by omega
    have E : Hid (Sg.isE n = 0 ∧ Sg.senF X n = Sg.put X n ⟨!Sg.ign n (X n).hw, (X n).hd, (X n).hw⟩) := Hid.intro ⟨Sg.isE_ok (by omega) (by omega), by unfold Sg.senF; rw [if_pos (Sg.isE_ok (by omega) (by omega)), Int.toNat_natCast]⟩
    have c2 := h.hw n (by omega)
    have c0 := h.wt n (by omega)
    have fz := h.frozen n
    have II := Hid.intro (hI.2 n n1 n8)
    have PS : Hid (X = Sg.put X n (X n)) := Hid.intro (by funext m; unfold Sg.put; by_cases e : m = n <;> simp [e])
    rw [E.out.1, E.out.2]
    clear c h
    go_enter Try.func9, Try.ntmps9
    go_wp2_with fail
    refine (rign_any b n _ _ (by omega) c2).mono ?_
    rintro e w1 ⟨rfl, hw1⟩
    subst w1
    by_cases G : Sg.ign n (X n).hw = true
    · have I2 := Hid.intro (II.out G)
      rw [G]
      clear c2 c0
      go_wp2_with fail
      go_ret
      refine ⟨rfl, ?_, Frm.refl _ _⟩
      have := HF.out
      rw [PS.out] at this
      rw [G, show (!true) = (X n).wt from I2.out.symm]
      exact this
    · have G' : Sg.ign n (X n).hw = false := by simpa using G
      rw [G']
      clear c2
      go_wp2_with fail
      go_ret
      refine ⟨rfl, ?_, (Frm.refl _ _).setCell _ _⟩
      rw [G']
      exact HF.out.setW n (by omega) true
set_option maxRecDepth 100000 in
set_option maxHeartbeats 400000 in
theorem rhold_any (b : Nat) (z : Int) (on : Bool) (X : Nat → S1) (w : World) (h : RX w b X) :
    Calls Try.prog 11 #[.pointer (some ⟨b, 0, none⟩), .int .i64 z, .bool on] w fun e w' => e = .returned (.int .i64 (Sg.holE z)) ∧ RX w' b (Sg.holF X z on) ∧ Frm b w w' := by
  have HF := Hid.intro h
  by_cases c : z < 1 ∨ 8 < z
  · have e0 : Sg.holE z = 1 := by unfold Sg.holE; rw [Sg.isE_no c]; rfl
    have E : Hid (Sg.holE z = 1 ∧ Sg.holF X z on = X) := Hid.intro ⟨e0, if_neg (by rw [e0]; decide)⟩
    rw [E.out.1, E.out.2]
    by_cases c1 : z < 1
    · clear c h e0
      go_enter Try.func11, Try.ntmps11
      go_wp2_with fail
      go_ret
      exact ⟨rfl, HF.out, Frm.refl _ _⟩
    · have c2 : 8 < z := by omega
      clear c h e0
      go_enter Try.func11, Try.ntmps11
      go_wp2_with fail
      go_ret
      exact ⟨rfl, HF.out, Frm.refl _ _⟩
  · obtain ⟨n, rfl⟩ : ∃ n : Nat, z = n := ⟨z.toNat, by omega⟩
    have n1i : ¬ (n : Int) < 1 := by omega
    have n8i : ¬ 8 < (n : Int) := by omega
    have n9i : (n : Int) < 9 := by omega
    by_cases k1 : n = 1
    · subst k1
      have E : Hid (Sg.holE (1 : Nat) = 8 ∧ Sg.holF X (1 : Nat) on = X) := Hid.intro ⟨rfl, rfl⟩
      rw [E.out.1, E.out.2]
      clear c h
      show Calls Try.prog 11 #[.pointer (some ⟨b, 0, none⟩), .int .i64 1, .bool on] w _
      go_enter Try.func11, Try.ntmps11
      go_wp2_with fail
      go_ret
      exact ⟨rfl, HF.out, Frm.refl _ _⟩
    · have e0 : Sg.holE n = 0 := by unfold Sg.holE; rw [Sg.isE_ok (by omega) (by omega), if_neg (fun d => d rfl), if_neg (by omega)]
      have E : Hid (Sg.holE n = 0 ∧ Sg.holF X n on = Sg.put X n ⟨(X n).wt, on, (X n).hw⟩) := Hid.intro ⟨e0, by unfold Sg.holF; rw [if_pos e0, Int.toNat_natCast]⟩
      have k1' : ((n : Int) == 1) = false := by simp; omega
      have k1'' : ¬ (n : Int) = 1 := by omega
      have c0 := h.hd n (by omega)
      have fz := h.frozen (9 + n)
      rw [E.out.1, E.out.2]
      clear c h e0
      go_enter Try.func11, Try.ntmps11
      go_wp2_with fail
      go_ret
      exact ⟨rfl, HF.out.setH n (by omega) on, (Frm.refl _ _).setCell _ _⟩
end Go.Proofs.Ytpdphbhlnfeijaa

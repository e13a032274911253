/- The document's own pipes as they lie; Is, Pipes, Make, Turn. -/
import Derived.Test.YtmneolabgajhmaaGreatPd
import Derived.Test.YtmneolabgajhmaaGreatPg
namespace Go.Proofs.YtmneolabgajhmaaGreat
open Go.RowKit
open Pp (Pi)

/-- The document's own pipes: eight texts, then eight pairs of counts. -/
structure QAt (w : World) (c : Nat) (S : Nat → Pi) : Prop where
  blk : ∃ C T, w.heap[c]? = some (.cells C T (0, 0)) ∧ C.size = 24
  tx : ∀ n, n < 8 → w.cell? ⟨c, n, none⟩ = some (.string (S n).tx)
  reads : ∀ n, n < 8 → w.cell? ⟨c, 8 + n * 2, none⟩ = some (.int .i64 ((S n).reads : Int))
  writes : ∀ n, n < 8 → w.cell? ⟨c, 8 + n * 2 + 1, none⟩ = some (.int .i64 ((S n).writes : Int))
section
variable {w w' : World} {c : Nat} {S : Nat → Pi}
theorem QAt.lt (h : QAt w c S) : c < w.heap.size := by
  obtain ⟨C, T, e, _⟩ := h.blk
  exact (Array.getElem?_eq_some_iff.1 e).1
theorem QAt.frozen (h : QAt w c S) (o : Nat) : w.frozen? ⟨c, o, none⟩ = false := by
  obtain ⟨C, T, e, _⟩ := h.blk
  exact frozen_blk e o
theorem QAt.same (h : QAt w c S) (e : w'.heap[c]? = w.heap[c]?) : QAt w' c S := by
  have hc : ∀ o, w'.cell? ⟨c, o, none⟩ = w.cell? ⟨c, o, none⟩ := fun o => World.cell?_of_block e
  exact ⟨by rw [e]; exact h.blk, fun n hn => (hc _).trans (h.tx n hn), fun n hn => (hc _).trans (h.reads n hn), fun n hn => (hc _).trans (h.writes n hn)⟩
theorem QAt.drew (h : QAt w c S) : QAt w.drew c S := h.same rfl
theorem QAt.drewN (h : QAt w c S) (n : Nat) : QAt (w.drewN n) c S := h.same rfl
theorem QAt.below {B : Nat} (h : QAt w c S) (k : Below B w w') (hb : c < B) : QAt w' c S := h.same (k.block c hb)
theorem QAt.frm {b : Nat} (h : QAt w c S) (k : Frm b w w') (hb : c ≠ b) : QAt w' c S := h.same (k.block c h.lt hb)
theorem QAt.setTx (h : QAt w c S) (n : Nat) (hn : n < 8) (t : ByteArray) : QAt (w.setCell ⟨c, n, none⟩ (.string t)) c (Pp.put S n { S n with tx := t }) := by
  obtain ⟨C, T, h1, h2⟩ := h.blk
  have ne : ∀ o, o ≠ n → (w.setCell ⟨c, n, none⟩ (.string t)).cell? ⟨c, o, none⟩ = w.cell? ⟨c, o, none⟩ := fun o ho => cell_set_ne h1 _ _ _ (Ne.symm ho)
  refine ⟨⟨_, T, blk_set h1 _ _, by simpa using h2⟩, fun m hm => ?_, fun m hm => ?_, fun m hm => ?_⟩
  · by_cases d : m = n
    · subst d; rw [Pp.put_same]; exact cell_set_same h1 _ _ (by omega)
    · rw [Pp.put_ne _ _ _ _ d, ne _ d]; exact h.tx m hm
  · rw [ne _ (by omega), h.reads m hm]
    by_cases d : m = n
    · subst d; rw [Pp.put_same]
    · rw [Pp.put_ne _ _ _ _ d]
  · rw [ne _ (by omega), h.writes m hm]
    by_cases d : m = n
    · subst d; rw [Pp.put_same]
    · rw [Pp.put_ne _ _ _ _ d]
theorem QAt.setT (h : QAt w c S) (n : Nat) (hn : n < 8) (wr : Bool) (k : Nat) : QAt (w.setCell ⟨c, 8 + n * 2 + (if wr then 1 else 0), none⟩ (.int .i64 (k : Int))) c (Pp.put S n (Pp.setT (S n) wr k)) := by
  obtain ⟨C, T, h1, h2⟩ := h.blk
  have ne : ∀ o, o ≠ 8 + n * 2 + (if wr then 1 else 0) → (w.setCell ⟨c, 8 + n * 2 + (if wr then 1 else 0), none⟩ (.int .i64 (k : Int))).cell? ⟨c, o, none⟩ = w.cell? ⟨c, o, none⟩ := fun o ho => cell_set_ne h1 _ _ _ (Ne.symm ho)
  have eq : (w.setCell ⟨c, 8 + n * 2 + (if wr then 1 else 0), none⟩ (.int .i64 (k : Int))).cell? ⟨c, 8 + n * 2 + (if wr then 1 else 0), none⟩ = some (.int .i64 (k : Int)) := cell_set_same h1 _ _ (by split <;> omega)
  have tx : (Pp.setT (S n) wr k).tx = (S n).tx := by cases wr <;> rfl
  refine ⟨⟨_, T, blk_set h1 _ _, by simpa using h2⟩, fun m hm => ?_, fun m hm => ?_, fun m hm => ?_⟩
  · rw [ne _ (by split <;> omega), h.tx m hm]
    by_cases d : m = n
    · subst d; rw [Pp.put_same, tx]
    · rw [Pp.put_ne _ _ _ _ d]
  · by_cases d : m = n
    · subst d
      rw [Pp.put_same]
      cases wr
      · exact eq
      · rw [ne _ (by simp)]; exact h.reads m hm
    · rw [Pp.put_ne _ _ _ _ d, ne _ (by split <;> omega), h.reads m hm]
  · by_cases d : m = n
    · subst d
      rw [Pp.put_same]
      cases wr
      · rw [ne _ (by simp)]; exact h.writes m hm
      · exact eq
    · rw [Pp.put_ne _ _ _ _ d, ne _ (by split <;> omega), h.writes m hm]
theorem QAt.tim (h : QAt w c S) (n : Nat) (hn : n < 8) (wr : Bool) : w.cell? ⟨c, 8 + n * 2 + (if wr then 1 else 0), none⟩ = some (.int .i64 (Pp.tim (S n) wr : Int)) := by
  cases wr
  · exact h.reads n hn
  · exact h.writes n hn
end
/-- Counts are small; what is no pipe has nothing. -/
def Pp.Sm (S : Nat → Pi) : Prop := ∀ n, n < 8 → (S n).reads < 2 ^ 60 ∧ (S n).writes < 2 ^ 60
def Pp.Zr (S : Nat → Pi) : Prop := ∀ n, n < 8 → Pp.thr (S n) = false → S n = Pi.no
theorem Pp.thr_sum (x : Pi) : Pp.thr x = !decide (x.reads + x.writes = 0) := by
  unfold Pp.thr
  rw [← decide_not]
  exact decide_eq_decide.2 ⟨fun h => by omega, fun h => by omega⟩
set_option maxRecDepth 100000 in
set_option maxHeartbeats 1000000 in
theorem qis_any (c : Nat) (z : Int) (S : Nat → Pi) (w : World) (h : QAt w c S) (hs : Pp.Sm S) :
    Calls Tryz.prog 106 #[.pointer (some ⟨c, 0, none⟩), .int .i64 z] w fun e w' => e = .returned (.int .i64 (Pp.pipE S z)) ∧ ∃ q, w' = w.drewN q := by
  by_cases d : z < 0 ∨ 7 < z
  · have E : Hid (Pp.pipE S z = 1) := Hid.intro (if_pos d)
    by_cases c1 : z < 0
    · clear d h
      go_enter Tryz.func106, Tryz.ntmps106
      go_wp2_with fail
      go_ret
      rw [E.out]
      exact ⟨rfl, 0, rfl⟩
    · have c2 : 7 < z := by omega
      clear d h
      go_enter Tryz.func106, Tryz.ntmps106
      go_wp2_with fail
      go_ret
      rw [E.out]
      exact ⟨rfl, 0, rfl⟩
  · obtain ⟨n, rfl⟩ : ∃ n : Nat, z = n := ⟨z.toNat, by omega⟩
    have n8 : n < 8 := by omega
    have n8i : (n : Int) < 8 := by omega
    have n7 : ¬ 7 < (n : Int) := by omega
    have E : Pp.pipE S (n : Int) = if Pp.thr (S n) then 0 else 2 := by unfold Pp.pipE; rw [if_neg d, Int.toNat_natCast]
    rw [Pp.thr_sum] at E
    have c1 := h.reads n n8
    have c2 := h.writes n n8
    have hb := hs n n8
    generalize (S n).reads = r at *
    generalize (S n).writes = u at *
    have hw : IntKind.i64.wrap ((r : Int) + (u : Int)) = (r : Int) + (u : Int) := IntWalk.i64_in _ ⟨by omega, by omega⟩
    by_cases s0 : r + u = 0
    · have F : Hid (Pp.pipE S (n : Int) = 2) := Hid.intro (by rw [E, decide_eq_true s0]; rfl)
      have s1 : ((r : Int) + (u : Int) == 0) = true := by simp; omega
      clear E h hs d hb s0
      go_enter Tryz.func106, Tryz.ntmps106
      go_upto_region 3 with fail
      go_big_quiet (fail)
      go_wp2_with fail
      go_ret
      rw [F.out]
      exact ⟨rfl, nq, rfl⟩
    · have F : Hid (Pp.pipE S (n : Int) = 0) := Hid.intro (by rw [E, decide_eq_false s0]; rfl)
      have s1 : ((r : Int) + (u : Int) == 0) = false := by simp; omega
      clear E h hs d hb s0
      go_enter Tryz.func106, Tryz.ntmps106
      go_upto_region 3 with fail
      go_big_quiet (fail)
      go_wp2_with fail
      go_ret
      rw [F.out]
      exact ⟨rfl, nq, rfl⟩
set_option maxRecDepth 100000 in
set_option maxHeartbeats 1000000 in
theorem qpipes_any (c : Nat) (S : Nat → Pi) (w : World) (h : QAt w c S) (hs : Pp.Sm S) :
    Calls Tryz.prog 19 #[.pointer (some ⟨c, 0, none⟩)] w fun e w' => e = .returned (.int .i64 (Pp.cnt S 8 : Int)) ∧ ∃ q, w' = w.drewN q := by
  have HF := Hid.intro h
  have HS := Hid.intro hs
  clear h hs
  go_enter Tryz.func19, Tryz.ntmps19
  go_wp2_with fail
  go_loopw [3, 4] (fun x i wr => ∃ (n : Nat), i = .int .i64 n ∧ x = .int .i64 (Pp.cnt S n : Int) ∧ n ≤ 8 ∧ ∃ q, wr = w.drewN q) (fun _ i _ => 8 - (intOf i).toNat)
  case atStart => exact ⟨0, rfl, rfl, by omega, 0, rfl⟩
  case round =>
    obtain ⟨n, rfl, rfl, hn, q, hwr⟩ := hrel
    subst wr
    by_cases hlt : n < 8
    · have hltI : (n : Int) < 8 := by omega
      have lc := Pp.cnt_le S n
      have LS : Pp.cnt S (n + 1) = Pp.cnt S n + if Pp.thr (S n) then 1 else 0 := rfl
      rw [Pp.thr_sum] at LS
      have H := HF.out.drewN q
      have c1 := H.reads n hlt
      have c2 := H.writes n hlt
      have hb := HS.out n hlt
      generalize (S n).reads = r at *
      generalize (S n).writes = u at *
      generalize Pp.cnt S n = cn at *
      have hw : IntKind.i64.wrap ((r : Int) + (u : Int)) = (r : Int) + (u : Int) := IntWalk.i64_in _ ⟨by omega, by omega⟩
      have LL := Hid.intro LS
      obtain ⟨W, hW⟩ : ∃ W, w.drewN q = W := ⟨_, rfl⟩
      have HW := Hid.intro hW
      rw [hW] at c1 c2 ⊢
      clear hW H LS
      by_cases s0 : r + u = 0
      · have L2 : Hid (Pp.cnt S (n + 1) = cn) := Hid.intro (by rw [LL.out, decide_eq_true s0]; rfl)
        have s1 : ¬ (0 : Int) < (r : Int) + (u : Int) := by omega
        clear hb s0 LL
        go_upto_region 5 with fail
        go_big_quiet (fail)
        go_wp2_with fail
        go_roundw
        case rel => exact ⟨n + 1, by go_num, by rw [L2.out], by omega, q + nq, by rw [← HW.out, World.drewN_drewN]⟩
        case measure => simp [intOf]; omega
      · have L2 : Hid (Pp.cnt S (n + 1) = cn + 1) := Hid.intro (by rw [LL.out, decide_eq_false s0]; rfl)
        have s1 : (0 : Int) < (r : Int) + (u : Int) := by omega
        clear hb s0 LL
        go_upto_region 5 with fail
        go_big_quiet (fail)
        go_wp2_with fail
        go_roundw
        case rel => exact ⟨n + 1, by go_num, by rw [L2.out]; go_num, by omega, q + nq, by rw [← HW.out, World.drewN_drewN]⟩
        case measure => simp [intOf]; omega
    · have hltI : ¬ (n : Int) < 8 := by omega
      obtain rfl : n = 8 := by omega
      go_wp2_with fail
      go_ret
      exact ⟨rfl, q, rfl⟩
end Go.Proofs.YtmneolabgajhmaaGreat

/- Open files, plain; the code's table as it lies; file, Open, Room. -/
import Derived.Test.YtmneolabgajhmaaGreatUa
import Derived.Test.YtmneolabgajhmaaGreatPd
namespace Go.Proofs.YtmneolabgajhmaaGreat
open Go.RowKit

namespace Fx
/-- An open file: its kind, its node or pipe, may it be written, its place, how many have it. -/
structure Fi where
  kind : Nat
  num : Nat
  wr : Bool
  pos : Nat
  refs : Nat
def Fi.no : Fi := ⟨0, 0, false, 0, 0⟩
def put (T : Nat → Fi) (n : Nat) (x : Fi) : Nat → Fi := fun m => if m = n then x else T m
theorem put_same (T : Nat → Fi) (n : Nat) (x : Fi) : put T n x n = x := if_pos rfl
theorem put_ne (T : Nat → Fi) (n : Nat) (x : Fi) (m : Nat) (h : m ≠ n) : put T n x m = T m := if_neg h
theorem put_put (T : Nat → Fi) (n : Nat) (x y : Fi) : put (put T n x) n y = put T n y := by
  funext m
  unfold put
  split <;> rfl
def cel (x : Fi) : Nat → Value
  | 0 => .int .i64 (x.kind : Int)
  | 1 => .int .i64 (x.num : Int)
  | 2 => .bool x.wr
  | 3 => .int .i64 (x.pos : Int)
  | _ => .int .i64 (x.refs : Int)
def arr (x : Fi) : Array Value := #[.int .i64 (x.kind : Int), .int .i64 (x.num : Int), .bool x.wr, .int .i64 (x.pos : Int), .int .i64 (x.refs : Int)]
/-- What is wrong with a number. -/
def filE (T : Nat → Fi) (z : Int) : Int := if z < 0 ∨ 23 < z then 1 else if (T z.toNat).refs = 0 then 2 else 0
theorem filE_ok {T : Nat → Fi} {z : Int} (h : filE T z = 0) : ∃ n : Nat, z = n ∧ n < 24 ∧ (T n).refs ≠ 0 := by
  unfold filE at h
  by_cases c : z < 0 ∨ 23 < z
  · rw [if_pos c] at h; omega
  · rw [if_neg c] at h
    refine ⟨z.toNat, by omega, by omega, fun d => ?_⟩
    rw [if_pos d] at h
    omega
theorem filE_nn (T : Nat → Fi) (z : Int) : 0 ≤ filE T z := by
  unfold filE
  repeat' split
  all_goals omega
def cnt (T : Nat → Fi) : Nat → Nat
  | 0 => 0
  | n + 1 => cnt T n + if (T n).refs = 0 then 0 else 1
theorem cnt_le (T : Nat → Fi) : ∀ n, cnt T n ≤ n
  | 0 => Nat.le_refl 0
  | n + 1 => by
    have := cnt_le T n
    unfold cnt
    split <;> omega
/-- If not all are taken, one is free. -/
theorem cnt_free (T : Nat → Fi) : ∀ n, cnt T n < n → ∃ m, m < n ∧ (T m).refs = 0 ∧ ∀ k, k < m → (T k).refs ≠ 0
  | 0, h => absurd h (Nat.not_lt_zero _)
  | n + 1, h => by
    by_cases c : cnt T n < n
    · obtain ⟨m, h1, h2, h3⟩ := cnt_free T n c
      exact ⟨m, by omega, h2, h3⟩
    · have hl := cnt_le T n
      unfold cnt at h
      by_cases d : (T n).refs = 0
      · refine ⟨n, by omega, d, fun k hk e => ?_⟩
        have : ∀ n, cnt T n = n → ∀ k, k < n → (T k).refs ≠ 0 := by
          intro n
          induction n with
          | zero => intro _ k hk; omega
          | succ n ih =>
            intro hc k hk e
            have hl := cnt_le T n
            unfold cnt at hc
            by_cases g : (T n).refs = 0
            · rw [if_pos g] at hc; omega
            · by_cases j : k = n
              · subst j; exact g e
              · exact ih (by rw [if_neg g] at hc; omega) k (by omega) e
        exact this n (by omega) k hk e
      · rw [if_neg d] at h; omega
/-- The lowest free number. -/
def Low (T : Nat → Fi) (n : Nat) : Prop := n < 24 ∧ (T n).refs = 0 ∧ ∀ k, k < n → (T k).refs ≠ 0
theorem Low.unique {T : Nat → Fi} {n m : Nat} (h : Low T n) (k : Low T m) : n = m := by
  rcases Nat.lt_trichotomy n m with c | c | c
  · exact absurd h.2.1 (k.2.2 n c)
  · exact c
  · exact absurd k.2.1 (h.2.2 m c)
theorem low_of {T : Nat → Fi} (h : cnt T 24 < 24) : ∃ n, Low T n := by
  obtain ⟨m, h1, h2, h3⟩ := cnt_free T 24 h
  exact ⟨m, h1, h2, h3⟩
end Fx
open Fx (Fi)
/-- The code's table: its forest in block b, its pipes in block p; twenty-four files of five cells each. -/
structure XAt (w : World) (t b p : Nat) (T : Nat → Fi) : Prop where
  blk : ∃ C Ty, w.heap[t]? = some (.cells C Ty (0, 0)) ∧ C.size = 122
  fo : w.cell? ⟨t, 0, none⟩ = some (.pointer (some ⟨b, 0, none⟩))
  pi : w.cell? ⟨t, 1, none⟩ = some (.pointer (some ⟨p, 0, none⟩))
  cell : ∀ n, n < 24 → ∀ i, i < 5 → w.cell? ⟨t, 2 + n * 5 + i, none⟩ = some (Fx.cel (T n) i)
section
variable {w w' : World} {t b p : Nat} {T : Nat → Fi}
theorem XAt.lt (h : XAt w t b p T) : t < w.heap.size := by
  obtain ⟨C, Ty, e, _⟩ := h.blk
  exact (Array.getElem?_eq_some_iff.1 e).1
theorem XAt.frozen (h : XAt w t b p T) (o : Nat) : w.frozen? ⟨t, o, none⟩ = false := by
  obtain ⟨C, Ty, e, _⟩ := h.blk
  exact frozen_blk e o
theorem XAt.same (h : XAt w t b p T) (e : w'.heap[t]? = w.heap[t]?) : XAt w' t b p T := by
  have hc : ∀ o, w'.cell? ⟨t, o, none⟩ = w.cell? ⟨t, o, none⟩ := fun o => World.cell?_of_block e
  exact ⟨by rw [e]; exact h.blk, (hc _).trans h.fo, (hc _).trans h.pi, fun n hn i hi => (hc _).trans (h.cell n hn i hi)⟩
theorem XAt.drew (h : XAt w t b p T) : XAt w.drew t b p T := h.same rfl
theorem XAt.drewN (h : XAt w t b p T) (n : Nat) : XAt (w.drewN n) t b p T := h.same rfl
theorem XAt.below {B : Nat} (h : XAt w t b p T) (k : Below B w w') (hb : t < B) : XAt w' t b p T := h.same (k.block t hb)
theorem XAt.frm {c : Nat} (h : XAt w t b p T) (k : Frm c w w') (hb : t ≠ c) : XAt w' t b p T := h.same (k.block t h.lt hb)
theorem XAt.kind (h : XAt w t b p T) (n : Nat) (hn : n < 24) : w.cell? ⟨t, 2 + n * 5, none⟩ = some (.int .i64 ((T n).kind : Int)) := h.cell n hn 0 (by omega)
theorem XAt.num (h : XAt w t b p T) (n : Nat) (hn : n < 24) : w.cell? ⟨t, 2 + n * 5 + 1, none⟩ = some (.int .i64 ((T n).num : Int)) := h.cell n hn 1 (by omega)
theorem XAt.wr (h : XAt w t b p T) (n : Nat) (hn : n < 24) : w.cell? ⟨t, 2 + n * 5 + 2, none⟩ = some (.bool (T n).wr) := h.cell n hn 2 (by omega)
theorem XAt.pos (h : XAt w t b p T) (n : Nat) (hn : n < 24) : w.cell? ⟨t, 2 + n * 5 + 3, none⟩ = some (.int .i64 ((T n).pos : Int)) := h.cell n hn 3 (by omega)
theorem XAt.refs (h : XAt w t b p T) (n : Nat) (hn : n < 24) : w.cell? ⟨t, 2 + n * 5 + 4, none⟩ = some (.int .i64 ((T n).refs : Int)) := h.cell n hn 4 (by omega)
theorem XAt.set (h : XAt w t b p T) (n : Nat) (hn : n < 24) (i : Nat) (hi : i < 5) (x : Fi) (hx : ∀ j, j < 5 → j ≠ i → Fx.cel x j = Fx.cel (T n) j) : XAt (w.setCell ⟨t, 2 + n * 5 + i, none⟩ (Fx.cel x i)) t b p (Fx.put T n x) := by
  obtain ⟨C, Ty, h1, h2⟩ := h.blk
  have ne : ∀ o, o ≠ 2 + n * 5 + i → (w.setCell ⟨t, 2 + n * 5 + i, none⟩ (Fx.cel x i)).cell? ⟨t, o, none⟩ = w.cell? ⟨t, o, none⟩ := fun o ho => cell_set_ne h1 _ _ _ (Ne.symm ho)
  refine ⟨⟨_, Ty, blk_set h1 _ _, by simpa using h2⟩, (ne _ (by omega)).trans h.fo, (ne _ (by omega)).trans h.pi, fun m hm j hj => ?_⟩
  by_cases c : m = n
  · subst c
    rw [Fx.put_same]
    by_cases d : j = i
    · subst d; exact cell_set_same h1 _ _ (by omega)
    · rw [ne _ (by omega), hx j hj d]; exact h.cell m hm j hj
  · rw [Fx.put_ne _ _ _ _ c, ne _ (by omega)]; exact h.cell m hm j hj
theorem XAt.setRefs (h : XAt w t b p T) (n : Nat) (hn : n < 24) (k : Nat) : XAt (w.setCell ⟨t, 2 + n * 5 + 4, none⟩ (.int .i64 (k : Int))) t b p (Fx.put T n { T n with refs := k }) :=
  h.set n hn 4 (by omega) { T n with refs := k } (fun j hj d => by
    match j, hj, d with
    | 0, _, _ => rfl
    | 1, _, _ => rfl
    | 2, _, _ => rfl
    | 3, _, _ => rfl
    | 4, _, d => exact absurd rfl d)
theorem XAt.setPos (h : XAt w t b p T) (n : Nat) (hn : n < 24) (k : Nat) : XAt (w.setCell ⟨t, 2 + n * 5 + 3, none⟩ (.int .i64 (k : Int))) t b p (Fx.put T n { T n with pos := k }) :=
  h.set n hn 3 (by omega) { T n with pos := k } (fun j hj d => by
    match j, hj, d with
    | 0, _, _ => rfl
    | 1, _, _ => rfl
    | 2, _, _ => rfl
    | 3, _, d => exact absurd rfl d
    | 4, _, _ => rfl)
theorem XAt.setAll (h : XAt w t b p T) (n : Nat) (hn : n < 24) (x : Fi) : XAt (w.setCells t (2 + n * 5) (Fx.arr x).toList) t b p (Fx.put T n x) := by
  obtain ⟨C, Ty, h1, h2⟩ := h.blk
  obtain ⟨C', k1, k2⟩ := Pp.blk_setCells t (Fx.arr x).toList (2 + n * 5) w C h1
  have out : ∀ o, o < 2 + n * 5 ∨ 2 + n * 5 + 5 ≤ o → (w.setCells t (2 + n * 5) (Fx.arr x).toList).cell? ⟨t, o, none⟩ = w.cell? ⟨t, o, none⟩ := fun o ho => World.cell?_setCells_out t _ _ w ⟨t, o, none⟩ (fun _ _ => by show o < _ ∨ _ ≤ o; exact ho)
  refine ⟨⟨C', Ty, k1, by omega⟩, (out _ (by omega)).trans h.fo, (out _ (by omega)).trans h.pi, fun m hm j hj => ?_⟩
  by_cases c : m = n
  · subst c
    rw [Fx.put_same, World.cell?_setCells_in t (Fx.arr x).toList (2 + m * 5) w (fun i hi => by have : i < 5 := hi; rw [h.cell m hm i this]; rfl) j hj]
    match j, hj with
    | 0, _ => rfl
    | 1, _ => rfl
    | 2, _ => rfl
    | 3, _ => rfl
    | 4, _ => rfl
  · rw [Fx.put_ne _ _ _ _ c, out _ (by omega)]; exact h.cell m hm j hj
theorem XAt.there (h : XAt w t b p T) (n : Nat) (hn : n < 24) (x : Fi) : w.there t (2 + n * 5) (Fx.arr x).size := fun j hj => by
  have : j < 5 := hj
  exact ⟨by rw [h.cell n hn j this]; rfl, h.frozen _⟩
theorem Fx.info_file (x : Fi) : (Tryz.prog.info? 93).map (·.size) = some (Fx.arr x).size := by
  show _ = some 5
  kernel_rfl
theorem Fx.arr_one (x : Fi) : (Fx.arr x).all (·.oneCell') = true := by simp [Fx.arr, Value.oneCell']
end
/-- A pointer to an open file, where nothing is wrong. -/
def fptE (t : Nat) (z E : Int) : Value := if E = 0 then .pointer (some ⟨t, 2 + z.toNat * 5, none⟩) else .pointer none
theorem fptE_ok (t n : Nat) : fptE t (n : Int) 0 = .pointer (some ⟨t, 2 + n * 5, none⟩) := by unfold fptE; rw [if_pos rfl, Int.toNat_natCast]
theorem fptE_no {t : Nat} {z E : Int} (h : E ≠ 0) : fptE t z E = .pointer none := if_neg h
set_option maxRecDepth 100000 in
set_option maxHeartbeats 400000 in
theorem xfile_any (t b p : Nat) (z : Int) (T : Nat → Fi) (w : World) (h : XAt w t b p T) :
    Calls Tryz.prog 57 #[.pointer (some ⟨t, 0, none⟩), .int .i64 z] w fun e w' => e = .returned (.tuple #[fptE t z (Fx.filE T z), errV (Fx.filE T z)]) ∧ w' = w := by
  by_cases c : z < 0 ∨ 23 < z
  · have E : Hid (Fx.filE T z = 1) := Hid.intro (if_pos c)
    have E2 : Hid (fptE t z 1 = .pointer none) := Hid.intro (fptE_no (by decide))
    by_cases c1 : z < 0
    · clear c h
      go_enter Tryz.func57, Tryz.ntmps57
      go_wp2_with fail
      go_ret2
      rw [E.out, E2.out]
      exact ⟨rfl, rfl⟩
    · have c2 : 24 ≤ z := by omega
      clear c h
      go_enter Tryz.func57, Tryz.ntmps57
      go_wp2_with fail
      go_ret2
      rw [E.out, E2.out]
      exact ⟨rfl, rfl⟩
  · obtain ⟨n, rfl⟩ : ∃ n : Nat, z = n := ⟨z.toNat, by omega⟩
    have n24 : n < 24 := by omega
    have n24i : (n : Int) < 24 := by omega
    have E : Fx.filE T (n : Int) = if (T n).refs = 0 then 2 else 0 := by unfold Fx.filE; rw [if_neg c, Int.toNat_natCast]
    have c4 := h.refs n n24
    by_cases d : (T n).refs = 0
    · have E1 : Hid (Fx.filE T (n : Int) = 2 ∧ fptE t (n : Int) 2 = .pointer none) := Hid.intro ⟨by rw [E, if_pos d], fptE_no (by decide)⟩
      rw [d] at c4
      have c4' : w.cell? ⟨t, 2 + n * 5 + 4, none⟩ = some (.int .i64 0) := c4
      clear c h d E c4
      go_enter Tryz.func57, Tryz.ntmps57
      go_wp2_with fail
      go_ret2
      rw [E1.out.1, E1.out.2]
      exact ⟨rfl, rfl⟩
    · have E1 : Hid (Fx.filE T (n : Int) = 0 ∧ fptE t (n : Int) 0 = .pointer (some ⟨t, 2 + n * 5, none⟩)) := Hid.intro ⟨by rw [E, if_neg d], fptE_ok t n⟩
      generalize (T n).refs = rr at *
      have d1 : ((rr : Int) == 0) = false := by simp; omega
      clear c h d E
      go_enter Tryz.func57, Tryz.ntmps57
      go_wp2_with fail
      go_ret2
      rw [E1.out.1, E1.out.2]
      exact ⟨rfl, rfl⟩
set_option maxRecDepth 100000 in
set_option maxHeartbeats 1000000 in
theorem xopen_any (t b p : Nat) (T : Nat → Fi) (w : World) (h : XAt w t b p T) :
    Calls Tryz.prog 16 #[.pointer (some ⟨t, 0, none⟩)] w fun e w' => e = .returned (.int .i64 (Fx.cnt T 24 : Int)) ∧ w' = w := by
  have HF := Hid.intro h
  clear h
  go_enter Tryz.func16, Tryz.ntmps16
  go_wp2_with fail
  go_loopw [3, 4, 5] (fun c x i wr => ∃ (n : Nat), i = .int .i64 n ∧ c = .int .i64 (Fx.cnt T n : Int) ∧ n ≤ 24 ∧ wr = w) (fun _ _ i _ => 24 - (intOf i).toNat)
  case atStart => exact ⟨0, rfl, rfl, by omega, rfl⟩
  case round =>
    obtain ⟨n, rfl, rfl, hn, hwr⟩ := hrel
    subst wr
    by_cases hlt : n < 24
    · have hltI : (n : Int) < 24 := by omega
      have lc := Fx.cnt_le T n
      have LS : Fx.cnt T (n + 1) = Fx.cnt T n + if (T n).refs = 0 then 0 else 1 := rfl
      have c4 := HF.out.refs n hlt
      generalize Fx.cnt T n = cn at *
      by_cases d : (T n).refs = 0
      · rw [if_pos d] at LS
        have LL := Hid.intro LS
        have d1 : ¬ (0 : Int) < ((T n).refs : Int) := by omega
        generalize (T n).refs = rr at *
        clear d LS
        go_wp2_with fail
        go_roundw
        case rel => exact ⟨n + 1, by go_num, by rw [LL.out]; rfl, by omega, by first | rfl | trivial⟩
        case measure => simp [intOf]; omega
      · rw [if_neg d] at LS
        have LL := Hid.intro LS
        have d1 : (0 : Int) < ((T n).refs : Int) := by omega
        generalize (T n).refs = rr at *
        clear d LS
        go_wp2_with fail
        go_roundw
        case rel => exact ⟨n + 1, by go_num, by rw [LL.out]; go_num, by omega, by first | rfl | trivial⟩
        case measure => simp [intOf]; omega
    · have hltI : ¬ (n : Int) < 24 := by omega
      obtain rfl : n = 24 := by omega
      go_wp2_with fail
      go_ret
      exact ⟨rfl, rfl⟩
set_option maxRecDepth 100000 in
set_option maxHeartbeats 400000 in
theorem xroom_any (t b p : Nat) (m : Int) (T : Nat → Fi) (w : World) (h : XAt w t b p T) :
    Calls Tryz.prog 20 #[.pointer (some ⟨t, 0, none⟩), .int .i64 m] w fun e w' => e = .returned (.bool (decide (m ≤ 24 - (Fx.cnt T 24 : Int)))) ∧ w' = w := by
  have HF := Hid.intro h
  have lc := Fx.cnt_le T 24
  have hw : IntKind.i64.wrap (24 - (Fx.cnt T 24 : Int)) = 24 - (Fx.cnt T 24 : Int) := IntWalk.i64_in _ ⟨by omega, by omega⟩
  clear h
  go_enter Tryz.func20, Tryz.ntmps20
  go_wp2_with fail
  refine (xopen_any t b p T _ HF.out).mono ?_
  rintro e w1 ⟨rfl, hw1⟩
  subst w1
  go_wp2_with fail
  go_ret
  exact ⟨rfl, rfl⟩
end Go.Proofs.YtmneolabgajhmaaGreat

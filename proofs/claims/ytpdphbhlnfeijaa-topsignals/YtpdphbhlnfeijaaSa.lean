/- Signals, plain; the code's box as it lies; signal, ignored, Send, Hold, How, Waits. -/
import Derived.Test.YtpdphbhlnfeijaaBb
import Derived.Laws.Rows
namespace Go.Proofs.Ytpdphbhlnfeijaa
open Go.RowKit

namespace Sg
/-- Of a signal: whether it waits, whether it is held back, how it is done with. -/
structure S1 where
  wt : Bool
  hd : Bool
  hw : Int
def nul : Nat → S1 := fun _ => ⟨false, false, 0⟩
def put (X : Nat → S1) (n : Nat) (x : S1) : Nat → S1 := fun m => if m = n then x else X m
theorem put_same (X : Nat → S1) (n : Nat) (x : S1) : put X n x n = x := if_pos rfl
theorem put_ne (X : Nat → S1) (n : Nat) (x : S1) (m : Nat) (h : m ≠ n) : put X n x m = X m := if_neg h
theorem put_put (X : Nat → S1) (n : Nat) (x y : S1) : put (put X n x) n y = put X n y := by
  funext m
  unfold put
  split <;> rfl
def ign (z h : Int) : Bool := decide (h = 1) || (decide (z = 3) && decide (h = 0))
def isE (z : Int) : Int := if z < 1 ∨ 8 < z then 1 else 0
def holE (z : Int) : Int := if isE z ≠ 0 then 1 else if z = 1 then 8 else 0
def howE (z h : Int) : Int := if isE z ≠ 0 then 1 else if h < 0 ∨ 2 < h then 1 else if z = 1 then 8 else 0
def senF (X : Nat → S1) (z : Int) : Nat → S1 := if isE z = 0 then put X z.toNat ⟨!ign z (X z.toNat).hw, (X z.toNat).hd, (X z.toNat).hw⟩ else X
def holF (X : Nat → S1) (z : Int) (on : Bool) : Nat → S1 := if holE z = 0 then put X z.toNat ⟨(X z.toNat).wt, on, (X z.toNat).hw⟩ else X
def howF (X : Nat → S1) (z h : Int) : Nat → S1 := if howE z h = 0 then put X z.toNat ⟨(X z.toNat).wt && !ign z h, (X z.toNat).hd, h⟩ else X
def ok (X : Nat → S1) (h : Int) (n : Nat) : Bool := (X n).wt && !(X n).hd && decide ((X n).hw = h)
/-- The first one that is done with so; 0: none. -/
def FirTo (X : Nat → S1) (h : Int) (n : Nat) : Prop := (n = 0 ∧ ∀ j, 1 ≤ j → j ≤ 8 → ok X h j = false) ∨ (1 ≤ n ∧ n ≤ 8 ∧ ok X h n = true ∧ ∀ j, 1 ≤ j → j < n → ok X h j = false)
theorem FirTo.unique {X : Nat → S1} {h : Int} {n m : Nat} (a : FirTo X h n) (b : FirTo X h m) : n = m := by
  rcases a with ⟨a0, a1⟩ | ⟨a1, a2, a3, a4⟩
  · rcases b with ⟨b0, _⟩ | ⟨b1, b2, b3, _⟩
    · omega
    · rw [a1 m b1 b2] at b3; cases b3
  · rcases b with ⟨b0, b1⟩ | ⟨b1, b2, b3, b4⟩
    · rw [b1 n a1 a2] at a3; cases a3
    · rcases Nat.lt_trichotomy n m with c | c | c
      · rw [b4 n a1 c] at a3; cases a3
      · exact c
      · rw [a4 m b1 c] at b3; cases b3
theorem FirTo.le {X : Nat → S1} {h : Int} {n : Nat} (a : FirTo X h n) : n ≤ 8 := by
  rcases a with ⟨a, _⟩ | ⟨_, a, _⟩ <;> omega
def takF (X : Nat → S1) (n : Nat) : Nat → S1 := if n = 0 then X else put X n ⟨false, (X n).hd, (X n).hw⟩
def chiF (X : Nat → S1) : Nat → S1 := fun n => ⟨false, (X n).hd, (X n).hw⟩
/-- Who is ignored does not wait. -/
def Inv (X : Nat → S1) : Prop := (X 0).wt = false ∧ ∀ n : Nat, 1 ≤ n → n ≤ 8 → ign n (X n).hw = true → (X n).wt = false
theorem inv0 : Inv nul := ⟨rfl, fun _ _ _ _ => rfl⟩
theorem isE_no {z : Int} (h : z < 1 ∨ 8 < z) : isE z = 1 := if_pos h
theorem isE_ok {z : Int} (h1 : 1 ≤ z) (h2 : z ≤ 8) : isE z = 0 := if_neg (by omega)
theorem isE_0 {z : Int} (h : isE z = 0) : 1 ≤ z ∧ z ≤ 8 := by
  unfold isE at h
  split at h <;> omega
theorem Inv.put {X : Nat → S1} (h : Inv X) {n : Nat} (hn : n ≠ 0) {x : S1} (hx : ign n x.hw = true → x.wt = false) : Inv (put X n x) := by
  refine ⟨by rw [put_ne _ _ _ _ (Ne.symm hn)]; exact h.1, fun m h1 h2 hi => ?_⟩
  by_cases e : m = n
  · subst e
    rw [put_same] at hi ⊢
    exact hx hi
  · rw [put_ne _ _ _ _ e] at hi ⊢
    exact h.2 m h1 h2 hi
theorem Inv.sen {X : Nat → S1} (h : Inv X) (z : Int) : Inv (senF X z) := by
  unfold senF
  by_cases c : isE z = 0
  · rw [if_pos c]
    have := isE_0 c
    refine h.put (by omega) (fun hi => ?_)
    rw [Int.toNat_of_nonneg (by omega)] at hi
    show (!ign z (X z.toNat).hw) = false
    rw [show ign z (X z.toNat).hw = true from hi]
    rfl
  · rw [if_neg c]; exact h
theorem holE_0 {z : Int} (h : holE z = 0) : 1 < z ∧ z ≤ 8 := by
  unfold holE at h
  by_cases c : isE z = 0
  · have := isE_0 c
    rw [if_neg (fun d => d c)] at h
    by_cases d : z = 1
    · rw [if_pos d] at h; omega
    · omega
  · rw [if_pos c] at h; omega
theorem howE_0 {z k : Int} (h : howE z k = 0) : 1 < z ∧ z ≤ 8 ∧ 0 ≤ k ∧ k ≤ 2 := by
  unfold howE at h
  by_cases c : isE z = 0
  · have := isE_0 c
    rw [if_neg (fun d => d c)] at h
    by_cases e : k < 0 ∨ 2 < k
    · rw [if_pos e] at h; omega
    · rw [if_neg e] at h
      by_cases d : z = 1
      · rw [if_pos d] at h; omega
      · omega
  · rw [if_pos c] at h; omega
theorem Inv.hol {X : Nat → S1} (h : Inv X) (z : Int) (on : Bool) : Inv (holF X z on) := by
  unfold holF
  by_cases c : holE z = 0
  · rw [if_pos c]
    have := holE_0 c
    exact h.put (by omega) (fun hi => h.2 _ (by omega) (by omega) hi)
  · rw [if_neg c]; exact h
theorem Inv.how {X : Nat → S1} (h : Inv X) (z k : Int) : Inv (howF X z k) := by
  unfold howF
  by_cases c : howE z k = 0
  · rw [if_pos c]
    have := howE_0 c
    refine h.put (by omega) (fun hi => ?_)
    rw [Int.toNat_of_nonneg (by omega)] at hi
    show ((X z.toNat).wt && !ign z k) = false
    rw [show ign z k = true from hi]
    simp
  · rw [if_neg c]; exact h
theorem Inv.tak {X : Nat → S1} (h : Inv X) (n : Nat) : Inv (takF X n) := by
  unfold takF
  by_cases c : n = 0
  · rw [if_pos c]; exact h
  · rw [if_neg c]
    exact h.put c (fun _ => rfl)
theorem Inv.chi {X : Nat → S1} : Inv (chiF X) := ⟨rfl, fun _ _ _ _ => rfl⟩
theorem isE_nn (z : Int) : 0 ≤ isE z := by unfold isE; split <;> omega
theorem holE_nn (z : Int) : 0 ≤ holE z := by unfold holE; repeat' split
                                             all_goals omega
theorem howE_nn (z k : Int) : 0 ≤ howE z k := by unfold howE; repeat' split
                                                 all_goals omega
def cel (x : S1) : Nat → Value
  | 0 => .bool x.wt
  | 1 => .bool x.hd
  | _ => .int .i64 x.hw
end Sg
open Sg (S1)

/-- The code's box: eight of three cells each. -/
structure CX (w : World) (b : Nat) (X : Nat → S1) : Prop where
  blk : ∃ C T, w.heap[b]? = some (.cells C T (0, 0)) ∧ C.size = 24
  cel : ∀ i, i < 8 → ∀ j, j < 3 → w.cell? ⟨b, i * 3 + j, none⟩ = some (Sg.cel (X (i + 1)) j)
section
variable {w w' : World} {b : Nat} {X : Nat → S1}
theorem CX.lt (h : CX w b X) : b < w.heap.size := by
  obtain ⟨C, T, e, _⟩ := h.blk
  exact (Array.getElem?_eq_some_iff.1 e).1
theorem CX.frozen (h : CX w b X) (o : Nat) : w.frozen? ⟨b, o, none⟩ = false := by
  obtain ⟨C, T, e, _⟩ := h.blk
  exact frozen_blk e o
theorem CX.isS (h : CX w b X) (o : Nat) (ho : o < 24) : (w.cell? ⟨b, o, none⟩).isSome = true := by
  obtain ⟨C, T, e, hC⟩ := h.blk
  rw [cell_blk e, Array.getElem?_eq_getElem (by omega)]; rfl
theorem CX.same (h : CX w b X) (e : w'.heap[b]? = w.heap[b]?) : CX w' b X := by
  have hc : ∀ o, w'.cell? ⟨b, o, none⟩ = w.cell? ⟨b, o, none⟩ := fun o => World.cell?_of_block e
  exact ⟨by rw [e]; exact h.blk, fun i hi j hj => (hc _).trans (h.cel i hi j hj)⟩
theorem CX.drew (h : CX w b X) : CX w.drew b X := h.same rfl
theorem CX.drewN (h : CX w b X) (n : Nat) : CX (w.drewN n) b X := h.same rfl
theorem CX.below {B : Nat} (h : CX w b X) (k : Below B w w') (hb : b < B) : CX w' b X := h.same (k.block b hb)
theorem CX.frm {c : Nat} (h : CX w b X) (k : Frm c w w') (hb : b ≠ c) : CX w' b X := h.same (k.block b h.lt hb)
theorem CX.wt (h : CX w b X) (i : Nat) (hi : i < 8) : w.cell? ⟨b, i * 3, none⟩ = some (.bool (X (i + 1)).wt) := h.cel i hi 0 (by omega)
theorem CX.hd (h : CX w b X) (i : Nat) (hi : i < 8) : w.cell? ⟨b, i * 3 + 1, none⟩ = some (.bool (X (i + 1)).hd) := h.cel i hi 1 (by omega)
theorem CX.hw (h : CX w b X) (i : Nat) (hi : i < 8) : w.cell? ⟨b, i * 3 + 2, none⟩ = some (.int .i64 (X (i + 1)).hw) := h.cel i hi 2 (by omega)
theorem CX.set (h : CX w b X) (i j : Nat) (hi : i < 8) (hj : j < 3) (x : S1) (hx : ∀ k, k < 3 → k ≠ j → Sg.cel x k = Sg.cel (X (i + 1)) k) : CX (w.setCell ⟨b, i * 3 + j, none⟩ (Sg.cel x j)) b (Sg.put X (i + 1) x) := by
  obtain ⟨C, T, e, hC⟩ := h.blk
  refine ⟨⟨_, T, blk_set e _ _, by simpa using hC⟩, fun m hm k hk => ?_⟩
  by_cases c : m = i
  · subst c
    rw [Sg.put_same]
    by_cases d : k = j
    · subst d
      exact cell_set_same e _ _ (by omega)
    · rw [cell_set_ne e _ _ _ (by omega), h.cel m hm k hk, hx k hk d]
  · rw [Sg.put_ne _ _ _ _ (by omega), cell_set_ne e _ _ _ (by omega), h.cel m hm k hk]
theorem CX.setW (h : CX w b X) (i : Nat) (hi : i < 8) (v : Bool) : CX (w.setCell ⟨b, i * 3, none⟩ (.bool v)) b (Sg.put X (i + 1) ⟨v, (X (i + 1)).hd, (X (i + 1)).hw⟩) :=
  h.set i 0 hi (by omega) ⟨v, (X (i + 1)).hd, (X (i + 1)).hw⟩ (fun k hk hn => by match k, hk, hn with | 1, _, _ => rfl | 2, _, _ => rfl)
theorem CX.setH (h : CX w b X) (i : Nat) (hi : i < 8) (v : Bool) : CX (w.setCell ⟨b, i * 3 + 1, none⟩ (.bool v)) b (Sg.put X (i + 1) ⟨(X (i + 1)).wt, v, (X (i + 1)).hw⟩) :=
  h.set i 1 hi (by omega) ⟨(X (i + 1)).wt, v, (X (i + 1)).hw⟩ (fun k hk hn => by match k, hk, hn with | 0, _, _ => rfl | 2, _, _ => rfl)
theorem CX.setK (h : CX w b X) (i : Nat) (hi : i < 8) (v : Int) : CX (w.setCell ⟨b, i * 3 + 2, none⟩ (.int .i64 v)) b (Sg.put X (i + 1) ⟨(X (i + 1)).wt, (X (i + 1)).hd, v⟩) :=
  h.set i 2 hi (by omega) ⟨(X (i + 1)).wt, (X (i + 1)).hd, v⟩ (fun k hk hn => by match k, hk, hn with | 0, _, _ => rfl | 1, _, _ => rfl | 2, _, h => exact absurd rfl h)
end
set_option maxRecDepth 100000 in
set_option maxHeartbeats 400000 in
theorem sig_ok (b : Nat) (z : Int) (w : World) (h1 : 1 ≤ z) (h2 : z ≤ 8) :
    Calls Try.prog 20 #[.pointer (some ⟨b, 0, none⟩), .int .i64 z] w fun e w' => e = .returned (.tuple #[.pointer (some ⟨b, (z.toNat - 1) * 3, none⟩), .nilIface]) ∧ w' = w := by
  have : z = 1 ∨ z = 2 ∨ z = 3 ∨ z = 4 ∨ z = 5 ∨ z = 6 ∨ z = 7 ∨ z = 8 := by omega
  rcases this with rfl | rfl | rfl | rfl | rfl | rfl | rfl | rfl
  all_goals
    go_enter Try.func20, Try.ntmps20
    go_wp2_with fail
    go_ret2
    exact ⟨rfl, rfl⟩
set_option maxRecDepth 100000 in
set_option maxHeartbeats 400000 in
theorem sig_no (b : Nat) (z : Int) (w : World) (h : z < 1 ∨ 8 < z) :
    Calls Try.prog 20 #[.pointer (some ⟨b, 0, none⟩), .int .i64 z] w fun e w' => e = .returned (.tuple #[.pointer none, .iface 54 (.int .i64 1)]) ∧ w' = w := by
  by_cases c : z < 1
  · clear h
    go_enter Try.func20, Try.ntmps20
    go_wp2_with fail
    go_ret2
    exact ⟨rfl, rfl⟩
  · have c2 : 8 < z := by omega
    clear h
    go_enter Try.func20, Try.ntmps20
    go_wp2_with fail
    go_ret2
    exact ⟨rfl, rfl⟩
set_option maxRecDepth 100000 in
set_option maxHeartbeats 400000 in
theorem ign_any (b o : Nat) (z k : Int) (w : World) (c : w.cell? ⟨b, o + 2, none⟩ = some (.int .i64 k)) :
    Calls Try.prog 21 #[.pointer (some ⟨b, o, none⟩), .int .i64 z] w fun e w' => e = .returned (.bool (Sg.ign z k)) ∧ w' = w := by
  by_cases k1 : k = 1
  · have E : Hid (Sg.ign z k = true) := Hid.intro (by unfold Sg.ign; simp [k1])
    rw [E.out]
    have k1' : (k == 1) = true := by simp [k1]
    clear k1
    go_enter Try.func21, Try.ntmps21
    go_wp2_with fail
    go_ret
    exact ⟨rfl, rfl⟩
  · have k1' : (k == 1) = false := by simp [k1]
    by_cases z3 : z = 3
    · have E : Hid (Sg.ign z k = (k == 0)) := Hid.intro (by unfold Sg.ign; simp [k1, z3]; rfl)
      rw [E.out]
      subst z3
      clear k1
      go_enter Try.func21, Try.ntmps21
      go_wp2_with fail
      go_ret
      exact ⟨rfl, rfl⟩
    · have E : Hid (Sg.ign z k = false) := Hid.intro (by unfold Sg.ign; simp [k1, z3])
      rw [E.out]
      have z3' : (z == 3) = false := by simp [z3]
      clear k1 z3
      go_enter Try.func21, Try.ntmps21
      go_wp2_with fail
      go_ret
      exact ⟨rfl, rfl⟩
end Go.Proofs.Ytpdphbhlnfeijaa

import Derived.Laws.Rows
import Derived.Deep.CutRange
import Derived.Deep.CutBlock
import Derived.Deep.DeepCutAuto
import Derived.Laws.Tables
import Derived.Test.YtghogbngmcolmaaGreatSaa
namespace Go.Proofs.YtghogbngmcolmaaGreat
open Go.RowKit
namespace Sg
structure S1 where
  wt : Bool
  hd : Bool
  hw : Int
def nul : Nat → S1 := fun _ => ⟨false, false, 0⟩
def put (X : Nat → S1) (n : Nat) (x : S1) : Nat → S1 := fun m => if m = n then x else X m
theorem put_same (X : Nat → S1) (n : Nat) (x : S1) : put X n x n = x := if_pos rfl
theorem put_ne (X : Nat → S1) (n : Nat) (x : S1) (m : Nat) (h : m ≠ n) : put X n x m = X m := if_neg h
theorem put_put (X : Nat → S1) (n : Nat) (x y : S1) : put (put X n x) n y = put X n y := by
  funext m
  unfold put
  split <;> rfl
def ign (z h : Int) : Bool := decide (h = 1) || (decide (z = 3) && decide (h = 0))
def isE (z : Int) : Int := if z < 1 ∨ 8 < z then 1 else 0
def holE (z : Int) : Int := if isE z ≠ 0 then 1 else if z = 1 then 8 else 0
def howE (z h : Int) : Int := if isE z ≠ 0 then 1 else if h < 0 ∨ 2 < h then 1 else if z = 1 then 8 else 0
def senF (X : Nat → S1) (z : Int) : Nat → S1 := if isE z = 0 then put X z.toNat ⟨!ign z (X z.toNat).hw, (X z.toNat).hd, (X z.toNat).hw⟩ else X
def holF (X : Nat → S1) (z : Int) (on : Bool) : Nat → S1 := if holE z = 0 then put X z.toNat ⟨(X z.toNat).wt, on, (X z.toNat).hw⟩ else X
def howF (X : Nat → S1) (z h : Int) : Nat → S1 := if howE z h = 0 then put X z.toNat ⟨(X z.toNat).wt && !ign z h, (X z.toNat).hd, h⟩ else X
def ok (X : Nat → S1) (h : Int) (n : Nat) : Bool := (X n).wt && !(X n).hd && decide ((X n).hw = h)
def FirTo (X : Nat → S1) (h : Int) (n : Nat) : Prop := (n = 0 ∧ ∀ j, 1 ≤ j → j ≤ 8 → ok X h j = false) ∨ (1 ≤ n ∧ n ≤ 8 ∧ ok X h n = true ∧ ∀ j, 1 ≤ j → j < n → ok X h j = false)
theorem FirTo.unique {X : Nat → S1} {h : Int} {n m : Nat} (a : FirTo X h n) (b : FirTo X h m) : n = m := by
  rcases a with ⟨a0, a1⟩ | ⟨a1, a2, a3, a4⟩
  · rcases b with ⟨b0, _⟩ | ⟨b1, b2, b3, _⟩
    · omega
    · rw [a1 m b1 b2] at b3; cases b3
  · rcases b with ⟨b0, b1⟩ | ⟨b1, b2, b3, b4⟩
    · rw [b1 n a1 a2] at a3; cases a3
    · rcases Nat.lt_trichotomy n m with c | c | c
      · rw [b4 n a1 c] at a3; cases a3
      · exact c
      · rw [a4 m b1 c] at b3; cases b3
theorem FirTo.le {X : Nat → S1} {h : Int} {n : Nat} (a : FirTo X h n) : n ≤ 8 := by
  rcases a with ⟨a, _⟩ | ⟨_, a, _⟩ <;> omega
def takF (X : Nat → S1) (n : Nat) : Nat → S1 := if n = 0 then X else put X n ⟨false, (X n).hd, (X n).hw⟩
def chiF (X : Nat → S1) : Nat → S1 := fun n => ⟨false, (X n).hd, (X n).hw⟩
theorem isE_no {z : Int} (h : z < 1 ∨ 8 < z) : isE z = 1 := if_pos h
theorem isE_ok {z : Int} (h1 : 1 ≤ z) (h2 : z ≤ 8) : isE z = 0 := if_neg (by omega)
theorem isE_0 {z : Int} (h : isE z = 0) : 1 ≤ z ∧ z ≤ 8 := by
  unfold isE at h
  split at h <;> omega
theorem holE_0 {z : Int} (h : holE z = 0) : 1 < z ∧ z ≤ 8 := by
  unfold holE at h
  by_cases c : isE z = 0
  · have := isE_0 c
    rw [if_neg (fun d => d c)] at h
    by_cases d : z = 1
    · rw [if_pos d] at h; omega
    · omega
  · rw [if_pos c] at h; omega
theorem howE_0 {z k : Int} (h : howE z k = 0) : 1 < z ∧ z ≤ 8 ∧ 0 ≤ k ∧ k ≤ 2 := by
  unfold howE at h
  by_cases c : isE z = 0
  · have := isE_0 c
    rw [if_neg (fun d => d c)] at h
    by_cases e : k < 0 ∨ 2 < k
    · rw [if_pos e] at h; omega
    · rw [if_neg e] at h
      by_cases d : z = 1
      · rw [if_pos d] at h; omega
      · omega
  · rw [if_pos c] at h; omega
def cel (x : S1) : Nat → Value
  | 0 => .bool x.wt
  | 1 => .bool x.hd
  | _ => .int .i64 x.hw
end Sg
open Sg (S1)
structure CX (w : World) (b : Nat) (X : Nat → S1) : Prop where
  blk : ∃ C T, w.heap[b]? = some (.cells C T (0, 0)) ∧ C.size = 24
  cel : ∀ i, i < 8 → ∀ j, j < 3 → w.cell? ⟨b, i * 3 + j, none⟩ = some (Sg.cel (X (i + 1)) j)
section
variable {w w' : World} {b : Nat} {X : Nat → S1}
theorem CX.lt (h : CX w b X) : b < w.heap.size := by
  obtain ⟨C, T, e, _⟩ := h.blk
  exact (Array.getElem?_eq_some_iff.1 e).1
theorem CX.frozen (h : CX w b X) (o : Nat) : w.frozen? ⟨b, o, none⟩ = false := by
  obtain ⟨C, T, e, _⟩ := h.blk
  exact frozen_blk e o
theorem CX.same (h : CX w b X) (e : w'.heap[b]? = w.heap[b]?) : CX w' b X := by
  have hc : ∀ o, w'.cell? ⟨b, o, none⟩ = w.cell? ⟨b, o, none⟩ := fun o => World.cell?_of_block e
  exact ⟨by rw [e]; exact h.blk, fun i hi j hj => (hc _).trans (h.cel i hi j hj)⟩
theorem CX.drew (h : CX w b X) : CX w.drew b X := h.same rfl
theorem CX.below {B : Nat} (h : CX w b X) (k : Below B w w') (hb : b < B) : CX w' b X := h.same (k.block b hb)
theorem CX.wt (h : CX w b X) (i : Nat) (hi : i < 8) : w.cell? ⟨b, i * 3, none⟩ = some (.bool (X (i + 1)).wt) := h.cel i hi 0 (by omega)
theorem CX.hd (h : CX w b X) (i : Nat) (hi : i < 8) : w.cell? ⟨b, i * 3 + 1, none⟩ = some (.bool (X (i + 1)).hd) := h.cel i hi 1 (by omega)
theorem CX.hw (h : CX w b X) (i : Nat) (hi : i < 8) : w.cell? ⟨b, i * 3 + 2, none⟩ = some (.int .i64 (X (i + 1)).hw) := h.cel i hi 2 (by omega)
theorem CX.set (h : CX w b X) (i j : Nat) (hi : i < 8) (hj : j < 3) (x : S1) (hx : ∀ k, k < 3 → k ≠ j → Sg.cel x k = Sg.cel (X (i + 1)) k) : CX (w.setCell ⟨b, i * 3 + j, none⟩ (Sg.cel x j)) b (Sg.put X (i + 1) x) := by
  obtain ⟨C, T, e, hC⟩ := h.blk
  refine ⟨⟨_, T, blk_set e _ _, by simpa using hC⟩, fun m hm k hk => ?_⟩
  by_cases c : m = i
  · subst c
    rw [Sg.put_same]
    by_cases d : k = j
    · subst d
      exact cell_set_same e _ _ (by omega)
    · rw [cell_set_ne e _ _ _ (by omega), h.cel m hm k hk, hx k hk d]
  · rw [Sg.put_ne _ _ _ _ (by omega), cell_set_ne e _ _ _ (by omega), h.cel m hm k hk]
theorem CX.setW (h : CX w b X) (i : Nat) (hi : i < 8) (v : Bool) : CX (w.setCell ⟨b, i * 3, none⟩ (.bool v)) b (Sg.put X (i + 1) ⟨v, (X (i + 1)).hd, (X (i + 1)).hw⟩) :=
  h.set i 0 hi (by omega) ⟨v, (X (i + 1)).hd, (X (i + 1)).hw⟩ (fun k hk hn => by match k, hk, hn with | 1, _, _ => rfl | 2, _, _ => rfl)
theorem CX.setH (h : CX w b X) (i : Nat) (hi : i < 8) (v : Bool) : CX (w.setCell ⟨b, i * 3 + 1, none⟩ (.bool v)) b (Sg.put X (i + 1) ⟨(X (i + 1)).wt, v, (X (i + 1)).hw⟩) :=
  h.set i 1 hi (by omega) ⟨(X (i + 1)).wt, v, (X (i + 1)).hw⟩ (fun k hk hn => by match k, hk, hn with | 0, _, _ => rfl | 2, _, _ => rfl)
theorem CX.setK (h : CX w b X) (i : Nat) (hi : i < 8) (v : Int) : CX (w.setCell ⟨b, i * 3 + 2, none⟩ (.int .i64 v)) b (Sg.put X (i + 1) ⟨(X (i + 1)).wt, (X (i + 1)).hd, v⟩) :=
  h.set i 2 hi (by omega) ⟨(X (i + 1)).wt, (X (i + 1)).hd, v⟩ (fun k hk hn => by match k, hk, hn with | 0, _, _ => rfl | 1, _, _ => rfl | 2, _, h => exact absurd rfl h)
end
set_option maxRecDepth 100000 in
set_option maxHeartbeats 400000 in
theorem sig_ok (b : Nat) (z : Int) (w : World) (h1 : 1 ≤ z) (h2 : z ≤ 8) :
    Calls Tryz.prog 92 #[.pointer (some ⟨b, 0, none⟩), .int .i64 z] w fun e w' => e = .returned (.tuple #[.pointer (some ⟨b, (z.toNat - 1) * 3, none⟩), .nilIface]) ∧ w' = w := by
  have : z = 1 ∨ z = 2 ∨ z = 3 ∨ z = 4 ∨ z = 5 ∨ z = 6 ∨ z = 7 ∨ z = 8 := by omega
  rcases this with rfl | rfl | rfl | rfl | rfl | rfl | rfl | rfl
  all_goals
    go_enter Tryz.func92, Tryz.ntmps92
    go_wp2_with fail
    go_ret2
    exact ⟨rfl, rfl⟩
set_option maxRecDepth 100000 in
set_option maxHeartbeats 400000 in
theorem sig_no (b : Nat) (z : Int) (w : World) (h : z < 1 ∨ 8 < z) :
    Calls Tryz.prog 92 #[.pointer (some ⟨b, 0, none⟩), .int .i64 z] w fun e w' => e = .returned (.tuple #[.pointer none, .iface 60 (.int .i64 1)]) ∧ w' = w := by
  by_cases c : z < 1
  · clear h
    go_enter Tryz.func92, Tryz.ntmps92
    go_wp2_with fail
    go_ret2
    exact ⟨rfl, rfl⟩
  · have c2 : 8 < z := by omega
    clear h
    go_enter Tryz.func92, Tryz.ntmps92
    go_wp2_with fail
    go_ret2
    exact ⟨rfl, rfl⟩
set_option maxRecDepth 100000 in
set_option maxHeartbeats 400000 in
theorem ign_any (b o : Nat) (z k : Int) (w : World) (c : w.cell? ⟨b, o + 2, none⟩ = some (.int .i64 k)) :
    Calls Tryz.prog 93 #[.pointer (some ⟨b, o, none⟩), .int .i64 z] w fun e w' => e = .returned (.bool (Sg.ign z k)) ∧ w' = w := by
  by_cases k1 : k = 1
  · have E : Hid (Sg.ign z k = true) := Hid.intro (by unfold Sg.ign; simp [k1])
    rw [E.out]
    have k1' : (k == 1) = true := by simp [k1]
    clear k1
    go_enter Tryz.func93, Tryz.ntmps93
    go_wp2_with fail
    go_ret
    exact ⟨rfl, rfl⟩
  · have k1' : (k == 1) = false := by simp [k1]
    by_cases z3 : z = 3
    · have E : Hid (Sg.ign z k = (k == 0)) := Hid.intro (by unfold Sg.ign; simp [k1, z3]; rfl)
      rw [E.out]
      subst z3
      clear k1
      go_enter Tryz.func93, Tryz.ntmps93
      go_wp2_with fail
      go_ret
      exact ⟨rfl, rfl⟩
    · have E : Hid (Sg.ign z k = false) := Hid.intro (by unfold Sg.ign; simp [k1, z3])
      rw [E.out]
      have z3' : (z == 3) = false := by simp [z3]
      clear k1 z3
      go_enter Tryz.func93, Tryz.ntmps93
      go_wp2_with fail
      go_ret
      exact ⟨rfl, rfl⟩
end Go.Proofs.YtghogbngmcolmaaGreat
namespace Go.Proofs.YtghogbngmcolmaaGreat
open Go.RowKit
open Sg (S1)
theorem Sg.at_ok {z : Int} (h1 : 1 ≤ z) (h2 : z ≤ 8) : ∃ i : Nat, i < 8 ∧ z.toNat = i + 1 ∧ z.toNat - 1 = i := ⟨z.toNat - 1, by omega, by omega, rfl⟩
set_option maxRecDepth 100000 in
set_option maxHeartbeats 400000 in
theorem send_any (b : Nat) (z : Int) (X : Nat → S1) (w : World) (h : CX w b X) :
    Calls Tryz.prog 88 #[.pointer (some ⟨b, 0, none⟩), .int .i64 z] w fun e w' => e = .returned (errV (Sg.isE z)) ∧ CX w' b (Sg.senF X z) ∧ Frm b w w' := by
  have HF := Hid.intro h
  by_cases c : z < 1 ∨ 8 < z
  · have E : Hid (Sg.isE z = 1 ∧ Sg.senF X z = X) := Hid.intro ⟨Sg.isE_no c, if_neg (by rw [Sg.isE_no c]; decide)⟩
    have C := Hid.intro c
    clear c h
    go_enter Tryz.func88, Tryz.ntmps88
    go_wp2_with fail
    refine (sig_no b z _ C.out).mono ?_
    rintro e w1 ⟨rfl, hw1⟩
    subst w1
    go_wp2_with fail
    go_ret
    rw [E.out.1, E.out.2]
    exact ⟨rfl, HF.out, Frm.refl _ _⟩
  · have z1 : 1 ≤ z := by omega
    have z8 : z ≤ 8 := by omega
    obtain ⟨i, hi, hz, hz'⟩ := Sg.at_ok z1 z8
    have c2 := h.hw i hi
    have fz := h.frozen (i * 3)
    have is := h.wt i hi
    have E : Hid (Sg.isE z = 0 ∧ Sg.senF X z = Sg.put X (i + 1) ⟨!Sg.ign z (X (i + 1)).hw, (X (i + 1)).hd, (X (i + 1)).hw⟩) := Hid.intro ⟨Sg.isE_ok z1 z8, by unfold Sg.senF; rw [if_pos (Sg.isE_ok z1 z8), hz]⟩
    have SG : Hid (∀ W, Calls Tryz.prog 92 #[.pointer (some ⟨b, 0, none⟩), .int .i64 z] W fun e w' => e = .returned (.tuple #[.pointer (some ⟨b, i * 3, none⟩), .nilIface]) ∧ w' = W) := Hid.intro (fun W => by
      have := sig_ok b z W z1 z8
      rw [hz'] at this
      exact this)
    obtain ⟨K, hK⟩ : ∃ K, (X (i + 1)).hw = K := ⟨_, rfl⟩
    rw [hK] at c2
    have HK := Hid.intro hK
    clear c h z1 z8 hz hz' hK
    go_enter Tryz.func88, Tryz.ntmps88
    go_wp2_with fail
    refine (SG.out _).mono ?_
    rintro e w1 ⟨rfl, hw1⟩
    subst w1
    go_wp2_with fail
    refine (ign_any b (i * 3) z K _ c2).mono ?_
    rintro e w1 ⟨rfl, hw1⟩
    subst w1
    go_wp2_with fail
    go_ret
    rw [E.out.1, E.out.2]
    refine ⟨rfl, ?_, (Frm.refl _ _).setCell _ _⟩
    have := HF.out.setW i hi (!Sg.ign z (X (i + 1)).hw)
    rw [HK.out] at this ⊢
    exact this
set_option maxRecDepth 100000 in
set_option maxHeartbeats 400000 in
theorem sghold_any (b : Nat) (z : Int) (on : Bool) (X : Nat → S1) (w : World) (h : CX w b X) :
    Calls Tryz.prog 49 #[.pointer (some ⟨b, 0, none⟩), .int .i64 z, .bool on] w fun e w' => e = .returned (errV (Sg.holE z)) ∧ CX w' b (Sg.holF X z on) ∧ Frm b w w' := by
  have HF := Hid.intro h
  by_cases c : z < 1 ∨ 8 < z
  · have e0 : Sg.holE z = 1 := by unfold Sg.holE; rw [Sg.isE_no c]; rfl
    have E : Hid (Sg.holE z = 1 ∧ Sg.holF X z on = X) := Hid.intro ⟨e0, if_neg (by rw [e0]; decide)⟩
    have C := Hid.intro c
    clear c h e0
    go_enter Tryz.func49, Tryz.ntmps49
    go_wp2_with fail
    refine (sig_no b z _ C.out).mono ?_
    rintro e w1 ⟨rfl, hw1⟩
    subst w1
    go_wp2_with fail
    go_ret
    rw [E.out.1, E.out.2]
    exact ⟨rfl, HF.out, Frm.refl _ _⟩
  · have z1 : 1 ≤ z := by omega
    have z8 : z ≤ 8 := by omega
    obtain ⟨i, hi, hz, hz'⟩ := Sg.at_ok z1 z8
    have fz := h.frozen (i * 3 + 1)
    have is := h.hd i hi
    have SG : Hid (∀ W, Calls Tryz.prog 92 #[.pointer (some ⟨b, 0, none⟩), .int .i64 z] W fun e w' => e = .returned (.tuple #[.pointer (some ⟨b, i * 3, none⟩), .nilIface]) ∧ w' = W) := Hid.intro (fun W => by
      have := sig_ok b z W z1 z8
      rw [hz'] at this
      exact this)
    by_cases k1 : z = 1
    · have e0 : Sg.holE z = 8 := by unfold Sg.holE; rw [Sg.isE_ok z1 z8, if_neg (fun d => d rfl), if_pos k1]
      have E : Hid (Sg.holE z = 8 ∧ Sg.holF X z on = X) := Hid.intro ⟨e0, if_neg (by rw [e0]; decide)⟩
      have k1' : (z == 1) = true := by simp [k1]
      clear c h z1 z8 hz hz' k1 e0
      go_enter Tryz.func49, Tryz.ntmps49
      go_wp2_with fail
      refine (SG.out _).mono ?_
      rintro e w1 ⟨rfl, hw1⟩
      subst w1
      go_wp2_with fail
      go_ret
      rw [E.out.1, E.out.2]
      exact ⟨rfl, HF.out, Frm.refl _ _⟩
    · have e0 : Sg.holE z = 0 := by unfold Sg.holE; rw [Sg.isE_ok z1 z8, if_neg (fun d => d rfl), if_neg k1]
      have E : Hid (Sg.holE z = 0 ∧ Sg.holF X z on = Sg.put X (i + 1) ⟨(X (i + 1)).wt, on, (X (i + 1)).hw⟩) := Hid.intro ⟨e0, by unfold Sg.holF; rw [if_pos e0, hz]⟩
      have k1' : (z == 1) = false := by simp [k1]
      clear c h z1 z8 hz hz' k1 e0
      go_enter Tryz.func49, Tryz.ntmps49
      go_wp2_with fail
      refine (SG.out _).mono ?_
      rintro e w1 ⟨rfl, hw1⟩
      subst w1
      go_wp2_with fail
      go_ret
      rw [E.out.1, E.out.2]
      exact ⟨rfl, HF.out.setH i hi on, (Frm.refl _ _).setCell _ _⟩
set_option maxRecDepth 100000 in
set_option maxHeartbeats 400000 in
theorem how_no (b : Nat) (z k : Int) (X : Nat → S1) (w : World) (h : CX w b X) (E0 : Sg.howE z k ≠ 0) :
    Calls Tryz.prog 47 #[.pointer (some ⟨b, 0, none⟩), .int .i64 z, .int .i64 k] w fun e w' => e = .returned (errV (Sg.howE z k)) ∧ CX w' b (Sg.howF X z k) ∧ Frm b w w' := by
  have HF := Hid.intro h
  have EF : Hid (Sg.howF X z k = X) := Hid.intro (if_neg E0)
  have N0 := Hid.intro E0
  clear E0
  by_cases c : z < 1 ∨ 8 < z
  · have e0 : Hid (Sg.howE z k = 1) := Hid.intro (by unfold Sg.howE; rw [Sg.isE_no c]; rfl)
    have C := Hid.intro c
    clear c h
    go_enter Tryz.func47, Tryz.ntmps47
    go_wp2_with fail
    refine (sig_no b z _ C.out).mono ?_
    rintro e w1 ⟨rfl, hw1⟩
    subst w1
    go_wp2_with fail
    go_ret
    rw [e0.out, EF.out]
    exact ⟨rfl, HF.out, Frm.refl _ _⟩
  · have z1 : 1 ≤ z := by omega
    have z8 : z ≤ 8 := by omega
    obtain ⟨i, hi, hz, hz'⟩ := Sg.at_ok z1 z8
    have SG : Hid (∀ W, Calls Tryz.prog 92 #[.pointer (some ⟨b, 0, none⟩), .int .i64 z] W fun e w' => e = .returned (.tuple #[.pointer (some ⟨b, i * 3, none⟩), .nilIface]) ∧ w' = W) := Hid.intro (fun W => by
      have := sig_ok b z W z1 z8
      rw [hz'] at this
      exact this)
    by_cases d : k < 0 ∨ 2 < k
    · have e0 : Hid (Sg.howE z k = 1) := Hid.intro (by unfold Sg.howE; rw [Sg.isE_ok z1 z8, if_neg (fun d => d rfl), if_pos d])
      have d0 : (k != 0) = true := by simp; omega
      have d1 : (k != 1) = true := by simp; omega
      have d2 : (k != 2) = true := by simp; omega
      have n0 : ¬ k = 0 := by omega
      have n1 : ¬ k = 1 := by omega
      have n2 : ¬ k = 2 := by omega
      clear c h z1 z8 hz hz' d
      go_enter Tryz.func47, Tryz.ntmps47
      go_wp2_with fail
      refine (SG.out _).mono ?_
      rintro e w1 ⟨rfl, hw1⟩
      subst w1
      go_wp2_with fail
      go_ret
      rw [e0.out, EF.out]
      exact ⟨rfl, HF.out, Frm.refl _ _⟩
    · by_cases k1 : z = 1
      · have e0 : Hid (Sg.howE z k = 8) := Hid.intro (by unfold Sg.howE; rw [Sg.isE_ok z1 z8, if_neg (fun d => d rfl), if_neg d, if_pos k1])
        have k1' : (z == 1) = true := by simp [k1]
        have kk : k = 0 ∨ k = 1 ∨ k = 2 := by omega
        clear c h z1 z8 hz hz' k1 d
        rcases kk with rfl | rfl | rfl
        all_goals
          go_enter Tryz.func47, Tryz.ntmps47
          go_wp2_with fail
          refine (SG.out _).mono ?_
          rintro e w1 ⟨rfl, hw1⟩
          subst w1
          go_wp2_with fail
          go_ret
          rw [e0.out, EF.out]
          exact ⟨rfl, HF.out, Frm.refl _ _⟩
      · exact absurd (show Sg.howE z k = 0 by unfold Sg.howE; rw [Sg.isE_ok z1 z8, if_neg (fun d => d rfl), if_neg d, if_neg k1]) N0.out
set_option maxRecDepth 100000 in
set_option maxHeartbeats 400000 in
theorem how_yes (b : Nat) (z k : Int) (X : Nat → S1) (w : World) (h : CX w b X) (E0 : Sg.howE z k = 0) :
    Calls Tryz.prog 47 #[.pointer (some ⟨b, 0, none⟩), .int .i64 z, .int .i64 k] w fun e w' => e = .returned (errV (Sg.howE z k)) ∧ CX w' b (Sg.howF X z k) ∧ Frm b w w' := by
  have HF := Hid.intro h
  obtain ⟨z1, z8, k0, k2⟩ := Sg.howE_0 E0
  obtain ⟨i, hi, hz, hz'⟩ := Sg.at_ok (show 1 ≤ z by omega) z8
  have E : Hid (Sg.howE z k = 0 ∧ Sg.howF X z k = Sg.put X (i + 1) ⟨(X (i + 1)).wt && !Sg.ign z k, (X (i + 1)).hd, k⟩) := Hid.intro ⟨E0, by unfold Sg.howF; rw [if_pos E0, hz]⟩
  have SG : Hid (∀ W, Calls Tryz.prog 92 #[.pointer (some ⟨b, 0, none⟩), .int .i64 z] W fun e w' => e = .returned (.tuple #[.pointer (some ⟨b, i * 3, none⟩), .nilIface]) ∧ w' = W) := Hid.intro (fun W => by
    have := sig_ok b z W (by omega) z8
    rw [hz'] at this
    exact this)
  have fz := h.frozen (i * 3 + 2)
  have is := h.hw i hi
  have k1' : (z == 1) = false := by simp; omega
  have kk : k = 0 ∨ k = 1 ∨ k = 2 := by omega
  obtain ⟨Y, hY⟩ : ∃ Y, Sg.put X (i + 1) ⟨(X (i + 1)).wt, (X (i + 1)).hd, k⟩ = Y := ⟨_, rfl⟩
  have S1 := Hid.intro (h.setK i hi k)
  rw [hY] at S1
  have F1 : Hid (Frm b w (w.setCell ⟨b, i * 3 + 2, none⟩ (.int .i64 k))) := Hid.intro ((Frm.refl _ _).setCell _ _)
  clear h z1 z8 hz hz' k0 k2 E0
  have FIN : Hid (∀ W, CX W b Y → Sg.ign z k = true → CX (W.setCell ⟨b, i * 3, none⟩ (.bool false)) b (Sg.howF X z k)) := Hid.intro (fun W hW hg => by
    have := hW.setW i hi false
    rw [← hY, Sg.put_same, Sg.put_put] at this
    rw [E.out.2, hg, Bool.not_true, Bool.and_false]
    exact this)
  have FI2 : Hid (∀ W, CX W b Y → Sg.ign z k = false → CX W b (Sg.howF X z k)) := Hid.intro (fun W hW hg => by
    rw [E.out.2, hg, Bool.not_false, Bool.and_true, hY]
    exact hW)
  have IG : Hid (∀ W, CX W b Y → W.cell? ⟨b, i * 3 + 2, none⟩ = some (.int .i64 k)) := Hid.intro (fun W hW => by
    have := hW.hw i hi
    rw [← hY, Sg.put_same] at this
    exact this)
  clear hY
  obtain ⟨G, hG⟩ : ∃ G, Sg.ign z k = G := ⟨_, rfl⟩
  have HG := Hid.intro hG
  clear hG
  rcases kk with rfl | rfl | rfl
  all_goals
    go_enter Tryz.func47, Tryz.ntmps47
    go_wp2_with fail
    refine (SG.out _).mono ?_
    rintro e w1 ⟨rfl, hw1⟩
    subst w1
    go_upto_region 9 with fail
    refine wp_gen (fun W' => CX W' b Y ∧ Frm b w W') ⟨S1.out, F1.out⟩ ?_
    rintro W1 ⟨f1, g1⟩
    have P1 := Hid.intro f1
    have G1 := Hid.intro g1
    have fy := f1.frozen (i * 3)
    have iy := f1.wt i hi
    clear f1 g1 fz is
    go_wp2_with fail
    refine (ign_any b (i * 3) z _ _ (IG.out _ P1.out)).mono ?_
    rintro e w1 ⟨rfl, hw1⟩
    subst w1
    rw [HG.out]
    cases G
    · go_wp2_with fail
      go_ret
      rw [E.out.1]
      exact ⟨rfl, FI2.out _ P1.out HG.out, G1.out⟩
    · go_wp2_with fail
      go_ret
      rw [E.out.1]
      exact ⟨rfl, FIN.out _ P1.out HG.out, G1.out.setCell _ _⟩
theorem how_any (b : Nat) (z k : Int) (X : Nat → S1) (w : World) (h : CX w b X) :
    Calls Tryz.prog 47 #[.pointer (some ⟨b, 0, none⟩), .int .i64 z, .int .i64 k] w fun e w' => e = .returned (errV (Sg.howE z k)) ∧ CX w' b (Sg.howF X z k) ∧ Frm b w w' := by
  by_cases c : Sg.howE z k = 0
  · exact how_yes b z k X w h c
  · exact how_no b z k X w h c
end Go.Proofs.YtghogbngmcolmaaGreat
namespace Go.Proofs.YtghogbngmcolmaaGreat
open Go.RowKit
open Sg (S1)
section
variable {P : Program}
theorem loadVar_at (w : World) (b o n : Nat) (ty e : TypeId) (cs : Array Value) (hc : ∀ j, j < cs.size → w.cell? ⟨b, o + j, none⟩ = cs[j]?)
    (hu : P.underlying ty = some (.array n e)) (hi : (P.info? ty).map (·.size) = some cs.size) : (loadVar ty ⟨b, o, none⟩).run P w = .ok (.agg cs) w := by
  have hl := run_loadCells_list (P := P) w ⟨b, o, none⟩ cs.toList (fun j v hv => by
    rw [Array.getElem?_toList] at hv
    rw [addNoneO, hc j (Array.getElem?_eq_some_iff.1 hv).1, hv])
  rw [Array.length_toList, Array.toArray_toList] at hl
  obtain ⟨i, hq, hs⟩ := Option.map_eq_some_iff.1 hi
  have ha : (isAgg ty).run P w = .ok true w := by unfold isAgg; rw [Sem.run_bind, run_underlying hu w]; simp
  simp [loadVar, Sem.run_bind, ha, sizeOf, typeInfo, hq, hs, hl]
theorem wpList_load_at {ops : Array Oper} {rest : List Oper} {x : Oper} {a : Act} {w : World} {Q : Exit → Act → World → Prop} (hgd : x.guard = none) (ty : TypeId) (y : Operand) (ho : x.op = .load ty y)
    (b o : Nat) (hx : a.eval y = .pointer (some ⟨b, o, none⟩)) (cs : Array Value) (n : Nat) (e : TypeId) (hc : ∀ j, j < cs.size → w.cell? ⟨b, o + j, none⟩ = cs[j]?)
    (hu : P.underlying ty = some (.array n e)) (hi : (P.info? ty).map (·.size) = some cs.size)
    (h : wpList P ops Q rest (a.put x.dst (.agg cs)) w) : wpList P ops Q (x :: rest) a w :=
  wpList_plain hgd fun _ hK => by
    have := loadVar_at w b o n ty e cs hc hu hi
    unfold Oper.wp execOp
    simp only [ho, hx, Instr.loadAt, Instr.sureAddr, Sem.run_bind, Sem.run_pure, Result.andThen_ok, this]
    exact hK _ _ h
end
def boxA (X : Nat → S1) : Array Value := ((List.range 24).map fun o => Sg.cel (X (o / 3 + 1)) (o % 3)).toArray
theorem boxA_size (X : Nat → S1) : (boxA X).size = 24 := by simp [boxA]
theorem boxA_at (X : Nat → S1) (o : Nat) (h : o < 24) : (boxA X)[o]? = some (Sg.cel (X (o / 3 + 1)) (o % 3)) := by simp [boxA, h]
theorem boxA_ex (X : Nat → S1) (x : Nat) (h : x < 8) : (boxA X).extract (x * 3) (x * 3 + 3) = #[.bool (X (x + 1)).wt, .bool (X (x + 1)).hd, .int .i64 (X (x + 1)).hw] := by
  apply Array.ext_getElem?
  intro i
  rw [Array.getElem?_extract]
  by_cases hi : i < 3
  · rw [if_pos (by rw [boxA_size]; omega), boxA_at X _ (by omega), show (x * 3 + i) / 3 = x by omega, show (x * 3 + i) % 3 = i by omega]
    match i, hi with
    | 0, _ => rfl
    | 1, _ => rfl
    | 2, _ => rfl
  · rw [if_neg (by rw [boxA_size]; omega), Array.getElem?_eq_none (by simp; omega)]
theorem CX.all {w : World} {b : Nat} {X : Nat → S1} (h : CX w b X) (j : Nat) (hj : j < (boxA X).size) : w.cell? ⟨b, 0 + j, none⟩ = (boxA X)[j]? := by
  rw [boxA_size] at hj
  rw [boxA_at X j hj]
  have := h.cel (j / 3) (by omega) (j % 3) (by omega)
  rw [show j / 3 * 3 + j % 3 = 0 + j by omega] at this
  exact this
theorem CX.of_blk {w : World} {b : Nat} {X : Nat → S1} {T : TypeId} (h : w.heap[b]? = some (.cells (boxA X) T (0, 0))) : CX w b X :=
  ⟨⟨_, T, h, boxA_size X⟩, fun i hi j hj => by
    rw [cell_blk h, boxA_at X _ (by omega), show (i * 3 + j) / 3 = i by omega, show (i * 3 + j) % 3 = j by omega]⟩
theorem CX.congr {w : World} {b : Nat} {X Y : Nat → S1} (h : CX w b X) (e : ∀ n, 1 ≤ n → n ≤ 8 → X n = Y n) : CX w b Y :=
  ⟨h.blk, fun i hi j hj => by rw [← e (i + 1) (by omega) (by omega)]; exact h.cel i hi j hj⟩
theorem index_box (X : Nat → S1) (x : Nat) (h : x < 8) (w : World) : Sem.run Tryz.prog (Instr.index 155 (Value.agg (boxA X)) (Value.int IntKind.i64 x)) w = .ok (.agg #[.bool (X (x + 1)).wt, .bool (X (x + 1)).hd, .int .i64 (X (x + 1)).hw]) w := by
  have hu : Tryz.prog.underlying 155 = some (.array 8 152) := by kernel_rfl
  have hx := boxA_ex X x h
  have h1 : (x : Int) < 8 := by omega
  simp [Instr.index, Sem.run_bind, run_underlying hu, go_sem, hx]
  intro c; omega
set_option maxRecDepth 100000 in
theorem box_built (X : Nat → S1) : Tryz.prog.built 157 [(0, .agg (boxA X))] = some (boxA X) := by kernel_rfl
theorem box_zero : Tryz.prog.built 157 [] = some (boxA Sg.nul) := by kernel_rfl
section
variable {ops : Array Oper} {rest : List Oper} {x : Oper} {a : Act} {w : World} {Q : Exit → Act → World → Prop}
theorem wp_buildBox (A : Array Value) {y : Operand} (hgd : x.guard = none) (ho : x.op = .build 157 #[(0, y)]) (hy : a.eval y = .agg A) (hb : Tryz.prog.built 157 [(0, .agg A)] = some A) (h : wpList Tryz.prog ops Q rest (a.put x.dst (.agg A)) w) : wpList Tryz.prog ops Q (x :: rest) a w :=
  wpList_build hgd 157 #[(0, y)] ho (by simp [hy, hb]) (by simpa [hy, hb] using h)
theorem wp_buildBox0 (hgd : x.guard = none) (ho : x.op = .build 157 #[]) (h : wpList Tryz.prog ops Q rest (a.put x.dst (.agg (boxA Sg.nul))) w) : wpList Tryz.prog ops Q (x :: rest) a w :=
  wpList_build hgd 157 #[] ho (by simp [box_zero]) (by simpa [box_zero] using h)
end
def Sg.isB (n : Nat) : Bool := decide (0 < n)
set_option maxRecDepth 100000 in
set_option maxHeartbeats 1000000 in
theorem first_any (b : Nat) (k : Int) (X : Nat → S1) (w : World) (h : CX w b X) :
    Calls Tryz.prog 96 #[.pointer (some ⟨b, 0, none⟩), .int .i64 k] w fun e w' => ∃ n : Nat, e = .returned (.tuple #[.int .i64 n, .bool (Sg.isB n)]) ∧ Sg.FirTo X k n ∧ Below w.heap.size w w' := by
  have HS := Hid.intro h
  clear h
  have hsz : Hid ((Tryz.prog.info? 155).map (·.size) = some (boxA X).size) := Hid.intro (by rw [boxA_size]; kernel_rfl)
  go_enter Tryz.func96, Tryz.ntmps96
  go_wp2_with (refine wpList_load_at rfl 155 _ rfl b 0 rfl (boxA X) 8 152 HS.out.all (by kernel_rfl) hsz.out ?_)
  go_loopw [12] (fun i wr => ∃ (x : Nat), i = .int .i64 x ∧ x ≤ 8 ∧ Hid (Below w.heap.size w wr ∧ ∀ j, 1 ≤ j → j < x + 1 → Sg.ok X k j = false)) (fun i _ => 8 - (intOf i).toNat)
  case atStart => exact ⟨0, rfl, by omega, Below.refl _ _, fun j h1 h2 => by omega⟩
  case round =>
    obtain ⟨x, rfl, hx8, HN⟩ := hrel
    by_cases hx : x < 8
    · have hxI : (x : Int) < 8 := by omega
      have hix := index_box X x hx wr
      have HKB : Hid (Sg.ok X k (x + 1) = ((X (x + 1)).wt && !(X (x + 1)).hd && decide ((X (x + 1)).hw = k))) := Hid.intro rfl
      generalize (X (x + 1)).wt = ww at *
      generalize (X (x + 1)).hd = hh at *
      generalize (X (x + 1)).hw = kk at *
      have BL : Hid (∀ o, Below w.heap.size w (wr.alloc o)) := Hid.intro (fun o => HN.out.1.alloc HN.out.1.size o)
      have NX : Hid (Sg.ok X k (x + 1) = false → ∀ j, 1 ≤ j → j < x + 1 + 1 → Sg.ok X k j = false) := Hid.intro (fun c j h1 hj => by
        by_cases e : j = x + 1
        · rw [e]; exact c
        · exact HN.out.2 j h1 (by omega))
      cases ww
      · go_wp2_with fail
        go_roundw
        case rel => exact ⟨x + 1, by go_num, by omega, BL.out _, NX.out (by rw [HKB.out]; rfl)⟩
        case measure => simp [intOf]; omega
      · cases hh
        · by_cases hi : kk = k
          · subst hi
            go_wp2_with fail
            go_ret2
            exact ⟨x + 1, rfl, .inr ⟨by omega, by omega, by rw [HKB.out]; simp, HN.out.2⟩, BL.out _⟩
          · have hi' : (kk == k) = false := by simp; exact hi
            go_wp2_with fail
            go_roundw
            case rel => exact ⟨x + 1, by go_num, by omega, BL.out _, NX.out (by rw [HKB.out, decide_eq_false hi]; simp)⟩
            case measure => simp [intOf]; omega
        · go_wp2_with fail
          go_roundw
          case rel => exact ⟨x + 1, by go_num, by omega, BL.out _, NX.out (by rw [HKB.out]; rfl)⟩
          case measure => simp [intOf]; omega
    · have hxI : ¬ (x : Int) < 8 := by omega
      go_wp2_with fail
      go_ret2
      exact ⟨0, rfl, .inl ⟨rfl, fun j h1 h2 => HN.out.2 j h1 (by omega)⟩, HN.out.1⟩
set_option maxRecDepth 100000 in
set_option maxHeartbeats 400000 in
theorem ends_any (b : Nat) (X : Nat → S1) (w : World) (h : CX w b X) :
    Calls Tryz.prog 131 #[.pointer (some ⟨b, 0, none⟩)] w fun e w' => ∃ n : Nat, e = .returned (.tuple #[.int .i64 n, .bool (Sg.isB n)]) ∧ Sg.FirTo X 0 n ∧ Below w.heap.size w w' := by
  have HF := Hid.intro h
  clear h
  go_enter Tryz.func131, Tryz.ntmps131
  go_wp2_with fail
  refine (first_any b 0 X _ HF.out).mono ?_
  rintro e w1 ⟨n, rfl, hn, hb⟩
  have HN := Hid.intro hn
  have HB := Hid.intro hb
  clear hn hb
  go_wp2_with fail
  go_ret2
  exact ⟨n, rfl, HN.out, HB.out⟩
set_option maxRecDepth 100000 in
set_option maxHeartbeats 1000000 in
theorem take_any (b : Nat) (X : Nat → S1) (w : World) (h : CX w b X) :
    Calls Tryz.prog 51 #[.pointer (some ⟨b, 0, none⟩)] w fun e w' => ∃ n : Nat, e = .returned (.tuple #[.int .i64 n, .bool (Sg.isB n)]) ∧ Sg.FirTo X 2 n ∧ CX w' b (Sg.takF X n) ∧ Frm b w w' := by
  have HF := Hid.intro h
  clear h
  go_enter Tryz.func51, Tryz.ntmps51
  go_wp2_with fail
  refine (first_any b 2 X _ HF.out).mono ?_
  rintro e w1 ⟨n, rfl, hn, hb⟩
  have HN := Hid.intro hn
  have HB := Hid.intro (Frm.of_below (b := b) hb)
  have H1 := Hid.intro (HF.out.below hb HF.out.lt)
  have n8 := hn.le
  clear hn hb
  have nn : n = 0 ∨ n = 1 ∨ n = 2 ∨ n = 3 ∨ n = 4 ∨ n = 5 ∨ n = 6 ∨ n = 7 ∨ n = 8 := by omega
  have FIN : Hid (∀ i, i < 8 → n = i + 1 → CX (w1.setCell ⟨b, i * 3, none⟩ (.bool false)) b (Sg.takF X n)) := Hid.intro (fun i hi e => by
    have := H1.out.setW i hi false
    unfold Sg.takF
    rw [if_neg (by omega), e]
    exact this)
  have CL : Hid (∀ i, i < 8 → n = i + 1 → w1.cell? ⟨b, i * 3, none⟩ = some (.bool (X (i + 1)).wt) ∧ w1.frozen? ⟨b, i * 3, none⟩ = false) := Hid.intro (fun i hi _ => ⟨H1.out.wt i hi, H1.out.frozen _⟩)
  rcases nn with rfl | rfl | rfl | rfl | rfl | rfl | rfl | rfl | rfl
  · rw [show Sg.isB 0 = false from rfl]
    go_wp2_with fail
    go_ret2
    exact ⟨0, rfl, HN.out, H1.out, HB.out⟩
  · have c0 : w1.cell? ⟨b, 0, none⟩ = some (.bool (X 1).wt) := (CL.out 0 (by omega) rfl).1
    have fz : w1.frozen? ⟨b, 0, none⟩ = false := (CL.out 0 (by omega) rfl).2
    rw [show Sg.isB 1 = true from rfl]
    go_wp2_with fail
    go_ret2
    exact ⟨1, rfl, HN.out, FIN.out 0 (by omega) rfl, HB.out.setCell _ _⟩
  · have c0 : w1.cell? ⟨b, 3, none⟩ = some (.bool (X 2).wt) := (CL.out 1 (by omega) rfl).1
    have fz : w1.frozen? ⟨b, 3, none⟩ = false := (CL.out 1 (by omega) rfl).2
    rw [show Sg.isB 2 = true from rfl]
    go_wp2_with fail
    go_ret2
    exact ⟨2, rfl, HN.out, FIN.out 1 (by omega) rfl, HB.out.setCell _ _⟩
  · have c0 : w1.cell? ⟨b, 6, none⟩ = some (.bool (X 3).wt) := (CL.out 2 (by omega) rfl).1
    have fz : w1.frozen? ⟨b, 6, none⟩ = false := (CL.out 2 (by omega) rfl).2
    rw [show Sg.isB 3 = true from rfl]
    go_wp2_with fail
    go_ret2
    exact ⟨3, rfl, HN.out, FIN.out 2 (by omega) rfl, HB.out.setCell _ _⟩
  · have c0 : w1.cell? ⟨b, 9, none⟩ = some (.bool (X 4).wt) := (CL.out 3 (by omega) rfl).1
    have fz : w1.frozen? ⟨b, 9, none⟩ = false := (CL.out 3 (by omega) rfl).2
    rw [show Sg.isB 4 = true from rfl]
    go_wp2_with fail
    go_ret2
    exact ⟨4, rfl, HN.out, FIN.out 3 (by omega) rfl, HB.out.setCell _ _⟩
  · have c0 : w1.cell? ⟨b, 12, none⟩ = some (.bool (X 5).wt) := (CL.out 4 (by omega) rfl).1
    have fz : w1.frozen? ⟨b, 12, none⟩ = false := (CL.out 4 (by omega) rfl).2
    rw [show Sg.isB 5 = true from rfl]
    go_wp2_with fail
    go_ret2
    exact ⟨5, rfl, HN.out, FIN.out 4 (by omega) rfl, HB.out.setCell _ _⟩
  · have c0 : w1.cell? ⟨b, 15, none⟩ = some (.bool (X 6).wt) := (CL.out 5 (by omega) rfl).1
    have fz : w1.frozen? ⟨b, 15, none⟩ = false := (CL.out 5 (by omega) rfl).2
    rw [show Sg.isB 6 = true from rfl]
    go_wp2_with fail
    go_ret2
    exact ⟨6, rfl, HN.out, FIN.out 5 (by omega) rfl, HB.out.setCell _ _⟩
  · have c0 : w1.cell? ⟨b, 18, none⟩ = some (.bool (X 7).wt) := (CL.out 6 (by omega) rfl).1
    have fz : w1.frozen? ⟨b, 18, none⟩ = false := (CL.out 6 (by omega) rfl).2
    rw [show Sg.isB 7 = true from rfl]
    go_wp2_with fail
    go_ret2
    exact ⟨7, rfl, HN.out, FIN.out 6 (by omega) rfl, HB.out.setCell _ _⟩
  · have c0 : w1.cell? ⟨b, 21, none⟩ = some (.bool (X 8).wt) := (CL.out 7 (by omega) rfl).1
    have fz : w1.frozen? ⟨b, 21, none⟩ = false := (CL.out 7 (by omega) rfl).2
    rw [show Sg.isB 8 = true from rfl]
    go_wp2_with fail
    go_ret2
    exact ⟨8, rfl, HN.out, FIN.out 7 (by omega) rfl, HB.out.setCell _ _⟩
def Sg.chK (X : Nat → S1) (k : Nat) : Nat → S1 := fun n => if n ≤ k ∧ 0 < n then ⟨false, (X n).hd, (X n).hw⟩ else X n
theorem Sg.chK_zero (X : Nat → S1) : Sg.chK X 0 = X := by
  funext n
  unfold Sg.chK
  rw [if_neg (by omega)]
theorem Sg.chK_succ (X : Nat → S1) (k : Nat) : Sg.put (Sg.chK X k) (k + 1) ⟨false, (Sg.chK X k (k + 1)).hd, (Sg.chK X k (k + 1)).hw⟩ = Sg.chK X (k + 1) := by
  funext n
  unfold Sg.put
  by_cases e : n = k + 1
  · rw [if_pos e, e]
    unfold Sg.chK
    rw [if_neg (by omega), if_pos (by omega)]
  · rw [if_neg e]
    unfold Sg.chK
    by_cases c : n ≤ k ∧ 0 < n
    · rw [if_pos c, if_pos (by omega)]
    · rw [if_neg c, if_neg (by omega)]
theorem Sg.chK_eight (X : Nat → S1) (n : Nat) (h1 : 1 ≤ n) (h8 : n ≤ 8) : Sg.chK X 8 n = Sg.chiF X n := by
  unfold Sg.chK Sg.chiF
  rw [if_pos ⟨h8, by omega⟩]
set_option maxRecDepth 100000 in
set_option maxHeartbeats 1000000 in
theorem child_any (b : Nat) (X : Nat → S1) (w : World) (h : CX w b X) :
    Calls Tryz.prog 73 #[.pointer (some ⟨b, 0, none⟩)] w fun e w' => e = .returned (.pointer (some ⟨w.heap.size, 0, none⟩)) ∧ CX w' w.heap.size (Sg.chiF X) ∧ Below w.heap.size w w' ∧ w.heap.size < w'.heap.size := by
  have HS := Hid.intro h
  clear h
  have hsz : Hid ((Tryz.prog.info? 155).map (·.size) = some (boxA X).size) := Hid.intro (by rw [boxA_size]; kernel_rfl)
  have BT : Hid (Tryz.prog.built 157 [(0, .agg (boxA X))] = some (boxA X)) := Hid.intro (box_built X)
  have ST : Hid (CX (w.alloc (.cells (boxA X) 157)) w.heap.size X ∧ Below w.heap.size w (w.alloc (.cells (boxA X) 157))) := Hid.intro ⟨CX.of_blk (heap_alloc_new w _), (Below.refl _ _).alloc (Nat.le_refl _) _⟩
  obtain ⟨A, hA⟩ : ∃ A, boxA X = A := ⟨_, rfl⟩
  have AL : Hid (∀ j, j < A.size → w.cell? ⟨b, 0 + j, none⟩ = A[j]?) := Hid.intro (by rw [← hA]; exact HS.out.all)
  rw [hA] at hsz BT ST
  clear hA
  go_enter Tryz.func73, Tryz.ntmps73
  go_upto_region 2 with (first | (refine wpList_load_at rfl 155 _ rfl b 0 rfl A 8 152 AL.out (by kernel_rfl) hsz.out ?_) | (refine wp_buildBox A rfl rfl rfl BT.out ?_))
  refine wp_gen (fun W' => CX W' w.heap.size X ∧ Below w.heap.size w W') ST.out ?_
  rintro W1 ⟨f1, b1⟩
  have S0 : Hid (CX W1 w.heap.size (Sg.chK X 0) ∧ Below w.heap.size w W1) := Hid.intro ⟨by rw [Sg.chK_zero]; exact f1, b1⟩
  clear f1 b1
  obtain ⟨c, hc⟩ : ∃ c, w.heap.size = c := ⟨_, rfl⟩
  have HC := Hid.intro hc
  rw [hc] at S0 ⊢
  clear hc ST AL hsz BT
  go_wp2_with fail
  go_loopw [11] (fun i wr => ∃ (x : Nat), i = .int .i64 x ∧ x ≤ 8 ∧ Hid (CX wr c (Sg.chK X x) ∧ Below c w wr)) (fun i _ => 8 - (intOf i).toNat)
  case atStart => exact ⟨0, rfl, by omega, S0⟩
  case round =>
    clear S0
    obtain ⟨x, rfl, hx8, HN⟩ := hrel
    by_cases hx : x < 8
    · have hxI : (x : Int) < 8 := by omega
      have c0 := HN.out.1.wt x hx
      have fz := HN.out.1.frozen (x * 3)
      have NX : Hid (CX (wr.setCell ⟨c, x * 3, none⟩ (.bool false)) c (Sg.chK X (x + 1)) ∧ Below c w (wr.setCell ⟨c, x * 3, none⟩ (.bool false))) := Hid.intro ⟨by
        have := HN.out.1.setW x hx false
        rw [Sg.chK_succ] at this
        exact this, HN.out.2.setCell (Nat.le_refl _) _⟩
      go_wp2_with fail
      go_roundw
      case rel => exact ⟨x + 1, by go_num, by omega, NX⟩
      case measure => simp [intOf]; omega
    · have hxI : ¬ (x : Int) < 8 := by omega
      obtain rfl : x = 8 := by omega
      go_wp2_with fail
      go_ret
      rw [HC.out]
      exact ⟨rfl, HN.out.1.congr (Sg.chK_eight X), HN.out.2, HN.out.1.lt⟩
end Go.Proofs.YtghogbngmcolmaaGreat

/- What all layers lean on: blocks and cells; only one block has turned; errors by their numbers; same, LightActs; acts as they lie; rows of numbers. -/
import Derived.Test.YthdadmbpnoofoaaGreatDoorProg
import Derived.WalkKit
import Derived.WalkSpells
import Derived.WalkLawsBesides
import Derived.WalkSmall
import Derived.Deep.QuietTactic
import Derived.BigQuiet
import Derived.BigRegion
import Derived.OpenShut
import Derived.ProofKit
import Derived.Deep.Slices
import Derived.Deep.AppendLies
import Derived.Deep.MidRow
import Derived.Deep.RegionHeld3
import Derived.Handy
namespace Go.Proofs.YthdadmbpnoofoaaGreatDoor
open Go.RowKit

theorem Hid.intro {p : Prop} (h : p) : Hid p := h
theorem wp_gen {P : Program} {c : Code} {Q : Exit → Act → World → Prop} {a : Act} {W : World} (F : World → Prop) (h1 : F W) (h2 : ∀ W', F W' → Code.wp P c Q a W') : Code.wp P c Q a W := h2 W h1
theorem blk_set {w : World} {b : Nat} {C : Array Value} {T : TypeId} (h : w.heap[b]? = some (.cells C T (0, 0))) (i : Nat) (v : Value) : (w.setCell ⟨b, i, none⟩ v).heap[b]? = some (.cells (C.setIfInBounds i v) T (0, 0)) := by
  simp [World.setCell, Array.getElem?_modify, h]
theorem ret_bool {a b : Bool} (h : a = b) : Ending.returned (.bool a) = .returned (.bool b) := by rw [h]
/-- Only block b has turned, of those that were there. -/
structure Frm (b : Nat) (w w' : World) : Prop where
  os : w'.os = w.os
  tape : w'.tape = w.tape
  output : w'.output = w.output
  size : w.heap.size ≤ w'.heap.size
  block : ∀ k, k < w.heap.size → k ≠ b → w'.heap[k]? = w.heap[k]?
theorem Frm.of_below {b : Nat} {w w' : World} (h : Below w.heap.size w w') : Frm b w w' := ⟨h.os, h.tape, h.output, h.size, fun k hk _ => h.block k hk⟩
theorem Frm.refl (b : Nat) (w : World) : Frm b w w := ⟨rfl, rfl, rfl, Nat.le_refl _, fun _ _ _ => rfl⟩
theorem Frm.trans {b : Nat} {u v w : World} (h : Frm b u v) (k : Frm b v w) : Frm b u w :=
  ⟨k.os.trans h.os, k.tape.trans h.tape, k.output.trans h.output, Nat.le_trans h.size k.size, fun j hj hn => (k.block j (Nat.lt_of_lt_of_le hj h.size) hn).trans (h.block j hj hn)⟩
theorem setBlk {W : World} (b c o : Nat) (v : Value) (h : b ≠ c) : (W.setCell ⟨c, o, none⟩ v).heap[b]? = W.heap[b]? := Below.heap_setCell _ _ _ _ h
theorem Frm.setCell {b : Nat} {u w : World} (h : Frm b u w) (o : Nat) (v : Value) : Frm b u (w.setCell ⟨b, o, none⟩ v) :=
  ⟨h.os, h.tape, h.output, by simpa [World.setCell] using h.size, fun k hk hn => (setBlk _ _ _ _ hn).trans (h.block k hk hn)⟩
theorem Frm.drew {b : Nat} {u w : World} (h : Frm b u w) : Frm b u w.drew := ⟨h.os, h.tape, h.output, h.size, h.block⟩
theorem Frm.drewN {b : Nat} {u w : World} (h : Frm b u w) (n : Nat) : Frm b u (w.drewN n) := ⟨h.os, h.tape, h.output, h.size, h.block⟩
theorem Frm.below {b B : Nat} {u w w' : World} (h : Frm b w w') (hb : Below B u w) (hB : B ≤ b) (hs : B ≤ w.heap.size) : Below B u w' :=
  hb.trans ⟨h.os, h.tape, h.output, h.size, fun k hk => h.block k (by omega) (by omega)⟩
theorem cell_blk {w : World} {b : Nat} {C : Array Value} {T : TypeId} (h : w.heap[b]? = some (.cells C T (0, 0))) (o : Nat) : w.cell? ⟨b, o, none⟩ = C[o]? := by simp [World.cell?, h]
theorem frozen_blk {w : World} {b : Nat} {C : Array Value} {T : TypeId} (h : w.heap[b]? = some (.cells C T (0, 0))) (o : Nat) : w.frozen? ⟨b, o, none⟩ = false := by simp [World.frozen?, h]
theorem cell_set_ne {w : World} {b : Nat} {C : Array Value} {T : TypeId} (h : w.heap[b]? = some (.cells C T (0, 0))) (i j : Nat) (v : Value) (e : i ≠ j) : (w.setCell ⟨b, i, none⟩ v).cell? ⟨b, j, none⟩ = w.cell? ⟨b, j, none⟩ := by
  rw [cell_blk (blk_set h i v), cell_blk h, Array.getElem?_setIfInBounds_ne e]
theorem cell_set_same {w : World} {b : Nat} {C : Array Value} {T : TypeId} (h : w.heap[b]? = some (.cells C T (0, 0))) (i : Nat) (v : Value) (hi : i < C.size) : (w.setCell ⟨b, i, none⟩ v).cell? ⟨b, i, none⟩ = some v := by
  rw [cell_blk (blk_set h i v), Array.getElem?_setIfInBounds_self_of_lt hi]

/-- An error, by its number (0: none). -/
def errV (k : Int) : Value := if k = 0 then .nilIface else .iface 83 (.int .i64 k)
theorem errV_zero : errV 0 = .nilIface := rfl
theorem errV_ne {k : Int} (h : k ≠ 0) : errV k = .iface 83 (.int .i64 k) := if_neg h

theorem assertE (n : Int) (w : World) : (Instr.typeAssert (.iface 83 (.int .i64 n)) 37 83 true).run Tryz.prog w = .ok (.tuple #[.int .i64 n, .bool true]) w := by kernel_rfl
set_option maxHeartbeats 400000 in
theorem same_nil (w : World) : Calls Tryz.prog 9 #[.nilIface, .int .i64 0] w fun e w' => e = .returned (.bool true) ∧ w' = w := by
  go_enter Tryz.func9, Tryz.ntmps9
  go_wp2
  go_ret
  exact ⟨rfl, rfl⟩
set_option maxHeartbeats 400000 in
theorem same_err (n : Int) (h : 0 < n) (w : World) : Calls Tryz.prog 9 #[.iface 83 (.int .i64 n), .int .i64 n] w fun e w' => e = .returned (.bool true) ∧ w' = w := by
  have ha := assertE n
  go_enter Tryz.func9, Tryz.ntmps9
  go_wp2
  go_ret
  exact ⟨rfl, rfl⟩
theorem same_any (k : Int) (h : 0 ≤ k) (w : World) : Calls Tryz.prog 9 #[errV k, .int .i64 k] w fun e w' => e = .returned (.bool true) ∧ w' = w := by
  by_cases h0 : k = 0
  · subst h0; exact same_nil w
  · rw [errV_ne h0]; exact same_err k (by omega) w
theorem light_any (a : Option Addr) (n c : Nat) (m : Int) (w : World) : Calls Tryz.prog 5 #[.slice a n c, .int .i64 m] w fun e w' => e = .returned (.bool (decide ((n : Int) ≤ m))) ∧ w' = w := by
  go_enter Tryz.func5, Tryz.ntmps5
  go_wp2
  go_ret
  exact ⟨rfl, rfl⟩

theorem addNoneO (b o j : Nat) : (⟨b, o, none⟩ : Addr).add j = ⟨b, o + j, none⟩ := by unfold Addr.add; split <;> simp_all

/-- An act, as it lies. -/
structure Act8 where
  kind : ByteArray
  a : Int
  b : Int
  c : Int
  key : Nat
  on : Bool
  s : ByteArray
  t : ByteArray
def Act8.cell (x : Act8) : Nat → Value
  | 0 => .string x.kind
  | 1 => .int .i64 x.a
  | 2 => .int .i64 x.b
  | 3 => .int .i64 x.c
  | 4 => .int .u64 x.key
  | 5 => .bool x.on
  | 6 => .string x.s
  | _ => .string x.t

theorem cellsAct : Tryz.prog.cellsOf 50 = 8 := by kernel_rfl
theorem cells9 : Tryz.prog.cellsOf 9 = 1 := by kernel_rfl
theorem cells3 : Tryz.prog.cellsOf 3 = 1 := by kernel_rfl
theorem cells27 : Tryz.prog.cellsOf 48 = 1 := by kernel_rfl
theorem cells4 : Tryz.prog.cellsOf 4 = 1 := by kernel_rfl

theorem list8 {α : Type} {l : List α} (h : l.length = 8) : ∃ a b c d e f g k, l = [a, b, c, d, e, f, g, k] := by
  match l, h with
  | [a, b, c, d, e, f, g, k], _ => exact ⟨a, b, c, d, e, f, g, k, rfl⟩

theorem act_of {H : Type} {enc : TypeId × Value → H} {w : World} {base : Nat} {spare : Nat → Bool} {held : Bool} {fuel : Nat} {cs : List Value} {x : DataW H × List MemPlace} (h : DataW.trod enc Tryz.prog w base spare held fuel 50 cs = some x) :
    ∃ y : Act8, cs.length = 8 ∧ ∀ j, j < 8 → cs[j]? = some (y.cell j) := by
  obtain ⟨xs, n, _, _, hl, hlen, hf⟩ := DataW.trod_struct Tryz.underlying50 h
  rw [cellsAct] at hl
  obtain ⟨c0, c1, c2, c3, c4, c5, c6, c7, rfl⟩ := list8 hl
  obtain ⟨x0, x1, x2, x3, x4, x5, x6, x7, rfl⟩ := list8 (show xs.length = 8 from hlen)
  have f0 : DataW.trod enc Tryz.prog w base spare held n 9 (([c0, c1, c2, c3, c4, c5, c6, c7].drop 0).take (Tryz.prog.cellsOf 9)) = some x0 := hf 0 _ rfl
  have f1 : DataW.trod enc Tryz.prog w base spare held n 3 (([c0, c1, c2, c3, c4, c5, c6, c7].drop 1).take (Tryz.prog.cellsOf 3)) = some x1 := hf 1 _ rfl
  have f2 : DataW.trod enc Tryz.prog w base spare held n 3 (([c0, c1, c2, c3, c4, c5, c6, c7].drop 2).take (Tryz.prog.cellsOf 3)) = some x2 := hf 2 _ rfl
  have f3 : DataW.trod enc Tryz.prog w base spare held n 3 (([c0, c1, c2, c3, c4, c5, c6, c7].drop 3).take (Tryz.prog.cellsOf 3)) = some x3 := hf 3 _ rfl
  have f4 : DataW.trod enc Tryz.prog w base spare held n 48 (([c0, c1, c2, c3, c4, c5, c6, c7].drop 4).take (Tryz.prog.cellsOf 48)) = some x4 := hf 4 _ rfl
  have f5 : DataW.trod enc Tryz.prog w base spare held n 4 (([c0, c1, c2, c3, c4, c5, c6, c7].drop 5).take (Tryz.prog.cellsOf 4)) = some x5 := hf 5 _ rfl
  have f6 : DataW.trod enc Tryz.prog w base spare held n 9 (([c0, c1, c2, c3, c4, c5, c6, c7].drop 6).take (Tryz.prog.cellsOf 9)) = some x6 := hf 6 _ rfl
  have f7 : DataW.trod enc Tryz.prog w base spare held n 9 (([c0, c1, c2, c3, c4, c5, c6, c7].drop 7).take (Tryz.prog.cellsOf 9)) = some x7 := hf 7 _ rfl
  rw [cells9] at f0
  rw [cells3] at f1
  rw [cells3] at f2
  rw [cells3] at f3
  rw [cells27] at f4
  rw [cells4] at f5
  rw [cells9] at f6
  rw [cells9] at f7
  obtain ⟨k0, e0, _⟩ := DataW.trod_string Tryz.underlying9 f0
  obtain ⟨k1, e1, _⟩ := DataW.trod_int Tryz.underlying3 f1
  obtain ⟨k2, e2, _⟩ := DataW.trod_int Tryz.underlying3 f2
  obtain ⟨k3, e3, _⟩ := DataW.trod_int Tryz.underlying3 f3
  obtain ⟨k4, e4, _, w4⟩ := DataW.trod_int Tryz.underlying48 f4
  obtain ⟨k5, e5, _⟩ := DataW.trod_bool Tryz.underlying4 f5
  obtain ⟨k6, e6, _⟩ := DataW.trod_string Tryz.underlying9 f6
  obtain ⟨k7, e7, _⟩ := DataW.trod_string Tryz.underlying9 f7
  have p4 : 0 ≤ k4 := (bounds_u64 w4).1
  refine ⟨⟨k0, k1, k2, k3, k4.toNat, k5, k6, k7⟩, rfl, fun j hj => ?_⟩
  simp only [List.drop, List.take, List.cons.injEq, and_true] at e0 e1 e2 e3 e4 e5 e6 e7
  subst e0 e1 e2 e3 e4 e5 e6 e7
  have e4 : ((k4.toNat : Nat) : Int) = k4 := Int.toNat_of_nonneg p4
  match j, hj with
  | 0, _ => rfl
  | 1, _ => rfl
  | 2, _ => rfl
  | 3, _ => rfl
  | 4, _ => simp [Act8.cell, e4]
  | 5, _ => rfl
  | 6, _ => rfl
  | 7, _ => rfl

/-- A slice of acts: where there is one, a row of acts. -/
def IsActs0 (w : World) (a : Option Addr) (len : Nat) : Prop := len ≤ maxLen ∧ (0 < len → ∃ b o, ∃ ax : Nat → Act8, a = some ⟨b, o, none⟩ ∧ ∀ i, i < len → ∀ j, j < 8 → w.cell? ⟨b, o + i * 8 + j, none⟩ = some ((ax i).cell j))

theorem acts_of {H : Type} {enc : TypeId × Value → H} {w : World} {base : Nat} {spare : Nat → Bool} {held : Bool} {fuel : Nat} {a : Option Addr} {len cap : Nat} {x : DataW H × List MemPlace} (h : DataW.trod enc Tryz.prog w base spare held fuel 22 [.slice a len cap] = some x) :
    IsActs0 w a len := by
  rcases Go.Deep.open_slice Tryz.underlying22 h with ⟨hcs, _⟩ | ⟨ad, l, c, m, n, D, Pl, hcs, _, hl, hm, hmm, _, hel⟩
  · simp at hcs
    obtain ⟨rfl, rfl, rfl⟩ := hcs
    exact ⟨Nat.zero_le _, fun h0 => absurd h0 (by omega)⟩
  · simp at hcs
    obtain ⟨rfl, rfl, rfl⟩ := hcs
    refine ⟨by omega, fun h0 => ?_⟩
    have hlm : len ≤ m := by rw [hmm]; split <;> omega
    have hex : ∀ i, i < len → ∃ y : Act8, ∀ j, j < 8 → w.cell? (ad.add (i * 8 + j)) = some (y.cell j) := fun i hi => by
      obtain ⟨cs', hc, ht⟩ := hel i (by omega)
      rw [cellsAct] at hc
      obtain ⟨y, hl8, hy⟩ := act_of ht
      refine ⟨y, fun j hj => ?_⟩
      have h8 := (World.cells?_some hc).2.2 j hj
      rw [Go.Deep.add_add, hy j hj] at h8
      exact h8
    obtain ⟨b, o, spot⟩ := ad
    have hspot : spot = none := by
      obtain ⟨y, hy⟩ := hex 0 h0
      simpa [Addr.add] using World.cell?_spot (hy 0 (by omega))
    subst hspot
    refine ⟨b, o, fun i => if hi : i < len then Classical.choose (hex i hi) else ⟨⟨#[]⟩, 0, 0, 0, 0, false, ⟨#[]⟩, ⟨#[]⟩⟩, rfl, fun i hi j hj => ?_⟩
    have hc := Classical.choose_spec (hex i hi) j hj
    have ha : (⟨b, o, none⟩ : Addr).add (i * 8 + j) = ⟨b, o + i * 8 + j, none⟩ := by unfold Addr.add; split <;> simp_all <;> omega
    rw [ha] at hc
    simp only [dif_pos hi]
    exact hc

/-- Only blocks b and r have turned, of those that were there. -/
structure Two (b r : Nat) (w w' : World) : Prop where
  os : w'.os = w.os
  tape : w'.tape = w.tape
  output : w'.output = w.output
  size : w.heap.size ≤ w'.heap.size
  block : ∀ k, k < w.heap.size → k ≠ b → k ≠ r → w'.heap[k]? = w.heap[k]?
section
variable {b r : Nat} {u v w : World}
theorem Two.refl (b r : Nat) (w : World) : Two b r w w := ⟨rfl, rfl, rfl, Nat.le_refl _, fun _ _ _ _ => rfl⟩
theorem Two.below (h : Below u.heap.size u v) : Two b r u v := ⟨h.os, h.tape, h.output, h.size, fun k hk _ _ => h.block k hk⟩
theorem Two.left (h : Two b r u v) (k : Frm b v w) : Two b r u w := ⟨k.os.trans h.os, k.tape.trans h.tape, k.output.trans h.output, Nat.le_trans h.size k.size, fun j hj h1 h2 => (k.block j (Nat.lt_of_lt_of_le hj h.size) h1).trans (h.block j hj h1 h2)⟩
theorem Two.right (h : Two b r u v) (k : Frm r v w) : Two b r u w := ⟨k.os.trans h.os, k.tape.trans h.tape, k.output.trans h.output, Nat.le_trans h.size k.size, fun j hj h1 h2 => (k.block j (Nat.lt_of_lt_of_le hj h.size) h2).trans (h.block j hj h1 h2)⟩
theorem Two.drew (h : Two b r u v) : Two b r u v.drew := ⟨h.os, h.tape, h.output, h.size, h.block⟩
theorem Two.trans (h : Two b r u v) (k : Two b r v w) : Two b r u w := ⟨k.os.trans h.os, k.tape.trans h.tape, k.output.trans h.output, Nat.le_trans h.size k.size, fun j hj h1 h2 => (k.block j (Nat.lt_of_lt_of_le hj h.size) h1 h2).trans (h.block j hj h1 h2)⟩
theorem Two.behind {B : Nat} {t : World} (h : Two b r u v) (k : Below B t u) (hb : B ≤ b) (hr : B ≤ r) (hs : B ≤ u.heap.size) : Below B t v := k.trans ⟨h.os, h.tape, h.output, h.size, fun j hj => h.block j (by omega) (by omega) (by omega)⟩
end
/-- The cells of an act, in a block of their own. -/
theorem act_cells {w : World} {ba : Nat} {T : TypeId} {cs : Array Value} (h : w.heap[ba]? = some (.cells cs T (0, 0))) (j : Nat) (v : Value) (e : cs[j]? = some v) : w.cell? ⟨ba, j, none⟩ = some v := by rw [cell_blk h]; exact e
def rowOf (L : List Nat) : List Value := L.map fun (x : Nat) => Value.int .i64 x
theorem rowOf_len (L : List Nat) : (rowOf L).length = L.length := by simp [rowOf]
theorem rowOf_at (L : List Nat) (t x : Nat) (h : L[t]? = some x) : (rowOf L)[t]? = some (.int .i64 x) := by simp [rowOf, h]
theorem rowOf_set (L : List Nat) (t x : Nat) : (rowOf L).set t (.int .i64 x) = rowOf (L.set t x) := by simp [rowOf, List.map_set]
theorem info3 : (Tryz.prog.info? 3).map (fun i => (i.zero, i.size, i.bytes)) = some (some (.int .i64 0), 1, 8) := by kernel_rfl
theorem own_form {w : World} {base : Nat} {v : Value} {n : Nat} {xs : List Value} (h : w.ownsRow base 3 1 v n xs) : ∃ a cap, v = .slice a n cap := by
  rcases h.2 with ⟨rfl, rfl⟩ | ⟨g, cap, _, rfl, _⟩
  · exact ⟨none, 0, rfl⟩
  · exact ⟨_, cap, rfl⟩

end Go.Proofs.YthdadmbpnoofoaaGreatDoor

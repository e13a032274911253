import Derived.Test.YtghogbngmcolmaaGreatProg
import Derived.WalkKit
import Derived.WalkSpells
import Derived.WalkLawsBesides
import Derived.WalkSmall
import Derived.Deep.QuietTactic
import Derived.BigQuiet
import Derived.BigRegion
import Derived.OpenShut
import Derived.ProofKit
import Derived.Deep.Slices
import Derived.Deep.AppendLies
import Derived.Deep.MidRow
import Derived.Deep.RegionHeld3
import Derived.Handy
import Derived.RangeFuncNested
import Derived.RangeFuncBound
import Derived.RangeFuncCalls
import Derived.RangeFuncLeaves
import Derived.RangeFuncFrom
import Derived.Shelf.Abstract
import Derived.Shelf.RegionOpen
import Derived.OwnWalkIn
import Derived.TacticsInMore
import Derived.LoopNIn
import Derived.LoopIn
namespace Go.Proofs.YtghogbngmcolmaaGreat
open Go.RowKit
theorem Hid.intro {p : Prop} (h : p) : Hid p := h
theorem wp_gen {P : Program} {c : Code} {Q : Exit → Act → World → Prop} {a : Act} {W : World} (F : World → Prop) (h1 : F W) (h2 : ∀ W', F W' → Code.wp P c Q a W') : Code.wp P c Q a W := h2 W h1
theorem blk_set {w : World} {b : Nat} {C : Array Value} {T : TypeId} (h : w.heap[b]? = some (.cells C T (0, 0))) (i : Nat) (v : Value) : (w.setCell ⟨b, i, none⟩ v).heap[b]? = some (.cells (C.setIfInBounds i v) T (0, 0)) := by
  simp [World.setCell, Array.getElem?_modify, h]
theorem ret_bool {a b : Bool} (h : a = b) : Ending.returned (.bool a) = .returned (.bool b) := by rw [h]
structure Frm (b : Nat) (w w' : World) : Prop where
  os : w'.os = w.os
  tape : w'.tape = w.tape
  output : w'.output = w.output
  size : w.heap.size ≤ w'.heap.size
  block : ∀ k, k < w.heap.size → k ≠ b → w'.heap[k]? = w.heap[k]?
theorem Frm.of_below {b : Nat} {w w' : World} (h : Below w.heap.size w w') : Frm b w w' := ⟨h.os, h.tape, h.output, h.size, fun k hk _ => h.block k hk⟩
theorem Frm.refl (b : Nat) (w : World) : Frm b w w := ⟨rfl, rfl, rfl, Nat.le_refl _, fun _ _ _ => rfl⟩
theorem Frm.trans {b : Nat} {u v w : World} (h : Frm b u v) (k : Frm b v w) : Frm b u w :=
  ⟨k.os.trans h.os, k.tape.trans h.tape, k.output.trans h.output, Nat.le_trans h.size k.size, fun j hj hn => (k.block j (Nat.lt_of_lt_of_le hj h.size) hn).trans (h.block j hj hn)⟩
theorem setBlk {W : World} (b c o : Nat) (v : Value) (h : b ≠ c) : (W.setCell ⟨c, o, none⟩ v).heap[b]? = W.heap[b]? := Below.heap_setCell _ _ _ _ h
theorem Frm.setCell {b : Nat} {u w : World} (h : Frm b u w) (o : Nat) (v : Value) : Frm b u (w.setCell ⟨b, o, none⟩ v) :=
  ⟨h.os, h.tape, h.output, by simpa [World.setCell] using h.size, fun k hk hn => (setBlk _ _ _ _ hn).trans (h.block k hk hn)⟩
theorem Frm.drew {b : Nat} {u w : World} (h : Frm b u w) : Frm b u w.drew := ⟨h.os, h.tape, h.output, h.size, h.block⟩
theorem Frm.drewN {b : Nat} {u w : World} (h : Frm b u w) (n : Nat) : Frm b u (w.drewN n) := ⟨h.os, h.tape, h.output, h.size, h.block⟩
theorem Frm.below {b B : Nat} {u w w' : World} (h : Frm b w w') (hb : Below B u w) (hB : B ≤ b) (hs : B ≤ w.heap.size) : Below B u w' :=
  hb.trans ⟨h.os, h.tape, h.output, h.size, fun k hk => h.block k (by omega) (by omega)⟩
theorem cell_blk {w : World} {b : Nat} {C : Array Value} {T : TypeId} (h : w.heap[b]? = some (.cells C T (0, 0))) (o : Nat) : w.cell? ⟨b, o, none⟩ = C[o]? := by simp [World.cell?, h]
theorem frozen_blk {w : World} {b : Nat} {C : Array Value} {T : TypeId} (h : w.heap[b]? = some (.cells C T (0, 0))) (o : Nat) : w.frozen? ⟨b, o, none⟩ = false := by simp [World.frozen?, h]
theorem cell_set_ne {w : World} {b : Nat} {C : Array Value} {T : TypeId} (h : w.heap[b]? = some (.cells C T (0, 0))) (i j : Nat) (v : Value) (e : i ≠ j) : (w.setCell ⟨b, i, none⟩ v).cell? ⟨b, j, none⟩ = w.cell? ⟨b, j, none⟩ := by
  rw [cell_blk (blk_set h i v), cell_blk h, Array.getElem?_setIfInBounds_ne e]
theorem cell_set_same {w : World} {b : Nat} {C : Array Value} {T : TypeId} (h : w.heap[b]? = some (.cells C T (0, 0))) (i : Nat) (v : Value) (hi : i < C.size) : (w.setCell ⟨b, i, none⟩ v).cell? ⟨b, i, none⟩ = some v := by
  rw [cell_blk (blk_set h i v), Array.getElem?_setIfInBounds_self_of_lt hi]
def errV (k : Int) : Value := if k = 0 then .nilIface else .iface 60 (.int .i64 k)
theorem errV_zero : errV 0 = .nilIface := rfl
theorem errV_ne {k : Int} (h : k ≠ 0) : errV k = .iface 60 (.int .i64 k) := if_neg h
theorem assertE (n : Int) (w : World) : (Instr.typeAssert (.iface 60 (.int .i64 n)) 27 60 true).run Tryz.prog w = .ok (.tuple #[.int .i64 n, .bool true]) w := by kernel_rfl
theorem addNoneO (b o j : Nat) : (⟨b, o, none⟩ : Addr).add j = ⟨b, o + j, none⟩ := by unfold Addr.add; split <;> simp_all
structure Two (b r : Nat) (w w' : World) : Prop where
  os : w'.os = w.os
  tape : w'.tape = w.tape
  output : w'.output = w.output
  size : w.heap.size ≤ w'.heap.size
  block : ∀ k, k < w.heap.size → k ≠ b → k ≠ r → w'.heap[k]? = w.heap[k]?
section
variable {b r : Nat} {u v w : World}
theorem Two.refl (b r : Nat) (w : World) : Two b r w w := ⟨rfl, rfl, rfl, Nat.le_refl _, fun _ _ _ _ => rfl⟩
theorem Two.left (h : Two b r u v) (k : Frm b v w) : Two b r u w := ⟨k.os.trans h.os, k.tape.trans h.tape, k.output.trans h.output, Nat.le_trans h.size k.size, fun j hj h1 h2 => (k.block j (Nat.lt_of_lt_of_le hj h.size) h1).trans (h.block j hj h1 h2)⟩
theorem Two.right (h : Two b r u v) (k : Frm r v w) : Two b r u w := ⟨k.os.trans h.os, k.tape.trans h.tape, k.output.trans h.output, Nat.le_trans h.size k.size, fun j hj h1 h2 => (k.block j (Nat.lt_of_lt_of_le hj h.size) h2).trans (h.block j hj h1 h2)⟩
theorem Two.drew (h : Two b r u v) : Two b r u v.drew := ⟨h.os, h.tape, h.output, h.size, h.block⟩
end
theorem act_cells {w : World} {ba : Nat} {T : TypeId} {cs : Array Value} (h : w.heap[ba]? = some (.cells cs T (0, 0))) (j : Nat) (v : Value) (e : cs[j]? = some v) : w.cell? ⟨ba, j, none⟩ = some v := by rw [cell_blk h]; exact e
def rowOf (L : List Nat) : List Value := L.map fun (x : Nat) => Value.int .i64 x
theorem rowOf_at (L : List Nat) (t x : Nat) (h : L[t]? = some x) : (rowOf L)[t]? = some (.int .i64 x) := by simp [rowOf, h]
theorem info3 : (Tryz.prog.info? 3).map (fun i => (i.zero, i.size, i.bytes)) = some (some (.int .i64 0), 1, 8) := by kernel_rfl
theorem own_form {w : World} {base : Nat} {v : Value} {n : Nat} {xs : List Value} (h : w.ownsRow base 3 1 v n xs) : ∃ a cap, v = .slice a n cap := by
  rcases h.2 with ⟨rfl, rfl⟩ | ⟨g, cap, _, rfl, _⟩
  · exact ⟨none, 0, rfl⟩
  · exact ⟨_, cap, rfl⟩
end Go.Proofs.YtghogbngmcolmaaGreat
namespace Go.Proofs.YtghogbngmcolmaaGreat
open Go.RowKit
structure LO (w : World) (L : List Nat) (v : Value) (wr : World) : Prop where
  bel : Below w.heap.size w wr
  own : wr.ownsRow w.heap.size 3 1 v L.length (rowOf L)
theorem LO.nil (w : World) : LO w [] (.slice none 0 0) w := ⟨Below.refl _ _, World.ownsRow_nil _ _ _ _⟩
theorem LO.more {w w1 wr : World} {L : List Nat} {gg cap N x : Nat} {l : Value} (h : LO w L l wr) (hN : L.length = N) (hl : w1.ownsRow w.heap.size 3 1 (.slice (some ⟨gg, 0, none⟩) (N + 1) cap) (N + 1) (rowOf L ++ [.int .i64 x])) (o : Obj) (hg : (wr.alloc o).grownBy w1 l.ownBlock) :
    LO w (L ++ [x]) (.slice (some ⟨gg, 0, none⟩) (N + 1) cap) w1 := by
  have hs := h.bel.size
  refine ⟨(h.bel.alloc hs o).grown hg (by simp; omega) (fun k e => (h.own.lt k e).1), ?_⟩
  have e2 : rowOf (L ++ [x]) = rowOf L ++ [.int .i64 x] := by simp [rowOf]
  rw [e2, show (L ++ [x]).length = N + 1 by simp [hN]]
  exact hl
theorem LO.cells {u w : World} {L : List Nat} {v : Value} (h : LO u L v w) (hl : 0 < L.length) : ∃ gg cap, v = .slice (some ⟨gg, 0, none⟩) L.length cap ∧ gg < w.heap.size ∧ ∀ i, i < L.length → w.cell? ⟨gg, 0 + i, none⟩ = some (.int .i64 ((L.getD i 0 : Nat) : Int)) := by
  have ho := h.own
  obtain ⟨gg, cap, hv, _, hg⟩ := ho.form hl
  refine ⟨gg, cap, hv, hg, fun i hi => ?_⟩
  rw [hv] at ho
  rw [Nat.zero_add, ho.cellAt i (by omega)]
  exact rowOf_at _ _ _ (by rw [List.getD_eq_getElem?_getD, List.getElem?_eq_getElem hi]; rfl)
end Go.Proofs.YtghogbngmcolmaaGreat
namespace Go.Proofs.YtghogbngmcolmaaGreat.Gr
open Go.RowKit
theorem heap_cell {W : World} {b : Nat} {c : Array Value} {t : TypeId} (h : W.heap[b]? = some (.cells c t (0, 0))) (o : Nat) : W.cell? ⟨b, o, none⟩ = c[o]? := by simp [World.cell?, h]
theorem heap_frozen {W : World} {b : Nat} {c : Array Value} {t : TypeId} (h : W.heap[b]? = some (.cells c t (0, 0))) (o : Nat) : W.frozen? ⟨b, o, none⟩ = false := by simp [World.frozen?, h]
theorem heap_set {W : World} {b : Nat} {c : Array Value} {t : TypeId} (h : W.heap[b]? = some (.cells c t (0, 0))) (o : Nat) (v : Value) : (W.setCell ⟨b, o, none⟩ v).heap[b]? = some (.cells (c.setIfInBounds o v) t (0, 0)) := by
  simp [World.setCell, Array.getElem?_modify, h]
end Go.Proofs.YtghogbngmcolmaaGreat.Gr
namespace Go.Proofs.YtghogbngmcolmaaGreat.Gr
open Go.RowKit Go.Shelf
structure Gp where
  there : Bool
  par : Int
  lp : Int
  lq : Int
  op : Int
  oq : Int
def Gp.cell (g : Gp) : Nat → Value
  | 0 => .bool g.there
  | 1 => .int .i64 g.par
  | 2 => .int .i64 g.lp
  | 3 => .int .i64 g.lq
  | 4 => .int .i64 g.op
  | _ => .int .i64 g.oq
def encT (t : Nat → Gp) : Array Value := ((List.range 60).map fun i => (t (i / 6)).cell (i % 6)).toArray
theorem encT_size (t : Nat → Gp) : (encT t).size = 60 := by simp [encT]
theorem encT_at (t : Nat → Gp) (n j : Nat) (hn : n < 10) (hj : j < 6) : (encT t)[n * 6 + j]? = some ((t n).cell j) := by
  have e1 : (n * 6 + j) / 6 = n := by omega
  have e2 : (n * 6 + j) % 6 = j := by omega
  have e3 : n * 6 + j < 60 := by omega
  simp [encT, e3, e1, e2]
theorem encT_ext (t : Nat → Gp) (c : Array Value) (hs : c.size = 60) (h : ∀ n j, n < 10 → j < 6 → c[n * 6 + j]? = some ((t n).cell j)) : c = encT t := by
  apply Array.ext_getElem?
  intro i
  rcases Nat.lt_or_ge i 60 with hi | hi
  · have e : i = i / 6 * 6 + i % 6 := by omega
    rw [e, h (i / 6) (i % 6) (by omega) (by omega), encT_at t (i / 6) (i % 6) (by omega) (by omega)]
  · rw [Array.getElem?_eq_none (by omega), Array.getElem?_eq_none (by rw [encT_size]; omega)]
def TAt (w : World) (b : Nat) (t : Nat → Gp) : Prop := w.heap[b]? = some (.cells (encT t) 132 (0, 0))
def updT (t : Nat → Gp) (n : Nat) (g : Gp) : Nat → Gp := fun k => if k = n then g else t k
theorem updT_same (t : Nat → Gp) (n : Nat) (g : Gp) : updT t n g n = g := by simp [updT]
theorem updT_ne (t : Nat → Gp) (n k : Nat) (g : Gp) (h : k ≠ n) : updT t n g k = t k := by simp [updT, h]
section
variable {w : World} {b : Nat} {t : Nat → Gp}
theorem TAt.cell (h : TAt w b t) (n j : Nat) (hn : n < 10) (hj : j < 6) : w.cell? ⟨b, n * 6 + j, none⟩ = some ((t n).cell j) := by rw [heap_cell h, encT_at t n j hn hj]
theorem TAt.frozen (h : TAt w b t) (o : Nat) : w.frozen? ⟨b, o, none⟩ = false := heap_frozen h o
theorem TAt.drew (h : TAt w b t) : TAt w.drew b t := h
theorem TAt.below {w' : World} (h : TAt w b t) {B : Nat} (hB : Below B w w') (hb : b < B) : TAt w' b t := (hB.block b hb).trans h
theorem TAt.lt (h : TAt w b t) : b < w.heap.size := (Array.getElem?_eq_some_iff.1 h).1
theorem TAt.set (h : TAt w b t) (n j : Nat) (hn : n < 10) (hj : j < 6) (v : Value) (g : Gp) (hg : ∀ i, i < 6 → g.cell i = if i = j then v else (t n).cell i) : TAt (w.setCell ⟨b, n * 6 + j, none⟩ v) b (updT t n g) := by
  unfold TAt
  rw [heap_set h]
  refine congrArg (fun c => some (Obj.cells c 132 (0, 0))) ?_
  refine encT_ext _ _ (by simp [encT_size]) fun m i hm hi => ?_
  by_cases e : m = n
  · subst e
    rw [updT_same, hg i hi]
    by_cases e2 : i = j
    · subst e2
      rw [Array.getElem?_setIfInBounds_self_of_lt (by rw [encT_size]; omega), if_pos rfl]
    · rw [Array.getElem?_setIfInBounds_ne (by omega), encT_at t m i hm hi, if_neg e2]
  · rw [updT_ne _ _ _ _ e, Array.getElem?_setIfInBounds_ne (by omega), encT_at t m i hm hi]
end
def valid (t : Nat → Gp) (g : Int) : Prop := 0 ≤ g ∧ g < 10 ∧ (t g.toNat).there = true
def Way (t : Nat → Gp) : Int → List Nat → Prop
  | g, [] => ¬ valid t g
  | g, x :: L => g = x ∧ x < 10 ∧ (t x).there = true ∧ Way t (t x).par L
theorem Way.unique {t : Nat → Gp} : ∀ {g : Int} {L M : List Nat}, Way t g L → Way t g M → L = M
  | _, [], [], _, _ => rfl
  | g, [], x :: M, h, ⟨e, h1, h2, _⟩ => absurd ⟨by omega, by omega, by rw [e]; exact h2⟩ h
  | g, x :: L, [], ⟨e, h1, h2, _⟩, h => absurd ⟨by omega, by omega, by rw [e]; exact h2⟩ h
  | g, x :: L, y :: M, ⟨e, _, _, h⟩, ⟨e', _, _, h'⟩ => by
    obtain rfl : x = y := by omega
    rw [Way.unique h h']
set_option maxHeartbeats 400000 in
theorem wrong_bad (b : Nat) (g : Int) (w : World) (hg : g < 0 ∨ 10 ≤ g) : Calls Tryz.prog 109 #[.pointer (some ⟨b, 0, none⟩), .int .i64 g] w fun e w' => e = .returned (.iface 60 (.int .i64 1)) ∧ w' = w := by
  by_cases h : g < 0
  · go_enter Tryz.func109, Tryz.ntmps109
    go_wp2
    go_ret
    exact ⟨rfl, rfl⟩
  · have h1 : decide (g < 0) = false := by simp; omega
    have h2 : 10 ≤ g := by omega
    clear h hg
    go_enter Tryz.func109, Tryz.ntmps109
    go_wp2
    go_ret
    exact ⟨rfl, rfl⟩
set_option maxHeartbeats 400000 in
theorem wrong_none (b g : Nat) (t : Nat → Gp) (w : World) (h : TAt w b t) (hg : g < 10) (hh : (t g).there = false) : Calls Tryz.prog 109 #[.pointer (some ⟨b, 0, none⟩), .int .i64 g] w fun e w' => e = .returned (.iface 60 (.int .i64 2)) ∧ w' = w := by
  have c : w.cell? ⟨b, g * 6, none⟩ = some (.bool false) := by have := h.cell g 0 hg (by omega); rw [show (t g).cell 0 = .bool (t g).there from rfl, hh] at this; exact this
  have h1 : (g : Int) < 10 := by omega
  have h2 : ¬ (10 : Int) ≤ (g : Int) := by omega
  clear h hh
  go_enter Tryz.func109, Tryz.ntmps109
  go_wp2
  go_ret
  exact ⟨rfl, rfl⟩
set_option maxHeartbeats 400000 in
theorem wrong_ok (b g : Nat) (t : Nat → Gp) (w : World) (h : TAt w b t) (hg : g < 10) (hh : (t g).there = true) : Calls Tryz.prog 109 #[.pointer (some ⟨b, 0, none⟩), .int .i64 g] w fun e w' => e = .returned .nilIface ∧ w' = w := by
  have c : w.cell? ⟨b, g * 6, none⟩ = some (.bool true) := by have := h.cell g 0 hg (by omega); rw [show (t g).cell 0 = .bool (t g).there from rfl, hh] at this; exact this
  have h1 : (g : Int) < 10 := by omega
  have h2 : ¬ (10 : Int) ≤ (g : Int) := by omega
  clear h hh
  go_enter Tryz.func109, Tryz.ntmps109
  go_wp2
  go_ret
  exact ⟨rfl, rfl⟩
def wr (t : Nat → Gp) (g : Int) : Int := if g < 0 ∨ 10 ≤ g then 1 else if (t g.toNat).there = true then 0 else 2
theorem wrong_not (b : Nat) (g : Int) (t : Nat → Gp) (w : World) (h : TAt w b t) (hg : ¬ valid t g) : Calls Tryz.prog 109 #[.pointer (some ⟨b, 0, none⟩), .int .i64 g] w fun e w' => (∃ n, e = .returned (.iface 60 (.int .i64 n))) ∧ w' = w := by
  by_cases hb : g < 0 ∨ 10 ≤ g
  · exact (wrong_bad b g w hb).mono fun e w' ⟨h1, h2⟩ => ⟨⟨1, h1⟩, h2⟩
  · obtain ⟨n, rfl⟩ := Int.eq_ofNat_of_zero_le (show 0 ≤ g by omega)
    have hf : (t n).there = false := by
      cases hh : (t n).there
      · rfl
      · exact absurd ⟨by omega, by omega, hh⟩ hg
    exact (wrong_none b n t w h (by omega) hf).mono fun e w' ⟨h1, h2⟩ => ⟨⟨2, h1⟩, h2⟩
theorem way_any (b : Nat) (n : Int) (w : World) : Calls Tryz.prog 111 #[.pointer (some ⟨b, 0, none⟩), .int .i64 n] w fun e w' =>
    e = .returned (.func (.func 140) #[] #[.pointer (some ⟨w.heap.size + 1, 0, none⟩), .pointer (some ⟨w.heap.size, 0, none⟩)]) ∧ w' = (w.alloc (.cells #[.pointer (some ⟨b, 0, none⟩)] 70)).alloc (.cells #[.int .i64 n] 3) := by
  go_enter Tryz.func111, Tryz.ntmps111
  go_wp2
  go_ret
  exact ⟨rfl, rfl⟩
end Go.Proofs.YtghogbngmcolmaaGreat.Gr
namespace Go.Proofs.YtghogbngmcolmaaGreat.Gr
open Go.RowKit Go.Shelf
attribute [local go_sem] Oper.semAt_some
def K2 (b bt : Nat) (W W' : World) : Prop := W'.heap[b]? = W.heap[b]? ∧ W'.heap[bt]? = W.heap[bt]?
theorem K2.t {b bt : Nat} {A B C : World} (h : K2 b bt A B) (k : K2 b bt B C) : K2 b bt A C := ⟨k.1.trans h.1, k.2.trans h.2⟩
theorem K2.b {b bt : Nat} {w : World} (h1 : b < w.heap.size) (h2 : bt < w.heap.size) (W : World) (l : Nat) (o o' : Obj) (hl : w.heap.size ≤ l) (_ : W.heap[l]? = some o) (_ : o.isCells = false) (_ : o.isWalk = false) : K2 b bt W (W.putObj l o') :=
  ⟨World.putObj_heap_other (by omega), World.putObj_heap_other (by omega)⟩
def vals (xs : List (Fin 10)) : List Nat := xs.map Fin.val
def wleft (t : Nat → Gp) (v : Value) : Nat → Nat
  | 0 => 0
  | f + 1 => match v with
    | .int _ g => if 0 ≤ g ∧ g < 10 ∧ (t g.toNat).there = true then 1 + wleft t (.int .i64 (t g.toNat).par) f else 0
    | _ => 0
theorem wleft_eq {t : Nat → Gp} : ∀ {g : Int} {L : List Nat} (f : Nat), Way t g L → L.length ≤ f → wleft t (.int .i64 g) f = L.length
  | _, [], 0, _, _ => rfl
  | g, [], f + 1, h, _ => by
    unfold wleft
    exact if_neg h
  | g, x :: L, 0, _, hl => by simp at hl
  | g, x :: L, f + 1, ⟨e, hx, hh, h⟩, hl => by
    have ih := wleft_eq f h (by simpa using hl)
    subst e
    unfold wleft
    have hv : (0 : Int) ≤ (x : Int) ∧ (x : Int) < 10 ∧ (t (x : Int).toNat).there = true := ⟨by omega, by omega, by rw [Int.toNat_natCast]; exact hh⟩
    show (if (0 : Int) ≤ (x : Int) ∧ (x : Int) < 10 ∧ (t (x : Int).toNat).there = true then 1 + wleft t (.int .i64 (t (x : Int).toNat).par) f else 0) = _
    rw [if_pos hv, Int.toNat_natCast, ih, List.length_cons]
    omega
set_option maxRecDepth 100000 in
set_option maxHeartbeats 1000000 in
theorem way1_in (n : Nat) (hn : 1 ≤ n) (l bn bt b : Nat) (g0 : Int) (t : Nat → Gp) (xs : List (Fin 10)) (J Jx : List (Fin 10) → World → Prop)
    (hY : ∀ pre x W, J pre W → pre.length < xs.length → YieldAt Fence.wide (n - 1) Tryz.prog l #[.int .i64 (x.val : Int)] W fun e W' =>
      (e = .returned (.bool true) ∧ J (pre ++ [x]) W' ∧ K2 b bt W W') ∨ (e = .returned (.bool false) ∧ Jx (pre ++ [x]) W'))
    (W : World) (hbn : W.cell? ⟨bn, 0, none⟩ = some (.int .i64 g0)) (hbt : W.heap[bt]? = some (.cells #[.pointer (some ⟨b, 0, none⟩)] 70 (0, 0))) (hT : TAt W b t) (hL : Way t g0 (vals xs)) (h0 : J [] W) :
    CallsIn Fence.wide n Tryz.prog 140 #[.func (.yield l) #[] #[], .pointer (some ⟨bn, 0, none⟩), .pointer (some ⟨bt, 0, none⟩)] W fun e W' => (∃ v, e = .returned v) ∧
      ((∃ ys, ys = xs ∧ J ys W') ∨ (∃ pre, pre <+: xs ∧ Jx pre W')) := by
  refine callsIn_of_wp Tryz.func140 rfl trivial ?_ rfl
  simp only [Tryz.ntmps140, List.size_toArray, List.length_cons, List.length_nil, Nat.reduceAdd, Nat.reduceSub, Array.replicate_succ, Array.replicate_zero, List.push_toArray, List.append_toArray, List.nil_append, List.cons_append]
  gi_wp2
  gi_loopw [4] (fun p wr => ∃ (pre rest : List (Fin 10)) (g : Int), p = .int .i64 g ∧ xs = pre ++ rest ∧ Hid (Way t g (vals rest) ∧ TAt wr b t ∧ wr.heap[bt]? = some (.cells #[.pointer (some ⟨b, 0, none⟩)] 70 (0, 0)) ∧ J pre wr))
    (fun p _ => wleft t p xs.length)
  case atStart =>
    exact ⟨[], xs, g0, rfl, rfl, hL, hT, hbt, h0⟩
  case round =>
    obtain ⟨pre, rest, g, rfl, hx, H⟩ := hrel
    have cb : wr.cell? ⟨bt, 0, none⟩ = some (.pointer (some ⟨b, 0, none⟩)) := by rw [heap_cell H.out.2.2.1]; rfl
    cases rest with
    | nil =>
      gi_wp2_with (refine ⟨trivial, ?_⟩; gi_at_call 109; refine (callsIn_wide.2 (wrong_not b g t _ H.out.2.1 H.out.1)).mono ?_; rintro e w' ⟨⟨m, rfl⟩, rfl⟩)
      go_end0
      exact ⟨⟨_, rfl⟩, .inl ⟨pre, by simp [hx], H.out.2.2.2⟩⟩
    | cons x rest =>
      obtain ⟨e, hx10, hth, hrest⟩ := H.out.1
      subst e
      have hlen : (x :: rest).length ≤ xs.length := by rw [hx]; simp
      obtain ⟨fn, tmps, assign, body, hy, hR⟩ := hY pre x wr H.out.2.2.2 (by rw [hx]; simp)
      have HT : Hid (TAt wr b t) := H.out.2.1
      have HB : Hid (wr.heap[bt]? = some (.cells #[.pointer (some ⟨b, 0, none⟩)] 70 (0, 0))) := H.out.2.2.1
      have HR : Hid (Way t (t x.val).par (vals rest)) := hrest
      have HTH : Hid ((t x.val).there = true) := hth
      have HX : Hid (xs = pre ++ x :: rest) := hx
      clear hrest hth hx
      gi_wp2_with (refine ⟨trivial, ?_⟩; gi_at_call 109; refine (callsIn_wide.2 (wrong_ok b x.val t _ HT.out hx10 HTH.out)).mono ?_; rintro e w' ⟨rfl, rfl⟩)
      refine hR.mono ?_
      rintro e W3 (⟨rfl, hJ3, hk3⟩ | ⟨rfl, hJx3⟩)
      · have T3 : Hid (TAt W3 b t) := hk3.1.trans HT.out
        have B3 : Hid (W3.heap[bt]? = some (.cells #[.pointer (some ⟨b, 0, none⟩)] 70 (0, 0))) := hk3.2.trans HB.out
        have c3 : W3.cell? ⟨bt, 0, none⟩ = some (.pointer (some ⟨b, 0, none⟩)) := by rw [heap_cell B3.out]; rfl
        have p3 : W3.cell? ⟨b, x.val * 6 + 1, none⟩ = some (.int .i64 (t x.val).par) := T3.out.cell x.val 1 hx10 (by omega)
        have hxI : (x.val : Int) < 10 := by omega
        have J3 : Hid (J (pre ++ [x]) W3) := hJ3
        clear hk3 hJ3
        gi_wp2
        go_roundw
        case rel => exact ⟨pre ++ [x], rest, _, rfl, by rw [HX.out]; simp, HR.out, T3.out, B3.out, J3.out⟩
        case measure =>
          rw [wleft_eq xs.length HR.out (by simp [vals] at hlen ⊢; omega), wleft_eq xs.length (L := vals (x :: rest)) ⟨rfl, hx10, HTH.out, HR.out⟩ (by simpa [vals] using hlen)]
          simp [vals]
      · gi_wp2
        refine bodyPost_ret (results_none rfl _ _ _) rfl ?_
        exact ⟨⟨_, rfl⟩, .inr ⟨pre ++ [x], ⟨rest, by rw [HX.out]; simp⟩, hJx3⟩⟩
theorem way_stops (n : Nat) (hn : 1 ≤ n) (bn bt b : Nat) (g0 : Int) (t : Nat → Gp) (xs : List (Fin 10)) (w : World) (hbnl : bn < w.heap.size) (hbn : w.cell? ⟨bn, 0, none⟩ = some (.int .i64 g0)) (hbt : w.heap[bt]? = some (.cells #[.pointer (some ⟨b, 0, none⟩)] 70 (0, 0))) (hT : TAt w b t) (hL : Way t g0 (vals xs)) :
    SeqStopsK Fence.wide n Tryz.prog 140 #[.pointer (some ⟨bn, 0, none⟩), .pointer (some ⟨bt, 0, none⟩)] (fun x : Fin 10 => #[Value.int .i64 (x.val : Int)]) (K2 b bt) (fun ys => ys = xs) (fun pre => pre <+: xs) xs.length w := fun l J Jx W hW _ _ hY h0 =>
  way1_in n hn l bn bt b g0 t xs J Jx hY W ((hW.cell (p := ⟨bn, 0, none⟩) hbnl).trans hbn) ((hW.block bt (Array.getElem?_eq_some_iff.1 hbt).1).trans hbt) ((hW.block b hT.lt).trans hT) hL h0
end Go.Proofs.YtghogbngmcolmaaGreat.Gr
namespace Go.Proofs.YtghogbngmcolmaaGreat.Gr
open Go.RowKit Go.Shelf
attribute [local go_sem] Oper.semAt_some
theorem cell_box {W : World} {B : Nat} {v : Value} {t : TypeId} (h : W.heap[B]? = some (.cells #[v] t (0, 0))) : W.cell? ⟨B, 0, none⟩ = some v ∧ W.frozen? ⟨B, 0, none⟩ = false := by
  constructor <;> simp [World.cell?, World.frozen?, h]
theorem al4 (w : World) (o1 o2 o3 o4 : Obj) : ((((w.alloc o1).alloc o2).alloc o3).alloc o4).heap[w.heap.size]? = some o1 ∧ ((((w.alloc o1).alloc o2).alloc o3).alloc o4).heap[w.heap.size + 1]? = some o2 ∧ ((((w.alloc o1).alloc o2).alloc o3).alloc o4).heap[w.heap.size + 1 + 1]? = some o3 ∧ ((((w.alloc o1).alloc o2).alloc o3).alloc o4).heap[w.heap.size + 1 + 1 + 1]? = some o4 := by
  have e : ((((w.alloc o1).alloc o2).alloc o3).alloc o4).heap = (((w.heap.push o1).push o2).push o3).push o4 := rfl
  rw [e]
  refine ⟨?_, ?_, ?_, ?_⟩
  · simp only [Array.getElem?_push, Array.size_push]; rw [if_neg (by omega), if_neg (by omega), if_neg (by omega), if_pos trivial]
  · simp only [Array.getElem?_push, Array.size_push]; rw [if_neg (by omega), if_neg (by omega), if_pos trivial]
  · simp only [Array.getElem?_push, Array.size_push]; rw [if_neg (by omega), if_pos trivial]
  · simp only [Array.getElem?_push, Array.size_push]; rw [if_pos trivial]
theorem al4_below (w : World) (o1 o2 o3 o4 : Obj) : Below w.heap.size w ((((w.alloc o1).alloc o2).alloc o3).alloc o4) :=
  ((((Below.refl _ w).alloc (Nat.le_refl _) _).alloc (by simp) _).alloc (by simp; omega) _).alloc (by simp; omega) _
set_option maxRecDepth 100000 in
set_option maxHeartbeats 2000000 in
theorem under_any (b : Nat) (g other : Int) (t : Nat → Gp) (xs : List (Fin 10)) (w : World) (hT : TAt w b t) (hL : Way t g (vals xs)) :
    Calls Tryz.prog 141 #[.pointer (some ⟨b, 0, none⟩), .int .i64 g, .int .i64 other] w fun e W' => e = .returned (.bool (decide (∃ x ∈ xs, (x.val : Int) = other))) ∧ Below w.heap.size w W' := by
  refine (callsIn_wide (n := 4)).1 ?_
  refine callsIn_of_wp_marks Tryz.func141 rfl trivial ?_ rfl
  simp only [Tryz.ntmps141, List.size_toArray, List.length_cons, List.length_nil, Nat.reduceAdd, Nat.reduceSub, Array.replicate_succ, Array.replicate_zero, List.push_toArray, List.append_toArray, List.nil_append, List.cons_append]
  gi_wp2_with (refine ⟨trivial, ?_⟩; gi_at_call 111; refine (callsIn_wide.2 (way_any b g _)).mono ?_; rintro e w' ⟨rfl, rfl⟩)
  have hA := al4 w (.cells #[.int .i64 other] 3) (.cells #[.bool false] 4) (.cells #[.pointer (some ⟨b, 0, none⟩)] 70) (.cells #[.int .i64 g] 3)
  have hB0 := al4_below w (.cells #[.int .i64 other] 3) (.cells #[.bool false] 4) (.cells #[.pointer (some ⟨b, 0, none⟩)] 70) (.cells #[.int .i64 g] 3)
  have c0 := cell_box hA.1
  have c1 := cell_box hA.2.1
  have c3 := cell_box hA.2.2.2
  have hbl := hT.lt
  refine wpIn_rangeFunc_ownF rfl (by omega) (gf := 140) (lb := #[.pointer (some ⟨w.heap.size + 1 + 1 + 1, 0, none⟩), .pointer (some ⟨w.heap.size + 1 + 1, 0, none⟩)]) rfl trivial (enters_of Tryz.func140 (by kernel_rfl) rfl)
    (way_stops 3 (by omega) (w.heap.size + 1 + 1 + 1) (w.heap.size + 1 + 1) b g t xs _ (by simp) c3.1 hA.2.2.1 (hT.below hB0 hbl) hL) K2.t (K2.b (by simp; omega) (by simp)) (Below.refl _ _) (fun _ => rfl)
    (fun pre W => ((∀ y ∈ pre, (y.val : Int) ≠ other) ∧ W.cell? ⟨w.heap.size, 0, none⟩ = some (.int .i64 other) ∧ W.cell? ⟨w.heap.size + 1, 0, none⟩ = some (.bool false) ∧ W.frozen? ⟨w.heap.size + 1, 0, none⟩ = false) ∧ Below w.heap.size w W)
    (fun c pre W => (c = .ret ∧ (∃ y ∈ pre, (y.val : Int) = other) ∧ W.cell? ⟨w.heap.size + 1, 0, none⟩ = some (.bool true)) ∧ Below w.heap.size w W)
    (OwnFrom.and (Own.from (fun s A B row hs hg hr => ⟨hs.1, cell_kept hs.2.1 hg hr, cell_kept hs.2.2.1 hg hr, (frozen_kept hs.2.2.1 hg hr).trans hs.2.2.2⟩) _) (ownFrom_below (Nat.le_refl _) (by simp; omega)))
    (fun c => OwnFrom.and (Own.from (fun s A B row hs hg hr => ⟨hs.1, hs.2.1, cell_kept hs.2.2 hg hr⟩) _) (ownFrom_below (Nat.le_refl _) (by simp; omega)))
    ⟨⟨by simp, c0.1, c1.1, c1.2⟩, hB0⟩
    (fun x => { tmps := #[.pointer (some ⟨b, 0, none⟩), .int .i64 g, .int .i64 other, undef, undef, .pointer (some ⟨w.heap.size, 0, none⟩), .pointer (some ⟨w.heap.size + 1, 0, none⟩), .int .i64 (x.val : Int), .pointer (some ⟨b, 0, none⟩), .int .i64 g, .func (.func 140) #[] #[.pointer (some ⟨w.heap.size + 1 + 1 + 1, 0, none⟩), .pointer (some ⟨w.heap.size + 1 + 1, 0, none⟩)], .int .i64 (x.val : Int), undef, undef, undef], defers := [] }) ?assign ?body ?done ?stop
  case assign =>
    intro l x W K hK
    gi_wp2
    exact hK
  case body =>
    rintro l pre x W ⟨⟨hp, hcw, hcr, hfr⟩, hB⟩ _
    gi_wp2
    · rename_i hx
      have hx' : (x.val : Int) = other := eq_of_beq hx
      exact ⟨KeepsOthers.setCell _ _ _, ⟨rfl, ⟨x, List.mem_append.2 (.inr (by simp)), hx'⟩, World.cell?_setCell_same' _ _ _ (by rw [hcr]; rfl)⟩, hB.setCell (p := ⟨w.heap.size + 1, 0, none⟩) (by simp) _⟩
    · rename_i hx
      have hx' : (x.val : Int) ≠ other := by simpa using hx
      exact ⟨KeepsOthers.refl _, ⟨rfl, rfl⟩, ⟨fun y hy => (List.mem_append.1 hy).elim (hp y) (fun e => by simp at e; subst e; exact hx'), hcw, hcr, hfr⟩, hB⟩
  case done =>
    rintro D ys W hD rfl ⟨⟨hne, _, hcr, hfr⟩, hB⟩ hK
    gi_wp2
    have hK' := (KeepsOthers.setCell W ⟨w.heap.size + 1, 0, none⟩ (.bool false)).same D _ hK rfl
    refine ⟨by simp, .inl ⟨_, _, rfl, run_takeDeferred hK', ?_⟩⟩
    have hc5 := cell_kept (World.cell?_setCell_same' W ⟨w.heap.size + 1, 0, none⟩ (.bool false) (by rw [hcr]; rfl)) (grownBy_putObj' _ D (.deferred none)) (fun r e => by cases e; exact ⟨_, hK', rfl⟩)
    refine ⟨.bool false, ?_, by rw [decide_eq_false (fun ⟨y, hy, e⟩ => hne y hy e)], (hB.setCell (p := ⟨w.heap.size + 1, 0, none⟩) (by simp) _).trans (belowK_b (w := w) (Nat.le_refl _) _ D _ _ (by simp at hD; omega) hK' rfl rfl)⟩
    simp [results, Tryz.f141, go_sem, hc5]
  case stop =>
    rintro D c pre W hD hpre ⟨⟨rfl, hin, hcr⟩, hB⟩ hK
    gi_wp2
    refine ⟨by simp, .inl ⟨_, _, rfl, run_takeDeferred hK, ?_⟩⟩
    have hc5 := cell_kept hcr (grownBy_putObj' _ D (.deferred none)) (fun r e => by cases e; exact ⟨_, hK, rfl⟩)
    refine ⟨.bool true, ?_, by rw [decide_eq_true (hin.imp fun y hy => ⟨hpre.subset hy.1, hy.2⟩)], hB.trans (belowK_b (w := w) (Nat.le_refl _) W D _ _ (by simp at hD; omega) hK rfl rfl)⟩
    simp [results, Tryz.f141, go_sem, hc5]
end Go.Proofs.YtghogbngmcolmaaGreat.Gr
namespace Go.Proofs.YtghogbngmcolmaaGreat.Gr
open Go.RowKit Go.Shelf
theorem al3 (w : World) (o1 o2 o3 : Obj) : (((w.alloc o1).alloc o2).alloc o3).heap[w.heap.size]? = some o1 ∧ (((w.alloc o1).alloc o2).alloc o3).heap[w.heap.size + 1]? = some o2 ∧ (((w.alloc o1).alloc o2).alloc o3).heap[w.heap.size + 1 + 1]? = some o3 := by
  have e : (((w.alloc o1).alloc o2).alloc o3).heap = ((w.heap.push o1).push o2).push o3 := rfl
  rw [e]
  refine ⟨?_, ?_, ?_⟩
  · simp only [Array.getElem?_push, Array.size_push]; rw [if_neg (by omega), if_neg (by omega), if_pos trivial]
  · simp only [Array.getElem?_push, Array.size_push]; rw [if_neg (by omega), if_pos trivial]
  · simp only [Array.getElem?_push, Array.size_push]; rw [if_pos trivial]
theorem al2 (w : World) (o1 o2 : Obj) : ((w.alloc o1).alloc o2).heap[w.heap.size]? = some o1 ∧ ((w.alloc o1).alloc o2).heap[w.heap.size + 1]? = some o2 := by
  have e : ((w.alloc o1).alloc o2).heap = (w.heap.push o1).push o2 := rfl
  rw [e]
  refine ⟨?_, ?_⟩
  · simp only [Array.getElem?_push, Array.size_push]; rw [if_neg (by omega), if_pos trivial]
  · simp only [Array.getElem?_push, Array.size_push]; rw [if_pos trivial]
section
attribute [local go_sem] Oper.semAt_some
end
def und (Wy : Nat → List (Fin 10)) (k : Nat) (n : Int) : Bool := decide (∃ x ∈ Wy k, (x.val : Int) = n)
def totTo (t : Nat → Gp) (Wy : Nat → List (Fin 10)) (n : Int) (sel : Gp → Int) : Nat → Int
  | 0 => 0
  | k + 1 => totTo t Wy n sel k + if und Wy k n = true then sel (t k) else 0
def Ways (t : Nat → Gp) (Wy : Nat → List (Fin 10)) : Prop := ∀ k : Nat, k < 10 → Way t (k : Int) (vals (Wy k))
def Small (t : Nat → Gp) : Prop := ∀ k, k < 10 → (0 ≤ (t k).op ∧ (t k).op ≤ 1000000) ∧ (0 ≤ (t k).oq ∧ (t k).oq ≤ 1000000)
theorem totTo_bd {t : Nat → Gp} (Wy : Nat → List (Fin 10)) (n : Int) {sel : Gp → Int} (h : ∀ k, k < 10 → 0 ≤ sel (t k) ∧ sel (t k) ≤ 1000000) : ∀ k, k ≤ 10 → 0 ≤ totTo t Wy n sel k ∧ totTo t Wy n sel k ≤ 1000000 * k
  | 0, _ => by simp [totTo]
  | k + 1, hk => by
    have ih := totTo_bd Wy n h k (by omega)
    have := h k (by omega)
    unfold totTo
    split <;> omega
structure Ts (w W : World) (a c : Int) : Prop where
  bel : Below w.heap.size w W
  res : W.heap[w.heap.size]? = some (.cells #[.int .i64 0, .int .i64 0] 125 (0, 0))
  sum : W.heap[w.heap.size + 1]? = some (.cells #[.int .i64 a, .int .i64 c] 125 (0, 0))
theorem Ts.below {w W W' : World} {a c : Int} (h : Ts w W a c) (hb : Below W.heap.size W W') : Ts w W' a c := by
  have h1 := (Array.getElem?_eq_some_iff.1 h.sum).1
  exact ⟨h.bel.trans (hb.mono h.bel.size), (hb.block _ (by omega)).trans h.res, (hb.block _ h1).trans h.sum⟩
theorem Ts.drewN {w W : World} {a c : Int} (h : Ts w W a c) (n : Nat) : Ts w (W.drewN n) a c := ⟨below_drewN h.bel n, h.res, h.sum⟩
theorem Ts.drew {w W : World} {a c : Int} (h : Ts w W a c) : Ts w W.drew a c := h.drewN 1
theorem Ts.set0 {w W : World} {a c : Int} (h : Ts w W a c) (v : Int) : Ts w (W.setCell ⟨w.heap.size + 1, 0, none⟩ (.int .i64 v)) v c :=
  ⟨h.bel.setCell (by simp) _, (setBlk _ _ _ _ (by omega)).trans h.res, by rw [heap_set h.sum]; rfl⟩
theorem Ts.set1 {w W : World} {a c : Int} (h : Ts w W a c) (v : Int) : Ts w (W.setCell ⟨w.heap.size + 1, 1, none⟩ (.int .i64 v)) a v :=
  ⟨h.bel.setCell (by simp) _, (setBlk _ _ _ _ (by omega)).trans h.res, by rw [heap_set h.sum]; rfl⟩
set_option maxRecDepth 100000 in
set_option maxHeartbeats 2000000 in
theorem total_any (b : Nat) (n : Int) (t : Nat → Gp) (Wy : Nat → List (Fin 10)) (w : World) (hT : TAt w b t) (hW : Ways t Wy) (hS : Small t) :
    Calls Tryz.prog 112 #[.pointer (some ⟨b, 0, none⟩), .int .i64 n] w fun e W' => e = .returned (.agg #[.int .i64 (totTo t Wy n Gp.op 10), .int .i64 (totTo t Wy n Gp.oq 10)]) ∧ Below w.heap.size w W' := by
  have HT : Hid (TAt w b t) := hT
  have hbl := hT.lt
  have HW : Hid (Ways t Wy) := hW
  have HS : Hid (Small t) := hS
  clear hT hW hS
  go_enter Tryz.func112, Tryz.ntmps112
  go_wp2_with fail
  have A2 := al2 w (.cells #[.int .i64 0, .int .i64 0] 125) (.cells #[.int .i64 0, .int .i64 0] 125)
  refine wp_gen (fun W => Ts w W 0 0) ⟨((Below.refl _ w).alloc (Nat.le_refl _) _).alloc (by simp) _, A2.1, A2.2⟩ ?_
  intro W1 hT1
  clear A2
  go_loopw [7] (fun i wr => ∃ (k : Nat), i = .int .i64 k ∧ k ≤ 10 ∧ Hid (Ts w wr (totTo t Wy n Gp.op k) (totTo t Wy n Gp.oq k))) (fun i _ => 10 - (intOf i).toNat)
  case atStart => exact ⟨0, rfl, by omega, hT1⟩
  case round =>
    clear hT1
    obtain ⟨k, rfl, hk, H⟩ := hrel
    by_cases hlt : k < 10
    · have hltI : (k : Int) < 10 := by omega
      have T1 : Hid (TAt wr b t) := HT.out.below H.out.bel hbl
      go_wp2_with fail
      refine (under_any b k n t (Wy k) _ T1.out (HW.out k hlt)).mono ?_
      rintro e W2 ⟨rfl, hb2⟩
      have H2 : Hid (Ts w W2 (totTo t Wy n Gp.op k) (totTo t Wy n Gp.oq k)) := H.out.below hb2
      have T2 : Hid (TAt W2 b t) := T1.out.below hb2 T1.out.lt
      rw [show decide (∃ x ∈ Wy k, (x.val : Int) = n) = und Wy k n from rfl]
      have e1 : totTo t Wy n Gp.op (k + 1) = totTo t Wy n Gp.op k + if und Wy k n = true then (t k).op else 0 := rfl
      have e2 : totTo t Wy n Gp.oq (k + 1) = totTo t Wy n Gp.oq k + if und Wy k n = true then (t k).oq else 0 := rfl
      cases hu : und Wy k n
      · rw [hu] at e1 e2
        have E1 : Hid (totTo t Wy n Gp.op (k + 1) = totTo t Wy n Gp.op k) := by rw [e1]; simp [Hid]
        have E2 : Hid (totTo t Wy n Gp.oq (k + 1) = totTo t Wy n Gp.oq k) := by rw [e2]; simp [Hid]
        clear e1 e2 hu hb2
        go_wp2_with fail
        go_roundw
        case rel => exact ⟨k + 1, by go_num, by omega, by rw [E1.out, E2.out]; exact H2.out⟩
        case measure => simp [intOf]; omega
      · rw [hu, if_pos rfl] at e1 e2
        have E1 : Hid (totTo t Wy n Gp.op (k + 1) = totTo t Wy n Gp.op k + (t k).op) := e1
        have E2 : Hid (totTo t Wy n Gp.oq (k + 1) = totTo t Wy n Gp.oq k + (t k).oq) := e2
        have b1 := totTo_bd Wy n (fun k hk => (HS.out k hk).1) k hk
        have b2 := totTo_bd Wy n (fun k hk => (HS.out k hk).2) k hk
        have s1 := HS.out k hlt
        clear e1 e2 hu hb2
        generalize totTo t Wy n Gp.op k = X at *
        generalize totTo t Wy n Gp.oq k = Y at *
        have d0 : W2.cell? ⟨w.heap.size + 1, 0, none⟩ = some (.int .i64 X) := by rw [heap_cell H2.out.sum]; rfl
        have d1 : W2.cell? ⟨w.heap.size + 1, 1, none⟩ = some (.int .i64 Y) := by rw [heap_cell H2.out.sum]; rfl
        have f0 : ∀ o, W2.frozen? ⟨w.heap.size + 1, o, none⟩ = false := fun o => heap_frozen H2.out.sum o
        have g0 : W2.cell? ⟨b, k * 6 + 4, none⟩ = some (.int .i64 (t k).op) := T2.out.cell k 4 hlt (by omega)
        have g1 : W2.cell? ⟨b, k * 6 + 4 + 1, none⟩ = some (.int .i64 (t k).oq) := T2.out.cell k 5 hlt (by omega)
        have hne : b ≠ w.heap.size + 1 := by omega
        have hne' : w.heap.size + 1 ≠ b := by omega
        generalize (t k).op = P at *
        generalize (t k).oq = R at *
        go_wp2_with fail
        go_region
        go_wp2_with fail
        go_region
        go_wp2_with fail
        go_roundw
        case rel =>
          have Z := ((H2.out.set0 (X + P)).drew.set1 (Y + R)).drew
          refine ⟨k + 1, by go_num, by omega, ?_⟩
          rw [E1.out, E2.out]
          exact Z
        case measure => simp [intOf]; omega
    · have hk10 : k = 10 := by omega
      subst hk10
      have r0 : wr.cell? ⟨w.heap.size, 0, none⟩ = some (.int .i64 0) := by rw [heap_cell H.out.res]; rfl
      have r1 : wr.cell? ⟨w.heap.size, 1, none⟩ = some (.int .i64 0) := by rw [heap_cell H.out.res]; rfl
      have rf : ∀ o, wr.frozen? ⟨w.heap.size, o, none⟩ = false := fun o => heap_frozen H.out.res o
      have s0 : wr.cell? ⟨w.heap.size + 1, 0, none⟩ = some (.int .i64 (totTo t Wy n Gp.op 10)) := by rw [heap_cell H.out.sum]; rfl
      have s1 : wr.cell? ⟨w.heap.size + 1, 1, none⟩ = some (.int .i64 (totTo t Wy n Gp.oq 10)) := by rw [heap_cell H.out.sum]; rfl
      generalize hX : totTo t Wy n Gp.op 10 = X at s0
      generalize hY : totTo t Wy n Gp.oq 10 = Y at s1
      have HX : Hid (totTo t Wy n Gp.op 10 = X) := hX
      have HY : Hid (totTo t Wy n Gp.oq 10 = Y) := hY
      clear hX hY
      go_wp2_with fail
      refine bodyPost_ret (v := .agg #[.int .i64 X, .int .i64 Y]) (by simp [results, Tryz.results112, go_sem, r0, r1]) rfl ⟨by rw [HX.out, HY.out], ?_⟩
      exact (H.out.bel.setCell (p := ⟨w.heap.size, 0, none⟩) (Nat.le_refl _) _).setCell (p := ⟨w.heap.size, 1, none⟩) (Nat.le_refl _) _
end Go.Proofs.YtghogbngmcolmaaGreat.Gr
namespace Go.Proofs.YtghogbngmcolmaaGreat.Gr
open Go.RowKit Go.Shelf
def fromB (p q l : Int) : Bool := decide (l ≤ p ∧ p ≤ 20 ∧ l ≤ q ∧ q ≤ 64)
set_option maxHeartbeats 400000 in
theorem from_any (p q l : Int) (w : World) : Calls Tryz.prog 110 #[.agg #[.int .i64 p, .int .i64 q], .int .i64 l] w fun e w' => e = .returned (.bool (fromB p q l)) ∧ Below w.heap.size w w' := by
  have HF : Hid (∀ r : Bool, (r = true ↔ (l ≤ p ∧ p ≤ 20 ∧ l ≤ q ∧ q ≤ 64)) → r = fromB p q l) := fun r hr => by unfold fromB; rw [Bool.eq_iff_iff, hr, decide_eq_true_eq]
  by_cases h1 : l ≤ p
  · have d1 : decide (l ≤ p) = true := by simp [h1]
    by_cases h2 : p ≤ 20
    · have d2 : decide (p ≤ 20) = true := by simp [h2]
      by_cases h3 : l ≤ q
      · have d3 : decide (l ≤ q) = true := by simp [h3]
        by_cases h4 : q ≤ 64
        · have HH : Hid (l ≤ p ∧ p ≤ 20 ∧ l ≤ q ∧ q ≤ 64) := ⟨h1, h2, h3, h4⟩
          go_enter Tryz.func110, Tryz.ntmps110
          go_wp2
          go_ret
          exact ⟨ret_bool (HF.out _ (by simp; exact HH.out)), (Below.refl _ _).alloc (Nat.le_refl _) _⟩
        · have d4 : decide (q ≤ 64) = false := by simp; omega
          have HH : Hid (¬ q ≤ 64) := h4
          clear h4
          go_enter Tryz.func110, Tryz.ntmps110
          go_wp2
          go_ret
          exact ⟨ret_bool (HF.out _ (by have := HH.out; simp; omega)), (Below.refl _ _).alloc (Nat.le_refl _) _⟩
      · have d3 : decide (l ≤ q) = false := by simp; omega
        have HH : Hid (¬ l ≤ q) := h3
        clear h3
        go_enter Tryz.func110, Tryz.ntmps110
        go_wp2
        go_ret
        exact ⟨ret_bool (HF.out _ (by have := HH.out; simp; omega)), (Below.refl _ _).alloc (Nat.le_refl _) _⟩
    · have d2 : decide (p ≤ 20) = false := by simp; omega
      have HH : Hid (¬ p ≤ 20) := h2
      clear h2
      go_enter Tryz.func110, Tryz.ntmps110
      go_wp2
      go_ret
      exact ⟨ret_bool (HF.out _ (by have := HH.out; simp; omega)), (Below.refl _ _).alloc (Nat.le_refl _) _⟩
  · have d1 : decide (l ≤ p) = false := by simp; omega
    have HH : Hid (¬ l ≤ p) := h1
    clear h1
    go_enter Tryz.func110, Tryz.ntmps110
    go_wp2
    go_ret
    exact ⟨ret_bool (HF.out _ (by have := HH.out; simp; omega)), (Below.refl _ _).alloc (Nat.le_refl _) _⟩
def passB (h m l : Int) : Bool := decide (l ≠ -1 ∧ 0 < m ∧ l < h + m)
set_option maxHeartbeats 400000 in
theorem passes_any (h m l : Int) (w : World) (hh : 0 ≤ h ∧ h ≤ 100000000) (hm : 0 ≤ m ∧ m ≤ 1000) : Calls Tryz.prog 113 #[.int .i64 h, .int .i64 m, .int .i64 l] w fun e w' => e = .returned (.bool (passB h m l)) ∧ w' = w := by
  have HF : Hid (∀ r : Bool, (r = true ↔ (l ≠ -1 ∧ 0 < m ∧ l < h + m)) → r = passB h m l) := fun r hr => by unfold passB; rw [Bool.eq_iff_iff, hr, decide_eq_true_eq]
  obtain ⟨hh0, hh1⟩ := hh
  obtain ⟨hm0, hm1⟩ := hm
  by_cases h1 : l = -1
  · have HH : Hid (l = -1) := h1
    have d1 : (l != -1) = false := by simp [h1]
    clear h1
    go_enter Tryz.func113, Tryz.ntmps113
    go_wp2
    go_ret
    exact ⟨ret_bool (HF.out _ (by simp [HH.out])), rfl⟩
  · have HH : Hid (l ≠ -1) := h1
    have d1 : (l != -1) = true := by simp [h1]
    clear h1
    by_cases h2 : 0 < m
    · by_cases h3 : l < h + m
      · go_enter Tryz.func113, Tryz.ntmps113
        go_wp2
        go_ret
        exact ⟨ret_bool (HF.out _ (by have := HH.out; simp; omega)), rfl⟩
      · go_enter Tryz.func113, Tryz.ntmps113
        go_wp2
        go_ret
        exact ⟨ret_bool (HF.out _ (by have := HH.out; simp; omega)), rfl⟩
    · have d2 : decide (0 < m) = false := by simp; omega
      have HH2 : Hid (¬ 0 < m) := h2
      clear h2
      go_enter Tryz.func113, Tryz.ntmps113
      go_wp2
      go_ret
      exact ⟨ret_bool (HF.out _ (by have := HH2.out; simp; omega)), rfl⟩
set_option maxHeartbeats 400000 in
theorem refuses_bad (b : Nat) (g p q : Int) (w : World) (hg : g < 0 ∨ 10 ≤ g) : Calls Tryz.prog 65 #[.pointer (some ⟨b, 0, none⟩), .int .i64 g, .agg #[.int .i64 p, .int .i64 q]] w fun e w' => e = .returned (.iface 60 (.int .i64 1)) ∧ Below w.heap.size w w' := by
  have HG : Hid (g < 0 ∨ 10 ≤ g) := hg
  clear hg
  go_enter Tryz.func65, Tryz.ntmps65
  go_wp2_with fail
  refine (wrong_bad b g _ HG.out).mono ?_
  rintro e w1 ⟨rfl, rfl⟩
  go_wp2
  go_ret
  exact ⟨rfl, (Below.refl _ _).alloc (Nat.le_refl _) _⟩
set_option maxHeartbeats 400000 in
theorem refuses_none (b g : Nat) (p q : Int) (t : Nat → Gp) (w : World) (h : TAt w b t) (hg : g < 10) (hh : (t g).there = false) : Calls Tryz.prog 65 #[.pointer (some ⟨b, 0, none⟩), .int .i64 g, .agg #[.int .i64 p, .int .i64 q]] w fun e w' => e = .returned (.iface 60 (.int .i64 2)) ∧ Below w.heap.size w w' := by
  have H : Hid (TAt w b t ∧ (t g).there = false) := ⟨h, hh⟩
  clear h hh
  go_enter Tryz.func65, Tryz.ntmps65
  go_wp2_with fail
  refine (wrong_none b g t _ (H.out.1.below ((Below.refl _ _).alloc (Nat.le_refl _) _) H.out.1.lt) hg H.out.2).mono ?_
  rintro e w1 ⟨rfl, hw⟩
  subst hw
  go_wp2
  go_ret
  exact ⟨rfl, (Below.refl _ _).alloc (Nat.le_refl _) _⟩
set_option maxHeartbeats 400000 in
theorem refuses_ok (b g : Nat) (p q : Int) (t : Nat → Gp) (w : World) (h : TAt w b t) (hg : g < 10) (hh : (t g).there = true) (hf : fromB p q 0 = true) : Calls Tryz.prog 65 #[.pointer (some ⟨b, 0, none⟩), .int .i64 g, .agg #[.int .i64 p, .int .i64 q]] w fun e w' => e = .returned .nilIface ∧ Below w.heap.size w w' := by
  have H : Hid (TAt w b t ∧ (t g).there = true ∧ fromB p q 0 = true) := ⟨h, hh, hf⟩
  clear h hh hf
  go_enter Tryz.func65, Tryz.ntmps65
  go_wp2_with fail
  refine (wrong_ok b g t _ (H.out.1.below ((Below.refl _ _).alloc (Nat.le_refl _) _) H.out.1.lt) hg H.out.2.1).mono ?_
  rintro e w1 ⟨rfl, hw⟩
  subst hw
  go_wp2_with fail
  refine (from_any p q 0 _).mono ?_
  rintro e w2 ⟨rfl, hb⟩
  rw [H.out.2.2]
  have HB : Hid (Below w.heap.size w w2) := ((Below.refl _ w).alloc (Nat.le_refl _) _).trans (hb.mono (by simp))
  clear hb
  go_wp2
  go_ret
  exact ⟨rfl, HB.out⟩
set_option maxHeartbeats 400000 in
theorem refuses_bound (b g : Nat) (p q : Int) (t : Nat → Gp) (w : World) (h : TAt w b t) (hg : g < 10) (hh : (t g).there = true) (hf : fromB p q 0 = false) : Calls Tryz.prog 65 #[.pointer (some ⟨b, 0, none⟩), .int .i64 g, .agg #[.int .i64 p, .int .i64 q]] w fun e w' => e = .returned (.iface 60 (.int .i64 1)) ∧ Below w.heap.size w w' := by
  have H : Hid (TAt w b t ∧ (t g).there = true ∧ fromB p q 0 = false) := ⟨h, hh, hf⟩
  clear h hh hf
  go_enter Tryz.func65, Tryz.ntmps65
  go_wp2_with fail
  refine (wrong_ok b g t _ (H.out.1.below ((Below.refl _ _).alloc (Nat.le_refl _) _) H.out.1.lt) hg H.out.2.1).mono ?_
  rintro e w1 ⟨rfl, hw⟩
  subst hw
  go_wp2_with fail
  refine (from_any p q 0 _).mono ?_
  rintro e w2 ⟨rfl, hb⟩
  rw [H.out.2.2]
  have HB : Hid (Below w.heap.size w w2) := ((Below.refl _ w).alloc (Nat.le_refl _) _).trans (hb.mono (by simp))
  clear hb
  go_wp2
  go_ret
  exact ⟨rfl, HB.out⟩
end Go.Proofs.YtghogbngmcolmaaGreat.Gr
namespace Go.Proofs.YtghogbngmcolmaaGreat.Gr
open Go.RowKit Go.Shelf
section
variable {P : Program} {ops : Array Oper} {Q : Exit → Act → World → Prop} {md : Region.Mode} {S : World → Prop}
theorem rowsIn_wide {n l : Nat} {row : String} {args : Array Value} {w : World} {R : Value → World → Prop} (h : Rows P row args w R) : RowsIn (Fence.wide.inRound l) n P row args w R := by
  unfold RowsIn
  intro c cs _
  obtain ⟨v, w', r, s⟩ := h c cs
  exact ⟨v, w', r, stepsIn_wide.2 s⟩
theorem wpOpIn_of {n l i : Nat} {K : Act → World → Prop} {a : Act} {w : World} (hd : ∀ (i : Nat) (o : Oper), ops[i]? = some o → ∀ c, o.op ≠ .defer c) (hL : ¬ LetsOut Q) (h : wpOp P ops Q i K a w) : wpOpIn (Fence.wide.inRound l) n P ops Q i K a w := by
  unfold wpOp at h
  unfold wpOpIn
  cases ho : ops[i]? with
  | none => simp only [ho] at h ⊢; exact h
  | some o =>
    simp only [ho] at h ⊢
    split
    · rename_i hw
      simp only [hw, if_true] at h
      rcases h with h | ⟨_, h⟩
      · unfold Oper.wp at h
        unfold Oper.wpIn
        refine ⟨fun _ _ => trivial, ?_⟩
        rw [Oper.semAt_eq _ _ _ (hd i o ho)]
        generalize (execOp a.eval o).run P w = r at *
        have hdp : ((Fence.wide.inRound l).depth.isSome = true → 1 ≤ n) := fun h => by simp [Fence.wide] at h
        cases r with
        | ok x w' =>
          cases x <;> simp only [Oper.upon, Oper.uponIn] at h ⊢ <;>
            first
              | exact h
              | exact ⟨hdp, CallsIn.inRound l (callsIn_wide.2 h)⟩
              | exact ⟨hdp, rowsIn_wide h⟩
        | halt x w' => cases x <;> simp only [Oper.upon, Oper.uponIn] at h ⊢ <;> exact h
      · exact absurd h hL
    · rename_i hw
      simp only [hw] at h
      exact ⟨fun _ _ => trivial, h⟩
theorem wpAnyIn_of {n l : Nat} (hd : ∀ (i : Nat) (o : Oper), ops[i]? = some o → ∀ c, o.op ≠ .defer c) (hL : ¬ LetsOut Q) : ∀ (fuel : Nat) (listed : Array Bool) (a : Act) (w : World), wpAnyH P md ops Q S fuel listed a w → wpAnyIn (Fence.wide.inRound l) n P md ops Q fuel listed a w
  | 0, _, _, _, h => h
  | fuel + 1, _, _, _, h => ⟨h.1, fun i hi => wpOpIn_mono (fun a' w' h' => wpAnyIn_of hd hL fuel _ a' w' h'.2) (wpOpIn_of hd hL (h.2 i hi))⟩
theorem wpIn_region_round {n l id : Nat} {a : Act} {w : World} (hm : P.follows .mixedOrders = true) (hd : ∀ (i : Nat) (o : Oper), ops[i]? = some o → ∀ c, o.op ≠ .defer c) (hL : ¬ LetsOut Q)
    (h : wpAnyH P .any ops Q S ops.size (Array.replicate ops.size false) a w.drew) : (Code.region id ops true).wpIn (Fence.wide.inRound l) n P Q a w :=
  wpIn_region_any hm (wpAnyIn_of hd hL _ _ _ _ h)
end
end Go.Proofs.YtghogbngmcolmaaGreat.Gr

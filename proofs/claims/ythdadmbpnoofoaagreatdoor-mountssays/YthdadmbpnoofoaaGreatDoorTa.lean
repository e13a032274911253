/- Forests, plain; the code's forest as it lies. -/
import Derived.Test.YthdadmbpnoofoaaGreatDoorBa
namespace Go.Proofs.YthdadmbpnoofoaaGreatDoor
open Go.RowKit

namespace Tr
/-- A node: its kind (0: there is none, 1: a file, 2: a directory), links, held, size, tree, the directory above; of its places their names and kids; its bytes. -/
structure Nd where
  kind : Nat
  links : Nat
  held : Nat
  size : Nat
  tree : Nat
  up : Nat
  nam : Nat → ByteArray
  kid : Nat → Nat
  byt : Nat → Int
structure Fo where
  nd : Nat → Nd
  root : Nat → Nat
  trees : Nat
def Nd.no : Nd := ⟨0, 0, 0, 0, 0, 0, fun _ => ⟨#[]⟩, fun _ => 0, fun _ => 0⟩
def Fo.put (F : Fo) (n : Nat) (x : Nd) : Fo := { F with nd := fun m => if m = n then x else F.nd m }
theorem put_same (F : Fo) (n : Nat) (x : Nd) : (F.put n x).nd n = x := if_pos rfl
theorem put_ne (F : Fo) (n : Nat) (x : Nd) (m : Nat) (h : m ≠ n) : (F.put n x).nd m = F.nd m := if_neg h
def f0 : Fo := ⟨fun _ => Nd.no, fun _ => 0, 0⟩
def nodeE (F : Fo) (z : Int) : Int := if z < 0 ∨ 39 < z then 1 else if (F.nd z.toNat).kind = 0 then 2 else 0
/-- What is wrong with a node that should be of a kind. -/
def isE (F : Fo) (z : Int) (k : Nat) : Int := if nodeE F z ≠ 0 then nodeE F z else if (F.nd z.toNat).kind = k then 0 else 11
theorem nodeE_ok {F : Fo} {z : Int} (h : nodeE F z = 0) : ∃ n : Nat, z = n ∧ n < 40 ∧ (F.nd n).kind ≠ 0 := by
  unfold nodeE at h
  by_cases c : z < 0 ∨ 39 < z
  · rw [if_pos c] at h; omega
  · rw [if_neg c] at h
    by_cases d : (F.nd z.toNat).kind = 0
    · rw [if_pos d] at h; omega
    · exact ⟨z.toNat, by omega, by omega, d⟩
theorem isE_ok {F : Fo} {z : Int} {k : Nat} (h : isE F z k = 0) : ∃ n : Nat, z = n ∧ n < 40 ∧ (F.nd n).kind ≠ 0 ∧ (F.nd n).kind = k := by
  unfold isE at h
  by_cases c : nodeE F z = 0
  · rw [if_neg (fun d => d c)] at h
    obtain ⟨n, rfl, h1, h2⟩ := nodeE_ok c
    rw [Int.toNat_natCast] at h
    by_cases d : (F.nd n).kind = k
    · exact ⟨n, rfl, h1, h2, d⟩
    · rw [if_neg d] at h; omega
  · rw [if_pos c] at h; exact absurd h c
theorem nodeE_cases (F : Fo) (z : Int) : nodeE F z = 0 ∨ nodeE F z = 1 ∨ nodeE F z = 2 := by
  unfold nodeE
  split
  · exact .inr (.inl rfl)
  · split
    · exact .inr (.inr rfl)
    · exact .inl rfl
theorem isE_nn (F : Fo) (z : Int) (k : Nat) : 0 ≤ isE F z k := by
  unfold isE
  rcases nodeE_cases F z with h | h | h <;> rw [h] <;> (try split) <;> (try split) <;> omega
end Tr
open Tr (Fo Nd)

def cellN (x : Nd) (j : Nat) : Value :=
  if j = 0 then .int .i64 (x.kind : Int) else if j = 1 then .int .i64 (x.links : Int) else if j = 2 then .int .i64 (x.held : Int) else if j = 3 then .int .i64 (x.size : Int) else if j = 4 then .int .i64 (x.tree : Int) else if j = 5 then .int .i64 (x.up : Int)
  else if j < 22 then (if j % 2 = 0 then .string (x.nam ((j - 6) / 2)) else .int .i64 (x.kid ((j - 6) / 2) : Int)) else .int .u8 (x.byt (j - 22))
def cellF (F : Fo) (o : Nat) : Value := if o < 2480 then cellN (F.nd (o / 62)) (o % 62) else if o < 2484 then .int .i64 (F.root (o - 2480) : Int) else .int .i64 (F.trees : Int)
/-- The code's forest F lies in block b. -/
structure FAt (w : World) (b : Nat) (F : Fo) : Prop where
  blk : ∃ C, w.heap[b]? = some (.cells C 79 (0, 0)) ∧ C.size = 2485
  cell : ∀ o, o < 2485 → w.cell? ⟨b, o, none⟩ = some (cellF F o)
section
variable {w w' : World} {b : Nat} {F F' : Fo}
theorem FAt.drewN (h : FAt w b F) (n : Nat) : FAt (w.drewN n) b F := ⟨h.blk, h.cell⟩
theorem FAt.drew (h : FAt w b F) : FAt w.drew b F := ⟨h.blk, h.cell⟩
theorem FAt.frozen (h : FAt w b F) (o : Nat) : w.frozen? ⟨b, o, none⟩ = false := by obtain ⟨C, h1, _⟩ := h.blk; exact frozen_blk h1 o
theorem FAt.lt (h : FAt w b F) : b < w.heap.size := by obtain ⟨C, h1, _⟩ := h.blk; exact (Array.getElem?_eq_some_iff.1 h1).1
theorem FAt.same (h : FAt w b F) (e : w'.heap[b]? = w.heap[b]?) : FAt w' b F := ⟨by rw [e]; exact h.blk, fun o ho => (World.cell?_of_block e).trans (h.cell o ho)⟩
theorem FAt.below (h : FAt w b F) (k : Below w.heap.size w w') : FAt w' b F := h.same (k.block b h.lt)
theorem FAt.nd (h : FAt w b F) (n j : Nat) (hn : n < 40) (hj : j < 62) : w.cell? ⟨b, n * 62 + j, none⟩ = some (cellN (F.nd n) j) := by
  rw [h.cell _ (by omega), cellF, if_pos (by omega), show (n * 62 + j) / 62 = n by omega, show (n * 62 + j) % 62 = j by omega]
theorem FAt.cKind (h : FAt w b F) (n : Nat) (hn : n < 40) : w.cell? ⟨b, n * 62, none⟩ = some (.int .i64 ((F.nd n).kind : Int)) := h.nd n 0 hn (by omega)
theorem FAt.cLinks (h : FAt w b F) (n : Nat) (hn : n < 40) : w.cell? ⟨b, n * 62 + 1, none⟩ = some (.int .i64 ((F.nd n).links : Int)) := h.nd n 1 hn (by omega)
theorem FAt.cHeld (h : FAt w b F) (n : Nat) (hn : n < 40) : w.cell? ⟨b, n * 62 + 2, none⟩ = some (.int .i64 ((F.nd n).held : Int)) := h.nd n 2 hn (by omega)
theorem FAt.cSize (h : FAt w b F) (n : Nat) (hn : n < 40) : w.cell? ⟨b, n * 62 + 3, none⟩ = some (.int .i64 ((F.nd n).size : Int)) := h.nd n 3 hn (by omega)
theorem FAt.cTree (h : FAt w b F) (n : Nat) (hn : n < 40) : w.cell? ⟨b, n * 62 + 4, none⟩ = some (.int .i64 ((F.nd n).tree : Int)) := h.nd n 4 hn (by omega)
theorem FAt.cUp (h : FAt w b F) (n : Nat) (hn : n < 40) : w.cell? ⟨b, n * 62 + 5, none⟩ = some (.int .i64 ((F.nd n).up : Int)) := h.nd n 5 hn (by omega)
theorem cellN_nam (x : Nd) (i : Nat) (hi : i < 8) : cellN x (6 + i * 2) = .string (x.nam i) := by
  unfold cellN
  rw [if_neg (by omega), if_neg (by omega), if_neg (by omega), if_neg (by omega), if_neg (by omega), if_neg (by omega), if_pos (by omega), if_pos (by omega), show (6 + i * 2 - 6) / 2 = i by omega]
theorem cellN_kid (x : Nd) (i : Nat) (hi : i < 8) : cellN x (6 + i * 2 + 1) = .int .i64 (x.kid i : Int) := by
  unfold cellN
  rw [if_neg (by omega), if_neg (by omega), if_neg (by omega), if_neg (by omega), if_neg (by omega), if_neg (by omega), if_pos (by omega), if_neg (by omega), show (6 + i * 2 + 1 - 6) / 2 = i by omega]
theorem cellN_byt (x : Nd) (i : Nat) : cellN x (22 + i) = .int .u8 (x.byt i) := by
  unfold cellN
  rw [if_neg (by omega), if_neg (by omega), if_neg (by omega), if_neg (by omega), if_neg (by omega), if_neg (by omega), if_neg (by omega), show 22 + i - 22 = i by omega]
theorem FAt.cNam (h : FAt w b F) (n i : Nat) (hn : n < 40) (hi : i < 8) : w.cell? ⟨b, n * 62 + 6 + i * 2, none⟩ = some (.string ((F.nd n).nam i)) := by
  rw [show n * 62 + 6 + i * 2 = n * 62 + (6 + i * 2) by omega, h.nd n _ hn (by omega), cellN_nam _ i hi]
theorem FAt.cKid (h : FAt w b F) (n i : Nat) (hn : n < 40) (hi : i < 8) : w.cell? ⟨b, n * 62 + 6 + i * 2 + 1, none⟩ = some (.int .i64 ((F.nd n).kid i : Int)) := by
  rw [show n * 62 + 6 + i * 2 + 1 = n * 62 + (6 + i * 2 + 1) by omega, h.nd n _ hn (by omega), cellN_kid _ i hi]
theorem FAt.cByt (h : FAt w b F) (n i : Nat) (hn : n < 40) (hi : i < 40) : w.cell? ⟨b, n * 62 + 22 + i, none⟩ = some (.int .u8 ((F.nd n).byt i)) := by
  rw [show n * 62 + 22 + i = n * 62 + (22 + i) by omega, h.nd n _ hn (by omega), cellN_byt]
theorem FAt.cRoot (h : FAt w b F) (t : Nat) (ht : t < 4) : w.cell? ⟨b, 2480 + t, none⟩ = some (.int .i64 (F.root t : Int)) := by
  rw [h.cell _ (by omega), cellF, if_neg (by omega), if_pos (by omega), show 2480 + t - 2480 = t by omega]
theorem FAt.cTrees (h : FAt w b F) : w.cell? ⟨b, 2484, none⟩ = some (.int .i64 (F.trees : Int)) := h.cell 2484 (by omega)
theorem FAt.set (h : FAt w b F) (o : Nat) (ho : o < 2485) (v : Value) (hv : ∀ i, i < 2485 → cellF F' i = if i = o then v else cellF F i) : FAt (w.setCell ⟨b, o, none⟩ v) b F' := by
  obtain ⟨C, h1, h2⟩ := h.blk
  refine ⟨⟨_, blk_set h1 _ v, by simpa using h2⟩, fun i hi => ?_⟩
  rw [hv i hi]
  by_cases e : i = o
  · subst e; rw [cell_set_same h1 _ v (by omega), if_pos rfl]
  · rw [cell_set_ne h1 _ _ v (Ne.symm e), if_neg e]; exact h.cell i hi
/-- One cell of one node is stored. -/
theorem FAt.setN (h : FAt w b F) (n j : Nat) (hn : n < 40) (hj : j < 62) (v : Value) (x : Nd) (hx : ∀ i, i < 62 → cellN x i = if i = j then v else cellN (F.nd n) i) : FAt (w.setCell ⟨b, n * 62 + j, none⟩ v) b (F.put n x) := by
  refine h.set (n * 62 + j) (by omega) v (fun o ho => ?_)
  unfold cellF
  by_cases c : o < 2480
  · rw [if_pos c, if_pos c]
    by_cases d : o / 62 = n
    · rw [d, Tr.put_same, hx (o % 62) (by omega)]
      by_cases e : o % 62 = j
      · rw [if_pos e, if_pos (by omega)]
      · rw [if_neg e, if_neg (by omega)]
    · rw [Tr.put_ne _ _ _ _ d, if_neg (by omega)]
  · rw [if_neg c, if_neg c, if_neg (show ¬ o = n * 62 + j by omega)]
    rfl
theorem FAt.congr (h : FAt w b F) (e : ∀ o, o < 2485 → cellF F' o = cellF F o) : FAt w b F' := ⟨h.blk, fun o ho => by rw [e o ho]; exact h.cell o ho⟩
end
section
variable {w : World} {b : Nat} {F : Fo}
theorem FAt.setKind (h : FAt w b F) (n v : Nat) (hn : n < 40) : FAt (w.setCell ⟨b, n * 62, none⟩ (.int .i64 (v : Int))) b (F.put n { F.nd n with kind := v }) := h.setN n 0 hn (by omega) _ _ (fun i _ => by
  by_cases c : i = 0
  · subst c; rfl
  · rw [if_neg c]; unfold cellN; rw [if_neg c, if_neg c])
theorem FAt.setLinks (h : FAt w b F) (n v : Nat) (hn : n < 40) : FAt (w.setCell ⟨b, n * 62 + 1, none⟩ (.int .i64 (v : Int))) b (F.put n { F.nd n with links := v }) := h.setN n 1 hn (by omega) _ _ (fun i _ => by
  by_cases c : i = 1
  · subst c; rfl
  · rw [if_neg c]; unfold cellN; rw [if_neg c, if_neg c])
theorem FAt.setHeld (h : FAt w b F) (n v : Nat) (hn : n < 40) : FAt (w.setCell ⟨b, n * 62 + 2, none⟩ (.int .i64 (v : Int))) b (F.put n { F.nd n with held := v }) := h.setN n 2 hn (by omega) _ _ (fun i _ => by
  by_cases c : i = 2
  · subst c; rfl
  · rw [if_neg c]; unfold cellN; rw [if_neg c, if_neg c])
theorem FAt.setSize (h : FAt w b F) (n v : Nat) (hn : n < 40) : FAt (w.setCell ⟨b, n * 62 + 3, none⟩ (.int .i64 (v : Int))) b (F.put n { F.nd n with size := v }) := h.setN n 3 hn (by omega) _ _ (fun i _ => by
  by_cases c : i = 3
  · subst c; rfl
  · rw [if_neg c]; unfold cellN; rw [if_neg c, if_neg c])
theorem FAt.setUp (h : FAt w b F) (n v : Nat) (hn : n < 40) : FAt (w.setCell ⟨b, n * 62 + 5, none⟩ (.int .i64 (v : Int))) b (F.put n { F.nd n with up := v }) := h.setN n 5 hn (by omega) _ _ (fun i _ => by
  by_cases c : i = 5
  · subst c; rfl
  · rw [if_neg c]; unfold cellN; rw [if_neg c, if_neg c])
def upA {α : Type} (f : Nat → α) (i : Nat) (v : α) : Nat → α := fun j => if j = i then v else f j
theorem upA_same {α : Type} (f : Nat → α) (i : Nat) (v : α) : upA f i v i = v := if_pos rfl
theorem upA_ne {α : Type} (f : Nat → α) (i : Nat) (v : α) (j : Nat) (h : j ≠ i) : upA f i v j = f j := if_neg h
theorem FAt.setNam (h : FAt w b F) (n i : Nat) (v : ByteArray) (hn : n < 40) (hi : i < 8) : FAt (w.setCell ⟨b, n * 62 + 6 + i * 2, none⟩ (.string v)) b (F.put n { F.nd n with nam := upA (F.nd n).nam i v }) := by
  rw [show n * 62 + 6 + i * 2 = n * 62 + (6 + i * 2) by omega]
  refine h.setN n (6 + i * 2) hn (by omega) _ _ (fun j hj => ?_)
  by_cases c : j = 6 + i * 2
  · subst c; rw [if_pos rfl, cellN_nam _ i hi]; show Value.string (upA _ i v i) = _; rw [upA_same]
  · rw [if_neg c]
    unfold cellN
    by_cases d : j < 22 ∧ 6 ≤ j ∧ j % 2 = 0
    · have e : (j - 6) / 2 ≠ i := by omega
      unfold upA
      simp only [if_neg e]
    · repeat' split
      all_goals first | rfl | omega
theorem FAt.setKid (h : FAt w b F) (n i v : Nat) (hn : n < 40) (hi : i < 8) : FAt (w.setCell ⟨b, n * 62 + 6 + i * 2 + 1, none⟩ (.int .i64 (v : Int))) b (F.put n { F.nd n with kid := upA (F.nd n).kid i v }) := by
  rw [show n * 62 + 6 + i * 2 + 1 = n * 62 + (6 + i * 2 + 1) by omega]
  refine h.setN n (6 + i * 2 + 1) hn (by omega) _ _ (fun j hj => ?_)
  by_cases c : j = 6 + i * 2 + 1
  · subst c; rw [if_pos rfl, cellN_kid _ i hi]; show Value.int .i64 ((upA _ i v i : Nat) : Int) = _; rw [upA_same]
  · rw [if_neg c]
    unfold cellN
    by_cases d : j < 22 ∧ 6 ≤ j ∧ j % 2 = 1
    · have e : (j - 6) / 2 ≠ i := by omega
      unfold upA
      simp only [if_neg e]
    · repeat' split
      all_goals first | rfl | omega
theorem FAt.setByt (h : FAt w b F) (n i : Nat) (v : Int) (hn : n < 40) (hi : i < 40) : FAt (w.setCell ⟨b, n * 62 + 22 + i, none⟩ (.int .u8 v)) b (F.put n { F.nd n with byt := upA (F.nd n).byt i v }) := by
  rw [show n * 62 + 22 + i = n * 62 + (22 + i) by omega]
  refine h.setN n (22 + i) hn (by omega) _ _ (fun j hj => ?_)
  by_cases c : j = 22 + i
  · subst c; rw [if_pos rfl, cellN_byt]; show Value.int .u8 (upA _ i v i) = _; rw [upA_same]
  · rw [if_neg c]
    unfold cellN
    by_cases d : 22 ≤ j
    · have e : j - 22 ≠ i := by omega
      unfold upA
      simp only [if_neg e]
    · repeat' split
      all_goals first | rfl | omega
theorem FAt.setRoot (h : FAt w b F) (t v : Nat) (ht : t < 4) : FAt (w.setCell ⟨b, 2480 + t, none⟩ (.int .i64 (v : Int))) b { F with root := upA F.root t v } := by
  refine h.set (2480 + t) (by omega) _ (fun o ho => ?_)
  unfold cellF
  by_cases c : o < 2480
  · rw [if_pos c, if_pos c, if_neg (by omega)]
  · rw [if_neg c, if_neg c]
    by_cases d : o < 2484
    · rw [if_pos d, if_pos d]
      unfold upA
      by_cases e : o = 2480 + t
      · rw [if_pos e]; simp [show o - 2480 = t by omega]
      · rw [if_neg e]; simp [show o - 2480 ≠ t by omega]
    · rw [if_neg d, if_neg d, if_neg (by omega)]
theorem FAt.setTrees (h : FAt w b F) (v : Nat) : FAt (w.setCell ⟨b, 2484, none⟩ (.int .i64 (v : Int))) b { F with trees := v } := by
  refine h.set 2484 (by omega) _ (fun o ho => ?_)
  unfold cellF
  by_cases c : o < 2480
  · rw [if_pos c, if_pos c, if_neg (by omega)]
  · rw [if_neg c, if_neg c]
    by_cases d : o < 2484
    · rw [if_pos d, if_pos d, if_neg (by omega)]
    · rw [if_neg d, if_neg d, if_pos (by omega)]
end
end Go.Proofs.YthdadmbpnoofoaaGreatDoor
/- The code's forest: node, ofKind, dir, file, Of, Tree, Up, Root, Hold. -/
namespace Go.Proofs.YthdadmbpnoofoaaGreatDoor
open Go.RowKit
open Tr (Fo Nd)

/-- A pointer to a node, where nothing is wrong. -/
def ptrE (b : Nat) (z E : Int) : Value := if E = 0 then .pointer (some ⟨b, z.toNat * 62, none⟩) else .pointer none
theorem ptrE_ok (b n : Nat) : ptrE b (n : Int) 0 = .pointer (some ⟨b, n * 62, none⟩) := by unfold ptrE; rw [if_pos rfl, Int.toNat_natCast]
theorem ptrE_no {b : Nat} {z E : Int} (h : E ≠ 0) : ptrE b z E = .pointer none := if_neg h
set_option maxRecDepth 100000 in
set_option maxHeartbeats 400000 in
theorem tnode_any (b : Nat) (z : Int) (F : Fo) (w : World) (h : FAt w b F) :
    Calls Tryz.prog 86 #[.pointer (some ⟨b, 0, none⟩), .int .i64 z] w fun e w' => e = .returned (.tuple #[ptrE b z (Tr.nodeE F z), errV (Tr.nodeE F z)]) ∧ w' = w := by
  by_cases c : z < 0 ∨ 39 < z
  · have E : Hid (Tr.nodeE F z = 1) := Hid.intro (if_pos c)
    have E2 : Hid (ptrE b z 1 = .pointer none) := Hid.intro (ptrE_no (by decide))
    by_cases c1 : z < 0
    · clear c
      go_enter Tryz.func86, Tryz.ntmps86
      go_wp2_with fail
      go_ret2
      rw [E.out, E2.out]
      exact ⟨rfl, rfl⟩
    · have c2 : decide (40 ≤ z) = true := by simp; omega
      have c3 : decide (z < 0) = false := by simp; omega
      clear c
      go_enter Tryz.func86, Tryz.ntmps86
      go_wp2_with fail
      go_ret2
      rw [E.out, E2.out]
      exact ⟨rfl, rfl⟩
  · obtain ⟨n, rfl⟩ := Int.eq_ofNat_of_zero_le (show 0 ≤ z by omega)
    have n40 : n < 40 := by omega
    have nI : (n : Int) < 40 := by omega
    have c2 : decide (40 ≤ (n : Int)) = false := by simp; omega
    have c0 := h.cKind n n40
    by_cases k0 : (F.nd n).kind = 0
    · have E : Hid (Tr.nodeE F (n : Int) = 2) := Hid.intro (by unfold Tr.nodeE; rw [if_neg c, Int.toNat_natCast, if_pos k0])
      have E2 : Hid (ptrE b (n : Int) 2 = .pointer none) := Hid.intro (ptrE_no (by decide))
      rw [k0] at c0
      have c0' : w.cell? ⟨b, n * 62, none⟩ = some (.int .i64 0) := c0
      clear h c c0 k0
      go_enter Tryz.func86, Tryz.ntmps86
      go_wp2_with fail
      go_ret2
      rw [E.out, E2.out]
      exact ⟨rfl, rfl⟩
    · have E : Hid (Tr.nodeE F (n : Int) = 0) := Hid.intro (by unfold Tr.nodeE; rw [if_neg c, Int.toNat_natCast, if_neg k0])
      have E2 : Hid (ptrE b (n : Int) 0 = .pointer (some ⟨b, n * 62, none⟩)) := Hid.intro (ptrE_ok b n)
      have k0' : (((F.nd n).kind : Int) == 0) = false := by simp; omega
      generalize (F.nd n).kind = kk at *
      clear h c k0
      go_enter Tryz.func86, Tryz.ntmps86
      go_wp2_with fail
      go_ret2
      rw [E.out, E2.out]
      exact ⟨rfl, rfl⟩
set_option maxRecDepth 100000 in
set_option maxHeartbeats 400000 in
theorem tofKind_any (b : Nat) (z : Int) (k : Nat) (F : Fo) (w : World) (h : FAt w b F) :
    Calls Tryz.prog 105 #[.pointer (some ⟨b, 0, none⟩), .int .i64 z, .int .i64 (k : Int)] w fun e w' => e = .returned (.tuple #[ptrE b z (Tr.isE F z k), errV (Tr.isE F z k)]) ∧ w' = w := by
  have HF := Hid.intro h
  by_cases c : Tr.nodeE F z = 0
  · obtain ⟨n, rfl, n40, _⟩ := Tr.nodeE_ok c
    have c0 := h.cKind n n40
    have EP : Hid (Tr.nodeE F (n : Int) = 0) := Hid.intro c
    by_cases d : (F.nd n).kind = k
    · have E : Hid (Tr.isE F (n : Int) k = 0) := Hid.intro (by unfold Tr.isE; rw [if_neg (fun e => e c), Int.toNat_natCast, if_pos d])
      have E2 : Hid (ptrE b (n : Int) 0 = .pointer (some ⟨b, n * 62, none⟩)) := Hid.intro (ptrE_ok b n)
      rw [d] at c0
      clear h c d
      go_enter Tryz.func105, Tryz.ntmps105
      go_wp2_with fail
      refine (tnode_any b n F _ HF.out).mono ?_
      rintro e w1 ⟨rfl, hw⟩
      subst w1
      rw [EP.out, E2.out, errV_zero]
      go_wp2_with fail
      go_ret2
      rw [E.out, E2.out]
      exact ⟨rfl, rfl⟩
    · have E : Hid (Tr.isE F (n : Int) k = 11) := Hid.intro (by unfold Tr.isE; rw [if_neg (fun e => e c), Int.toNat_natCast, if_neg d])
      have E2 : Hid (ptrE b (n : Int) 0 = .pointer (some ⟨b, n * 62, none⟩) ∧ ptrE b (n : Int) 11 = .pointer none) := Hid.intro ⟨ptrE_ok b n, ptrE_no (by decide)⟩
      have d' : (((F.nd n).kind : Int) == (k : Int)) = false := by simp; omega
      generalize (F.nd n).kind = kk at *
      clear h c d
      go_enter Tryz.func105, Tryz.ntmps105
      go_wp2_with fail
      refine (tnode_any b n F _ HF.out).mono ?_
      rintro e w1 ⟨rfl, hw⟩
      subst w1
      rw [EP.out, E2.out.1, errV_zero]
      go_wp2_with fail
      go_ret2
      rw [E.out, E2.out.2]
      exact ⟨rfl, rfl⟩
  · have E : Hid (Tr.isE F z k = Tr.nodeE F z) := Hid.intro (if_pos c)
    have E2 : Hid (ptrE b z (Tr.nodeE F z) = .pointer none ∧ errV (Tr.nodeE F z) = .iface 83 (.int .i64 (Tr.nodeE F z))) := Hid.intro ⟨ptrE_no c, errV_ne c⟩
    clear h c
    go_enter Tryz.func105, Tryz.ntmps105
    go_wp2_with fail
    refine (tnode_any b z F _ HF.out).mono ?_
    rintro e w1 ⟨rfl, hw⟩
    subst w1
    rw [E2.out.1, E2.out.2]
    go_wp2_with fail
    go_ret2
    rw [E.out, E2.out.1, E2.out.2]
    exact ⟨rfl, rfl⟩
theorem tdir_any (b : Nat) (z : Int) (F : Fo) (w : World) (h : FAt w b F) :
    Calls Tryz.prog 83 #[.pointer (some ⟨b, 0, none⟩), .int .i64 z] w fun e w' => e = .returned (.tuple #[ptrE b z (Tr.isE F z 2), errV (Tr.isE F z 2)]) ∧ w' = w := by
  have HF := Hid.intro (tofKind_any b z 2 F w h)
  clear h
  obtain ⟨v1, hv1⟩ : ∃ v, ptrE b z (Tr.isE F z 2) = v := ⟨_, rfl⟩
  obtain ⟨v2, hv2⟩ : ∃ v, errV (Tr.isE F z 2) = v := ⟨_, rfl⟩
  rw [hv1, hv2] at HF ⊢
  clear hv1 hv2
  go_enter Tryz.func83, Tryz.ntmps83
  go_wp2_with fail
  refine HF.out.mono ?_
  rintro e w1 ⟨rfl, hw⟩
  subst w1
  go_wp2_with fail
  go_ret2
  exact ⟨rfl, rfl⟩
theorem tfile_any (b : Nat) (z : Int) (F : Fo) (w : World) (h : FAt w b F) :
    Calls Tryz.prog 79 #[.pointer (some ⟨b, 0, none⟩), .int .i64 z] w fun e w' => e = .returned (.tuple #[ptrE b z (Tr.isE F z 1), errV (Tr.isE F z 1)]) ∧ w' = w := by
  have HF := Hid.intro (tofKind_any b z 1 F w h)
  clear h
  obtain ⟨v1, hv1⟩ : ∃ v, ptrE b z (Tr.isE F z 1) = v := ⟨_, rfl⟩
  obtain ⟨v2, hv2⟩ : ∃ v, errV (Tr.isE F z 1) = v := ⟨_, rfl⟩
  rw [hv1, hv2] at HF ⊢
  clear hv1 hv2
  go_enter Tryz.func79, Tryz.ntmps79
  go_wp2_with fail
  refine HF.out.mono ?_
  rintro e w1 ⟨rfl, hw⟩
  subst w1
  go_wp2_with fail
  go_ret2
  exact ⟨rfl, rfl⟩
end Go.Proofs.YthdadmbpnoofoaaGreatDoor
/- The code's forest: a whole node by value; sweep, Hold, Let, Of, Tree, Up, Root, Nodes, free. -/
namespace Go.Proofs.YthdadmbpnoofoaaGreatDoor
open Go.RowKit
open Tr (Fo Nd)

def nodeA (x : Nd) : Array Value := ((List.range 62).map (cellN x)).toArray
theorem nodeA_at (x : Nd) (i : Nat) (h : i < 62) : (nodeA x)[i]? = some (cellN x i) := by simp [nodeA, h]
theorem nodeA_size (x : Nd) : (nodeA x).size = 62 := by simp [nodeA]
theorem nodeA_len (x : Nd) : (nodeA x).toList.length = 62 := by simp [nodeA]
theorem nodeA_one (x : Nd) : (nodeA x).all (·.oneCell') = true := by
  rw [Array.all_eq_true_iff_forall_mem]
  intro v hv
  simp only [nodeA, List.mem_toArray, List.mem_map] at hv
  obtain ⟨o, _, rfl⟩ := hv
  unfold cellN
  repeat' split
  all_goals rfl
section
variable {w : World} {b : Nat} {F : Fo}
theorem Frm.setCells {b : Nat} : ∀ (vs : List Value) (o : Nat) {u w : World}, Frm b u w → Frm b u (w.setCells b o vs)
  | [], _, _, _, h => h
  | v :: r, o, u, w, h => by rw [World.setCells]; exact Frm.setCells r (o + 1) (h.setCell o v)
theorem theap_setCells_blk (b : Nat) : ∀ (vs : List Value) (o : Nat) (w : World) (C : Array Value) {T : TypeId}, w.heap[b]? = some (.cells C T (0, 0)) → ∃ C', (w.setCells b o vs).heap[b]? = some (.cells C' T (0, 0)) ∧ C'.size = C.size
  | [], _, _, C, _, h => ⟨C, h, rfl⟩
  | v :: r, o, w, C, _, h => by
    rw [World.setCells]
    obtain ⟨C', h1, h2⟩ := theap_setCells_blk b r (o + 1) _ _ (blk_set h o v)
    exact ⟨C', h1, by simpa using h2⟩
theorem FAt.setNode (h : FAt w b F) (n : Nat) (hn : n < 40) (x : Nd) : FAt (w.setCells b (n * 62) (nodeA x).toList) b (F.put n x) := by
  obtain ⟨C, h1, h2⟩ := h.blk
  obtain ⟨C', k1, k2⟩ := theap_setCells_blk b (nodeA x).toList (n * 62) w C h1
  refine ⟨⟨C', k1, by omega⟩, fun o ho => ?_⟩
  by_cases c : n * 62 ≤ o ∧ o < n * 62 + 62
  · obtain ⟨j, rfl, hj⟩ : ∃ j, o = n * 62 + j ∧ j < 62 := ⟨o - n * 62, by omega, by omega⟩
    rw [World.cell?_setCells_in b (nodeA x).toList (n * 62) w (fun i hi => by rw [nodeA_len] at hi; rw [h.cell _ (by omega)]; rfl) j (by rw [nodeA_len]; exact hj), ← List.getElem?_eq_getElem (by rw [nodeA_len]; exact hj), Array.getElem?_toList, nodeA_at x j hj]
    unfold cellF
    rw [if_pos (by omega), show (n * 62 + j) / 62 = n by omega, show (n * 62 + j) % 62 = j by omega, Tr.put_same]
  · rw [World.cell?_setCells_out b _ (n * 62) w ⟨b, o, none⟩ (fun _ _ => by rw [nodeA_len]; show o < _ ∨ _ ≤ o; omega), h.cell o ho]
    unfold cellF
    by_cases d : o < 2480
    · rw [if_pos d, if_pos d, Tr.put_ne _ _ _ _ (by omega)]
    · rw [if_neg d, if_neg d]; rfl
theorem FAt.there (h : FAt w b F) (n : Nat) (hn : n < 40) (x : Nd) : w.there b (n * 62) (nodeA x).size := fun j hj => by
  rw [nodeA_size] at hj
  exact ⟨by rw [h.cell _ (by omega)]; rfl, h.frozen _⟩
theorem info_node (x : Nd) : (Tryz.prog.info? 75).map (·.size) = some (nodeA x).size := by rw [nodeA_size]; kernel_rfl
end
section
variable {ops : Array Oper} {rest : List Oper} {x : Oper} {a : Act} {w : World} {Q : Exit → Act → World → Prop}
theorem wpList_build_nd0 (hgd : x.guard = none) (ho : x.op = .build 75 #[]) (h : wpList Tryz.prog ops Q rest (a.put x.dst (.agg (nodeA Nd.no))) w) : wpList Tryz.prog ops Q (x :: rest) a w :=
  wpList_plain hgd fun _ hK => by
    unfold Oper.wp execOp
    simp only [ho]
    simp [go_sem]
    exact hK _ _ h
end
/-- A node that nobody names or holds is no more. -/
def Tr.swe (F : Fo) (n : Nat) : Fo := if (F.nd n).links = 0 ∧ (F.nd n).held = 0 then F.put n Nd.no else F
theorem Tr.swe_yes {F : Fo} {n : Nat} (h : (F.nd n).links = 0 ∧ (F.nd n).held = 0) : Tr.swe F n = F.put n Nd.no := if_pos h
theorem Tr.swe_no {F : Fo} {n : Nat} (h : ¬ ((F.nd n).links = 0 ∧ (F.nd n).held = 0)) : Tr.swe F n = F := if_neg h
set_option maxRecDepth 100000 in
set_option maxHeartbeats 1000000 in
theorem tsweep_any (b n : Nat) (F : Fo) (w : World) (h : FAt w b F) (hn : n < 40) :
    Calls Tryz.prog 81 #[.pointer (some ⟨b, 0, none⟩), .int .i64 (n : Int)] w fun e w' => e = .returned (.tuple #[]) ∧ FAt w' b (Tr.swe F n) ∧ Frm b w w' := by
  have nI : (n : Int) < 40 := by omega
  have c1 := h.cLinks n hn
  have c2 := h.cHeld n hn
  by_cases l0 : (F.nd n).links = 0
  · rw [l0] at c1
    have c1' : w.cell? ⟨b, n * 62 + 1, none⟩ = some (.int .i64 0) := c1
    by_cases h0 : (F.nd n).held = 0
    · rw [h0] at c2
      have c2' : w.cell? ⟨b, n * 62 + 2, none⟩ = some (.int .i64 0) := c2
      have FIN : Hid (FAt (w.setCells b (n * 62) (nodeA Nd.no).toList) b (Tr.swe F n) ∧ Frm b w (w.setCells b (n * 62) (nodeA Nd.no).toList)) := Hid.intro ⟨by rw [Tr.swe_yes ⟨l0, h0⟩]; exact h.setNode n hn _, Frm.setCells _ _ (Frm.refl b w)⟩
      have TH := Hid.intro (h.there n hn Nd.no)
      have HS := Hid.intro (info_node Nd.no)
      have H1 := Hid.intro (nodeA_one Nd.no)
      obtain ⟨A, hA⟩ : ∃ A, nodeA Nd.no = A := ⟨_, rfl⟩
      rw [hA] at FIN TH HS H1
      clear h l0 h0 c1 c2
      go_enter Tryz.func81, Tryz.ntmps81
      go_wp2_with (first | (refine wpList_build_nd0 rfl rfl ?_; rw [hA]) | (refine wpList_store_mid rfl 75 _ _ rfl b (n * 62) A rfl rfl TH.out HS.out H1.out ?_))
      go_end0
      exact ⟨rfl, FIN.out⟩
    · have h0' : (((F.nd n).held : Int) == 0) = false := by simp; omega
      have FIN : Hid (FAt w b (Tr.swe F n)) := Hid.intro (by rw [Tr.swe_no (fun c => h0 c.2)]; exact h)
      generalize (F.nd n).held = hh at *
      clear h l0 h0 c1
      go_enter Tryz.func81, Tryz.ntmps81
      go_wp2_with fail
      go_end0
      exact ⟨rfl, FIN.out, Frm.refl _ _⟩
  · have l0' : (((F.nd n).links : Int) == 0) = false := by simp; omega
    have FIN : Hid (FAt w b (Tr.swe F n)) := Hid.intro (by rw [Tr.swe_no (fun c => l0 c.1)]; exact h)
    generalize (F.nd n).links = ll at *
    clear h l0
    go_enter Tryz.func81, Tryz.ntmps81
    go_wp2_with fail
    go_end0
    exact ⟨rfl, FIN.out, Frm.refl _ _⟩
/-- Held once more. -/
def Tr.hol (F : Fo) (z : Int) : Fo := if Tr.nodeE F z = 0 then F.put z.toNat { F.nd z.toNat with held := (F.nd z.toNat).held + 1 } else F
set_option maxRecDepth 100000 in
set_option maxHeartbeats 1000000 in
theorem thold_any (b : Nat) (z : Int) (F : Fo) (w : World) (h : FAt w b F) (hb : ∀ n, n < 40 → (F.nd n).held < 2 ^ 60) :
    Calls Tryz.prog 37 #[.pointer (some ⟨b, 0, none⟩), .int .i64 z] w fun e w' => e = .returned (errV (Tr.nodeE F z)) ∧ FAt w' b (Tr.hol F z) ∧ Frm b w w' := by
  have HF := Hid.intro h
  by_cases c : Tr.nodeE F z = 0
  · obtain ⟨n, rfl, n40, _⟩ := Tr.nodeE_ok c
    have c0 := h.cHeld n n40
    have cf := h.frozen
    have hl := hb n n40
    have EP : Hid (Tr.nodeE F (n : Int) = 0 ∧ ptrE b (n : Int) 0 = .pointer (some ⟨b, n * 62, none⟩)) := Hid.intro ⟨c, ptrE_ok b n⟩
    have FIN : Hid (FAt (w.setCell ⟨b, n * 62 + 2, none⟩ (.int .i64 (((F.nd n).held + 1 : Nat) : Int))) b (Tr.hol F (n : Int))) := Hid.intro (by
      unfold Tr.hol
      rw [if_pos c, Int.toNat_natCast]
      exact h.setHeld n _ n40)
    generalize (F.nd n).held = hh at *
    have hw : IntKind.i64.wrap ((hh : Int) + 1) = (hh : Int) + 1 := IntWalk.i64_in _ ⟨by omega, by omega⟩
    clear h c hb
    go_enter Tryz.func37, Tryz.ntmps37
    go_wp2_with fail
    refine (tnode_any b n F _ HF.out).mono ?_
    rintro e w1 ⟨rfl, hw1⟩
    subst w1
    rw [EP.out.1, EP.out.2, errV_zero]
    go_wp2_with fail
    go_ret
    rw [EP.out.1]
    exact ⟨rfl, FIN.out, (Frm.refl b w).setCell _ _⟩
  · have E2 : Hid (ptrE b z (Tr.nodeE F z) = .pointer none ∧ errV (Tr.nodeE F z) = .iface 83 (.int .i64 (Tr.nodeE F z)) ∧ Tr.hol F z = F) := Hid.intro ⟨ptrE_no c, errV_ne c, if_neg c⟩
    clear h c hb
    go_enter Tryz.func37, Tryz.ntmps37
    go_wp2_with fail
    refine (tnode_any b z F _ HF.out).mono ?_
    rintro e w1 ⟨rfl, hw⟩
    subst w1
    rw [E2.out.1, E2.out.2.1]
    go_wp2_with fail
    go_ret
    rw [E2.out.2.1, E2.out.2.2]
    exact ⟨rfl, HF.out, Frm.refl _ _⟩
def Tr.letE (F : Fo) (z : Int) : Int := if Tr.nodeE F z = 0 then (if (F.nd z.toNat).held = 0 then 8 else 0) else Tr.nodeE F z
def Tr.letT (F : Fo) (z : Int) : Fo := if Tr.letE F z = 0 then Tr.swe (F.put z.toNat { F.nd z.toNat with held := (F.nd z.toNat).held - 1 }) z.toNat else F
set_option maxRecDepth 100000 in
set_option maxHeartbeats 1000000 in
theorem tlet_any (b : Nat) (z : Int) (F : Fo) (w : World) (h : FAt w b F) (hb : ∀ n, n < 40 → (F.nd n).held < 2 ^ 60) :
    Calls Tryz.prog 38 #[.pointer (some ⟨b, 0, none⟩), .int .i64 z] w fun e w' => e = .returned (errV (Tr.letE F z)) ∧ FAt w' b (Tr.letT F z) ∧ Frm b w w' := by
  have HF := Hid.intro h
  by_cases c : Tr.nodeE F z = 0
  · obtain ⟨n, rfl, n40, _⟩ := Tr.nodeE_ok c
    have c0 := h.cHeld n n40
    have cf := h.frozen
    have hl := hb n n40
    have EP : Hid (Tr.nodeE F (n : Int) = 0 ∧ ptrE b (n : Int) 0 = .pointer (some ⟨b, n * 62, none⟩)) := Hid.intro ⟨c, ptrE_ok b n⟩
    by_cases h0 : (F.nd n).held = 0
    · have E : Hid (Tr.letE F (n : Int) = 8 ∧ Tr.letT F (n : Int) = F) := Hid.intro (by
        have e : Tr.letE F (n : Int) = 8 := by unfold Tr.letE; rw [if_pos c, Int.toNat_natCast, if_pos h0]
        exact ⟨e, by unfold Tr.letT; rw [e]; exact if_neg (by decide)⟩)
      rw [h0] at c0
      have c0' : w.cell? ⟨b, n * 62 + 2, none⟩ = some (.int .i64 0) := c0
      clear h c hb c0 h0
      go_enter Tryz.func38, Tryz.ntmps38
      go_wp2_with fail
      refine (tnode_any b n F _ HF.out).mono ?_
      rintro e w1 ⟨rfl, hw1⟩
      subst w1
      rw [EP.out.1, EP.out.2, errV_zero]
      go_wp2_with fail
      go_ret
      rw [E.out.1, E.out.2]
      exact ⟨rfl, HF.out, Frm.refl _ _⟩
    · obtain ⟨hh, hhe⟩ : ∃ hh, (F.nd n).held = hh + 1 := ⟨(F.nd n).held - 1, by omega⟩
      have E : Hid (Tr.letE F (n : Int) = 0 ∧ Tr.letT F (n : Int) = Tr.swe (F.put n { F.nd n with held := hh }) n) := Hid.intro (by
        have e : Tr.letE F (n : Int) = 0 := by unfold Tr.letE; rw [if_pos c, Int.toNat_natCast, if_neg h0]
        exact ⟨e, by unfold Tr.letT; rw [e, if_pos rfl, Int.toNat_natCast, hhe]; rfl⟩)
      have S1 : Hid (FAt (w.setCell ⟨b, n * 62 + 2, none⟩ (.int .i64 (hh : Int))) b (F.put n { F.nd n with held := hh }) ∧ Frm b w (w.setCell ⟨b, n * 62 + 2, none⟩ (.int .i64 (hh : Int)))) := Hid.intro ⟨h.setHeld n _ n40, (Frm.refl b w).setCell _ _⟩
      rw [hhe] at c0 hl
      obtain ⟨zz, hzz⟩ : ∃ zz : Int, ((hh + 1 : Nat) : Int) = zz := ⟨_, rfl⟩
      have hw : IntKind.i64.wrap (zz - 1) = (hh : Int) := by rw [← hzz, IntWalk.i64_in _ ⟨by omega, by omega⟩]; omega
      have hz0 : (zz == 0) = false := by simp; omega
      rw [hzz] at c0
      clear h c hb h0 hhe hzz
      go_enter Tryz.func38, Tryz.ntmps38
      go_wp2_with fail
      refine (tnode_any b n F _ HF.out).mono ?_
      rintro e w1 ⟨rfl, hw1⟩
      subst w1
      rw [EP.out.1, EP.out.2, errV_zero]
      go_wp2_with fail
      refine (tsweep_any b n _ _ S1.out.1 n40).mono ?_
      rintro e w2 ⟨rfl, h2, f2⟩
      have S2 := Hid.intro (And.intro h2 (S1.out.2.trans f2))
      clear h2 f2 c0 cf
      go_wp2_with fail
      go_ret
      rw [E.out.1, E.out.2]
      exact ⟨rfl, S2.out⟩
  · have E2 : Hid (ptrE b z (Tr.nodeE F z) = .pointer none ∧ errV (Tr.nodeE F z) = .iface 83 (.int .i64 (Tr.nodeE F z)) ∧ Tr.letE F z = Tr.nodeE F z ∧ Tr.letT F z = F) := Hid.intro (by
      have e : Tr.letE F z = Tr.nodeE F z := if_neg c
      exact ⟨ptrE_no c, errV_ne c, e, by unfold Tr.letT; rw [e]; exact if_neg c⟩)
    clear h c hb
    go_enter Tryz.func38, Tryz.ntmps38
    go_wp2_with fail
    refine (tnode_any b z F _ HF.out).mono ?_
    rintro e w1 ⟨rfl, hw⟩
    subst w1
    rw [E2.out.1, E2.out.2.1]
    go_wp2_with fail
    go_ret
    rw [E2.out.2.2.1, E2.out.2.1, E2.out.2.2.2]
    exact ⟨rfl, HF.out, Frm.refl _ _⟩
/-- How many nodes there are among the first ones; the lowest free number. -/
def Tr.cntN (F : Fo) : Nat → Nat
  | 0 => 0
  | n + 1 => Tr.cntN F n + if (F.nd n).kind = 0 then 0 else 1
theorem Tr.cntN_le (F : Fo) (n : Nat) : Tr.cntN F n ≤ n := by
  induction n with
  | zero => exact Nat.le_refl 0
  | succ n ih => show Tr.cntN F n + _ ≤ n + 1; split <;> omega
set_option maxRecDepth 100000 in
set_option maxHeartbeats 1000000 in
theorem tnodes_any (b : Nat) (F : Fo) (w : World) (h : FAt w b F) :
    Calls Tryz.prog 70 #[.pointer (some ⟨b, 0, none⟩)] w fun e w' => e = .returned (.int .i64 (Tr.cntN F 40 : Int)) ∧ w' = w := by
  have HF := Hid.intro h
  clear h
  go_enter Tryz.func70, Tryz.ntmps70
  go_wp2_with fail
  go_loopw [3, 4, 5] (fun s x i wr => ∃ (n : Nat), i = .int .i64 n ∧ s = .int .i64 (Tr.cntN F n : Int) ∧ n ≤ 40 ∧ wr = w) (fun _ _ i _ => 40 - (intOf i).toNat)
  case atStart => exact ⟨0, rfl, rfl, by omega, rfl⟩
  case round =>
    obtain ⟨n, rfl, rfl, hn, hwr⟩ := hrel
    subst wr
    by_cases hlt : n < 40
    · have hltI : (n : Int) < 40 := by omega
      have c0 := HF.out.cKind n hlt
      have lc := Tr.cntN_le F n
      have LS : Hid (Tr.cntN F (n + 1) = Tr.cntN F n + if (F.nd n).kind = 0 then 0 else 1) := Hid.intro rfl
      by_cases k0 : (F.nd n).kind = 0
      · rw [if_pos k0] at LS
        rw [k0] at c0
        have c0' : w.cell? ⟨b, n * 62, none⟩ = some (.int .i64 0) := c0
        clear c0 k0
        go_wp2_with fail
        go_roundw
        case rel => exact ⟨n + 1, by go_num, by rw [LS.out]; rfl, by omega, by first | rfl | trivial⟩
        case measure => simp [intOf]; omega
      · rw [if_neg k0] at LS
        have k0' : (((F.nd n).kind : Int) == 0) = false := by simp; omega
        generalize (F.nd n).kind = kk at *
        generalize Tr.cntN F n = cn at *
        clear k0
        go_wp2_with fail
        go_roundw
        case rel => exact ⟨n + 1, by go_num, by rw [LS.out]; go_num, by omega, by first | rfl | trivial⟩
        case measure => simp [intOf]; omega
    · have hltI : ¬ (n : Int) < 40 := by omega
      obtain rfl : n = 40 := by omega
      go_wp2_with fail
      go_ret
      exact ⟨rfl, rfl⟩
/-- The lowest free number is n, or there is none. -/
def Tr.FreeTo (F : Fo) (n : Nat) (E : Int) : Prop := (E = 0 ∧ n < 40 ∧ (F.nd n).kind = 0 ∧ ∀ m, m < n → (F.nd m).kind ≠ 0) ∨ (E = 4 ∧ n = 0 ∧ ∀ m, m < 40 → (F.nd m).kind ≠ 0)
theorem Tr.FreeTo.unique {F : Fo} {n m : Nat} {E G : Int} (h : Tr.FreeTo F n E) (k : Tr.FreeTo F m G) : n = m ∧ E = G := by
  rcases h with ⟨e1, h1, h2, h3⟩ | ⟨e1, h1, h2⟩ <;> rcases k with ⟨e2, k1, k2, k3⟩ | ⟨e2, k1, k2'⟩
  · refine ⟨?_, by omega⟩
    rcases Nat.lt_trichotomy n m with c | c | c
    · exact absurd h2 (k3 n c)
    · exact c
    · exact absurd k2 (h3 m c)
  · exact absurd h2 (k2' n h1)
  · exact absurd k2 (h2 m k1)
  · exact ⟨by omega, by omega⟩
set_option maxRecDepth 100000 in
set_option maxHeartbeats 1000000 in
theorem tfree_any (b : Nat) (F : Fo) (w : World) (h : FAt w b F) :
    Calls Tryz.prog 26 #[.pointer (some ⟨b, 0, none⟩)] w fun e w' => ∃ (n : Nat) (E : Int), e = .returned (.tuple #[.int .i64 (n : Int), errV E]) ∧ Tr.FreeTo F n E ∧ w' = w := by
  have HF := Hid.intro h
  clear h
  go_enter Tryz.func26, Tryz.ntmps26
  go_wp2_with fail
  go_loopw [4, 5] (fun x i wr => ∃ (n : Nat), i = .int .i64 n ∧ n ≤ 40 ∧ Hid (∀ m, m < n → (F.nd m).kind ≠ 0) ∧ wr = w) (fun _ i _ => 40 - (intOf i).toNat)
  case atStart => exact ⟨0, rfl, by omega, fun m hm => by omega, rfl⟩
  case round =>
    obtain ⟨n, rfl, hn, HN, hwr⟩ := hrel
    subst wr
    by_cases hlt : n < 40
    · have hltI : (n : Int) < 40 := by omega
      have c0 := HF.out.cKind n hlt
      by_cases k0 : (F.nd n).kind = 0
      · have FIN : Hid (Tr.FreeTo F n 0) := Hid.intro (.inl ⟨rfl, hlt, k0, HN.out⟩)
        rw [k0] at c0
        have c0' : w.cell? ⟨b, n * 62, none⟩ = some (.int .i64 0) := c0
        clear c0 k0
        go_wp2_with fail
        go_ret2
        exact ⟨n, 0, rfl, FIN.out, rfl⟩
      · have NX : Hid (∀ m, m < n + 1 → (F.nd m).kind ≠ 0) := Hid.intro (fun m hm => by
          by_cases e : m = n
          · subst e; exact k0
          · exact HN.out m (by omega))
        have k0' : (((F.nd n).kind : Int) == 0) = false := by simp; omega
        generalize (F.nd n).kind = kk at *
        clear k0
        go_wp2_with fail
        go_roundw
        case rel => exact ⟨n + 1, by go_num, by omega, NX, by first | rfl | trivial⟩
        case measure => simp [intOf]; omega
    · have hltI : ¬ (n : Int) < 40 := by omega
      obtain rfl : n = 40 := by omega
      go_wp2_with fail
      go_ret2
      exact ⟨0, 4, rfl, .inr ⟨rfl, rfl, HN.out⟩, rfl⟩
end Go.Proofs.YthdadmbpnoofoaaGreatDoor
/- The code's forest: Tree, Up, Root; a name's place; Find; which names may be; refuses, wanted. -/
namespace Go.Proofs.YthdadmbpnoofoaaGreatDoor
open Go.RowKit
open Tr (Fo Nd)

def Tr.treeN (F : Fo) (z : Int) : Nat := if Tr.nodeE F z = 0 then (F.nd z.toNat).tree else 0
def Tr.upN (F : Fo) (z : Int) : Nat := if Tr.isE F z 2 = 0 then (F.nd z.toNat).up else 0
set_option maxRecDepth 100000 in
set_option maxHeartbeats 1000000 in
theorem ttree_any (b : Nat) (z : Int) (F : Fo) (w : World) (h : FAt w b F) :
    Calls Tryz.prog 67 #[.pointer (some ⟨b, 0, none⟩), .int .i64 z] w fun e w' => e = .returned (.tuple #[.int .i64 (Tr.treeN F z : Int), errV (Tr.nodeE F z)]) ∧ w' = w := by
  have HF := Hid.intro h
  by_cases c : Tr.nodeE F z = 0
  · obtain ⟨n, rfl, n40, _⟩ := Tr.nodeE_ok c
    have c0 := h.cTree n n40
    have EP : Hid (Tr.nodeE F (n : Int) = 0 ∧ ptrE b (n : Int) 0 = .pointer (some ⟨b, n * 62, none⟩) ∧ Tr.treeN F (n : Int) = (F.nd n).tree) := Hid.intro ⟨c, ptrE_ok b n, by unfold Tr.treeN; rw [if_pos c, Int.toNat_natCast]⟩
    generalize (F.nd n).tree = ff at *
    clear h c
    go_enter Tryz.func67, Tryz.ntmps67
    go_wp2_with fail
    refine (tnode_any b n F _ HF.out).mono ?_
    rintro e w1 ⟨rfl, hw1⟩
    subst w1
    rw [EP.out.1, EP.out.2.1, errV_zero]
    go_wp2_with fail
    go_ret2
    rw [EP.out.1, EP.out.2.2]
    exact ⟨rfl, rfl⟩
  · have E2 : Hid (ptrE b z (Tr.nodeE F z) = .pointer none ∧ errV (Tr.nodeE F z) = .iface 83 (.int .i64 (Tr.nodeE F z)) ∧ Tr.treeN F z = 0) := Hid.intro ⟨ptrE_no c, errV_ne c, if_neg c⟩
    clear h c
    go_enter Tryz.func67, Tryz.ntmps67
    go_wp2_with fail
    refine (tnode_any b z F _ HF.out).mono ?_
    rintro e w1 ⟨rfl, hw⟩
    subst w1
    rw [E2.out.1, E2.out.2.1]
    go_wp2_with fail
    go_ret2
    rw [E2.out.2.1, E2.out.2.2]
    exact ⟨rfl, rfl⟩
set_option maxRecDepth 100000 in
set_option maxHeartbeats 1000000 in
theorem tup_any (b : Nat) (z : Int) (F : Fo) (w : World) (h : FAt w b F) :
    Calls Tryz.prog 66 #[.pointer (some ⟨b, 0, none⟩), .int .i64 z] w fun e w' => e = .returned (.tuple #[.int .i64 (Tr.upN F z : Int), errV (Tr.isE F z 2)]) ∧ w' = w := by
  have HF := Hid.intro h
  by_cases c : Tr.isE F z 2 = 0
  · obtain ⟨n, rfl, n40, _⟩ := Tr.isE_ok c
    have c0 := h.cUp n n40
    have EP : Hid (Tr.isE F (n : Int) 2 = 0 ∧ ptrE b (n : Int) 0 = .pointer (some ⟨b, n * 62, none⟩) ∧ Tr.upN F (n : Int) = (F.nd n).up) := Hid.intro ⟨c, ptrE_ok b n, by unfold Tr.upN; rw [if_pos c, Int.toNat_natCast]⟩
    generalize (F.nd n).up = ff at *
    clear h c
    go_enter Tryz.func66, Tryz.ntmps66
    go_wp2_with fail
    refine (tdir_any b n F _ HF.out).mono ?_
    rintro e w1 ⟨rfl, hw1⟩
    subst w1
    rw [EP.out.1, EP.out.2.1, errV_zero]
    go_wp2_with fail
    go_ret2
    rw [EP.out.1, EP.out.2.2]
    exact ⟨rfl, rfl⟩
  · have E2 : Hid (ptrE b z (Tr.isE F z 2) = .pointer none ∧ errV (Tr.isE F z 2) = .iface 83 (.int .i64 (Tr.isE F z 2)) ∧ Tr.upN F z = 0) := Hid.intro ⟨ptrE_no c, errV_ne c, if_neg c⟩
    clear h c
    go_enter Tryz.func66, Tryz.ntmps66
    go_wp2_with fail
    refine (tdir_any b z F _ HF.out).mono ?_
    rintro e w1 ⟨rfl, hw⟩
    subst w1
    rw [E2.out.1, E2.out.2.1]
    go_wp2_with fail
    go_ret2
    rw [E2.out.2.1, E2.out.2.2]
    exact ⟨rfl, rfl⟩
def Tr.rootE (F : Fo) (z : Int) : Int := if z < 0 ∨ 3 < z then 1 else if F.trees ≤ z.toNat then 2 else 0
def Tr.rootN (F : Fo) (z : Int) : Nat := if Tr.rootE F z = 0 then F.root z.toNat else 0
set_option maxRecDepth 100000 in
set_option maxHeartbeats 1000000 in
theorem troot_any (b : Nat) (z : Int) (F : Fo) (w : World) (h : FAt w b F) :
    Calls Tryz.prog 69 #[.pointer (some ⟨b, 0, none⟩), .int .i64 z] w fun e w' => e = .returned (.tuple #[.int .i64 (Tr.rootN F z : Int), errV (Tr.rootE F z)]) ∧ w' = w := by
  by_cases c : z < 0 ∨ 3 < z
  · have E : Hid (Tr.rootE F z = 1 ∧ Tr.rootN F z = 0) := Hid.intro (by
      have e : Tr.rootE F z = 1 := if_pos c
      exact ⟨e, by unfold Tr.rootN; rw [e]; exact if_neg (by decide)⟩)
    by_cases c1 : z < 0
    · clear c
      go_enter Tryz.func69, Tryz.ntmps69
      go_wp2_with fail
      go_ret2
      rw [E.out.1, E.out.2]
      exact ⟨rfl, rfl⟩
    · have c2 : decide (4 ≤ z) = true := by simp; omega
      have c3 : decide (z < 0) = false := by simp; omega
      clear c
      go_enter Tryz.func69, Tryz.ntmps69
      go_wp2_with fail
      go_ret2
      rw [E.out.1, E.out.2]
      exact ⟨rfl, rfl⟩
  · obtain ⟨n, rfl⟩ := Int.eq_ofNat_of_zero_le (show 0 ≤ z by omega)
    have n4 : n < 4 := by omega
    have nI : (n : Int) < 4 := by omega
    have c2 : decide (4 ≤ (n : Int)) = false := by simp; omega
    have c0 := h.cRoot n n4
    have c1 := h.cTrees
    by_cases k0 : F.trees ≤ n
    · have E : Hid (Tr.rootE F (n : Int) = 2 ∧ Tr.rootN F (n : Int) = 0) := Hid.intro (by
        have e : Tr.rootE F (n : Int) = 2 := by unfold Tr.rootE; rw [if_neg c, Int.toNat_natCast, if_pos k0]
        exact ⟨e, by unfold Tr.rootN; rw [e]; exact if_neg (by decide)⟩)
      have k1 : (F.trees : Int) ≤ (n : Int) := by omega
      generalize F.trees = tt at *
      clear h c k0
      go_enter Tryz.func69, Tryz.ntmps69
      go_wp2_with fail
      go_ret2
      rw [E.out.1, E.out.2]
      exact ⟨rfl, rfl⟩
    · have E : Hid (Tr.rootE F (n : Int) = 0 ∧ Tr.rootN F (n : Int) = F.root n) := Hid.intro (by
        have e : Tr.rootE F (n : Int) = 0 := by unfold Tr.rootE; rw [if_neg c, Int.toNat_natCast, if_neg k0]
        exact ⟨e, by unfold Tr.rootN; rw [e, if_pos rfl, Int.toNat_natCast]⟩)
      have k1 : ¬ (F.trees : Int) ≤ (n : Int) := by omega
      generalize F.trees = tt at *
      generalize F.root n = rr at *
      clear h c k0
      go_enter Tryz.func69, Tryz.ntmps69
      go_wp2_with fail
      go_ret2
      rw [E.out.1, E.out.2]
      exact ⟨rfl, rfl⟩
/-- The place of a name. -/
def Tr.PlcTo (x : Nd) (s : ByteArray) (z : Int) : Prop := (∃ i : Nat, z = i ∧ i < x.size ∧ (x.nam i).toList = s.toList ∧ ∀ j, j < i → (x.nam j).toList ≠ s.toList) ∨ (z = -1 ∧ ∀ j, j < x.size → (x.nam j).toList ≠ s.toList)
theorem Tr.PlcTo.unique {x : Nd} {s : ByteArray} {y z : Int} (h : Tr.PlcTo x s y) (k : Tr.PlcTo x s z) : y = z := by
  rcases h with ⟨i, rfl, h1, h2, h3⟩ | ⟨rfl, h1⟩ <;> rcases k with ⟨j, rfl, k1, k2, k3⟩ | ⟨rfl, k1⟩
  · rcases Nat.lt_trichotomy i j with c | c | c
    · exact absurd h2 (k3 i c)
    · rw [c]
    · exact absurd k2 (h3 j c)
  · exact absurd h2 (k1 i h1)
  · exact absurd k2 (h1 j k1)
  · rfl
set_option maxRecDepth 100000 in
set_option maxHeartbeats 400000 in
theorem tplace1_any (bx k : Nat) (nm s : ByteArray) (w : World) (h : w.cell? ⟨bx, 0, none⟩ = some (.string s)) (hb : bx < w.heap.size) :
    Calls Tryz.prog 107 #[.agg #[.string nm, .int .i64 (k : Int)], .pointer (some ⟨bx, 0, none⟩)] w fun e w' => e = .returned (.bool (nm.toList == s.toList)) ∧ Below w.heap.size w w' := by
  have hne : bx ≠ w.heap.size := by omega
  go_enter Tryz.func107, Tryz.ntmps107
  go_wp2_with fail
  go_ret
  exact ⟨rfl, (Below.refl _ _).alloc (Nat.le_refl _) _⟩
set_option maxRecDepth 100000 in
set_option maxHeartbeats 1000000 in
theorem tindex_any (bx b n m c : Nat) (s : ByteArray) (F : Fo) (w : World) (h : FAt w b F) (hx : w.cell? ⟨bx, 0, none⟩ = some (.string s)) (hn : n < 40) (hm : (F.nd n).size = m) (hm8 : m ≤ 8) :
    Calls Tryz.prog 106 #[.slice (some ⟨b, n * 62 + 6, none⟩) m c, .func (.func 107) #[] #[.pointer (some ⟨bx, 0, none⟩)]] w fun e w' => ∃ z : Int, e = .returned (.int .i64 z) ∧ Tr.PlcTo (F.nd n) s z ∧ Below w.heap.size w w' := by
  have HF := Hid.intro (And.intro h (And.intro hx (World.block_lt_of_cell? _ _ hx)))
  have HM := Hid.intro hm
  clear h hx hm
  go_enter Tryz.func106, Tryz.ntmps106
  go_wp2_with fail
  go_loopw [5, 8] (fun x i wr => ∃ (j : Nat), i = .int .i64 j ∧ j ≤ m ∧ Hid (Below w.heap.size w wr ∧ ∀ y, y < j → ((F.nd n).nam y).toList ≠ s.toList)) (fun _ i _ => m - (intOf i).toNat)
  case atStart => exact ⟨0, rfl, by omega, Below.refl _ _, fun y hy => by omega⟩
  case round =>
    obtain ⟨j, rfl, hj, R⟩ := hrel
    by_cases hlt : j < m
    · have hltI : (j : Int) < (m : Int) := by omega
      have c0 := (HF.out.1.below R.out.1).cNam n j hn (by omega)
      have c1 := (HF.out.1.below R.out.1).cKid n j hn (by omega)
      obtain ⟨nm, hnm⟩ : ∃ nm, (F.nd n).nam j = nm := ⟨_, rfl⟩
      have HNM := Hid.intro hnm
      rw [hnm] at c0
      generalize (F.nd n).kid j = kk at *
      clear hnm
      go_wp2_with fail
      refine (tplace1_any bx kk nm s _ ((R.out.1.cell HF.out.2.2).trans HF.out.2.1) (Nat.lt_of_lt_of_le HF.out.2.2 R.out.1.size)).mono ?_
      rintro e w1 ⟨rfl, b1⟩
      have B1 := Hid.intro (R.out.1.trans (b1.mono R.out.1.size))
      clear b1 c0 c1
      by_cases e : nm.toList = s.toList
      · have e' : (nm.toList == s.toList) = true := by simpa using e
        have FIN : Hid (Tr.PlcTo (F.nd n) s (j : Int)) := Hid.intro (.inl ⟨j, rfl, by rw [HM.out]; exact hlt, by rw [HNM.out]; exact e, R.out.2⟩)
        rw [e']
        clear e e'
        go_wp2_with fail
        go_ret
        exact ⟨_, rfl, FIN.out, B1.out⟩
      · have e' : (nm.toList == s.toList) = false := by simpa using e
        have NX : Hid (∀ y, y < j + 1 → ((F.nd n).nam y).toList ≠ s.toList) := Hid.intro (fun y hy => by
          by_cases d : y = j
          · subst d; rw [HNM.out]; exact e
          · exact R.out.2 y (by omega))
        rw [e']
        clear e e'
        go_wp2_with fail
        go_roundw
        case rel => exact ⟨j + 1, by go_num, by omega, B1.out, NX.out⟩
        case measure => simp [intOf]; omega
    · have hltI : ¬ (j : Int) < (m : Int) := by omega
      have FIN : Hid (Tr.PlcTo (F.nd n) s (-1)) := Hid.intro (.inr ⟨rfl, fun y hy => R.out.2 y (by rw [HM.out] at hy; omega)⟩)
      go_wp2_with fail
      go_ret
      exact ⟨_, rfl, FIN.out, R.out.1⟩
set_option maxRecDepth 100000 in
set_option maxHeartbeats 400000 in
theorem tentries_any (b n : Nat) (F : Fo) (w : World) (h : FAt w b F) (hn : n < 40) (hm8 : (F.nd n).size ≤ 8) :
    Calls Tryz.prog 102 #[.pointer (some ⟨b, n * 62, none⟩)] w fun e w' => e = .returned (.slice (some ⟨b, n * 62 + 6, none⟩) (F.nd n).size 8) ∧ ∃ k, w' = w.drewN k := by
  have c0 := h.cSize n hn
  generalize (F.nd n).size = sz at *
  have h1 : (sz : Int) ≤ 8 := by omega
  clear h
  go_enter Tryz.func102, Tryz.ntmps102
  go_wp2_with fail
  go_quiet (fail)
  go_wp2_with fail
  go_ret
  exact ⟨rfl, _, rfl⟩
theorem tbox1 (w : World) (v : Value) (T : TypeId) : (w.alloc (.cells #[v] T)).cell? ⟨w.heap.size, 0, none⟩ = some v := by
  rw [cell_blk (heap_alloc_new w (.cells #[v] T))]
  rfl
set_option maxRecDepth 100000 in
set_option maxHeartbeats 400000 in
theorem tplace_any (b n : Nat) (s : ByteArray) (F : Fo) (w : World) (h : FAt w b F) (hn : n < 40) (hm8 : (F.nd n).size ≤ 8) :
    Calls Tryz.prog 87 #[.pointer (some ⟨b, n * 62, none⟩), .string s] w fun e w' => ∃ z : Int, e = .returned (.int .i64 z) ∧ Tr.PlcTo (F.nd n) s z ∧ Below w.heap.size w w' := by
  have S1 : Hid (∀ T, FAt (w.alloc (.cells #[.string s] T)) b F ∧ Below w.heap.size w (w.alloc (.cells #[.string s] T))) := Hid.intro (fun T => by
    have bb : Below w.heap.size w (w.alloc (.cells #[.string s] T)) := (Below.refl _ _).alloc (Nat.le_refl _) _
    exact ⟨h.below bb, bb⟩)
  clear h
  go_enter Tryz.func87, Tryz.ntmps87
  go_wp2_with fail
  refine (tentries_any b n F _ (S1.out _).1 hn hm8).mono ?_
  rintro e w1 ⟨rfl, k, hw⟩
  subst w1
  obtain ⟨sz, hsz⟩ : ∃ sz, (F.nd n).size = sz := ⟨_, rfl⟩
  have HSZ := Hid.intro hsz
  rw [hsz] at hm8 ⊢
  clear hsz
  go_wp2_with fail
  refine (tindex_any w.heap.size b n sz 8 s F _ ((S1.out _).1.drewN k) (tbox1 w _ _) hn HSZ.out hm8).mono ?_
  rintro e w2 ⟨z, rfl, hp, b2⟩
  have FIN : Hid (Tr.PlcTo (F.nd n) s z ∧ Below w.heap.size w w2) := Hid.intro ⟨hp, by
    have a := (S1.out 9).2
    have c : Below w.heap.size w ((w.alloc (.cells #[.string s] 9)).drewN k) := ⟨a.os, a.tape, a.output, a.size, a.block⟩
    exact c.trans (b2.mono c.size)⟩
  clear hp b2
  go_wp2_with fail
  go_ret
  exact ⟨z, rfl, FIN.out⟩
end Go.Proofs.YthdadmbpnoofoaaGreatDoor
/- The code's forest: Find, Of; which names may be. -/
namespace Go.Proofs.YthdadmbpnoofoaaGreatDoor
open Go.RowKit
open Tr (Fo Nd)

/-- Directories have eight names at most. -/
def Tr.SzOk (F : Fo) : Prop := ∀ n, n < 40 → (F.nd n).kind = 2 → (F.nd n).size ≤ 8
/-- Where a name leads. -/
def Tr.FndTo (F : Fo) (z : Int) (s : ByteArray) (K : Nat) (E : Int) : Prop :=
  (Tr.isE F z 2 ≠ 0 ∧ K = 0 ∧ E = Tr.isE F z 2) ∨ (Tr.isE F z 2 = 0 ∧ ((∃ i : Nat, Tr.PlcTo (F.nd z.toNat) s i ∧ K = (F.nd z.toNat).kid i ∧ E = 0) ∨ (Tr.PlcTo (F.nd z.toNat) s (-1) ∧ K = 0 ∧ E = 2)))
theorem Tr.PlcTo.cases {x : Nd} {s : ByteArray} {z : Int} (h : Tr.PlcTo x s z) : (∃ i : Nat, z = i ∧ i < x.size) ∨ z = -1 := by
  rcases h with ⟨i, rfl, h1, _⟩ | ⟨rfl, _⟩
  · exact .inl ⟨i, rfl, h1⟩
  · exact .inr rfl
set_option maxRecDepth 100000 in
set_option maxHeartbeats 1000000 in
theorem tfind_any (b : Nat) (z : Int) (s : ByteArray) (F : Fo) (w : World) (h : FAt w b F) (hs : Tr.SzOk F) :
    Calls Tryz.prog 39 #[.pointer (some ⟨b, 0, none⟩), .int .i64 z, .string s] w fun e w' => ∃ (K : Nat) (E : Int), e = .returned (.tuple #[.int .i64 (K : Int), errV E]) ∧ Tr.FndTo F z s K E ∧ Below w.heap.size w w' := by
  have HF := Hid.intro h
  by_cases c : Tr.isE F z 2 = 0
  · obtain ⟨n, rfl, n40, _, k2⟩ := Tr.isE_ok c
    have hm8 := hs n n40 k2
    have EP : Hid (Tr.isE F (n : Int) 2 = 0 ∧ ptrE b (n : Int) 0 = .pointer (some ⟨b, n * 62, none⟩)) := Hid.intro ⟨c, ptrE_ok b n⟩
    clear h c hs k2
    go_enter Tryz.func39, Tryz.ntmps39
    go_wp2_with fail
    refine (tdir_any b n F _ HF.out).mono ?_
    rintro e w1 ⟨rfl, hw1⟩
    subst w1
    rw [EP.out.1, EP.out.2, errV_zero]
    go_wp2_with fail
    refine (tplace_any b n s F _ HF.out n40 hm8).mono ?_
    rintro e w2 ⟨y, rfl, hp, b2⟩
    have HP := Hid.intro (And.intro hp b2)
    rcases hp.cases with ⟨i, rfl, hi⟩ | rfl
    · have c0 := (HF.out.below b2).cKid n i n40 (by omega)
      have iI : (i : Int) < 8 := by omega
      have FIN : Hid (Tr.FndTo F (n : Int) s ((F.nd n).kid i) 0) := Hid.intro (.inr ⟨EP.out.1, .inl ⟨i, by rw [Int.toNat_natCast]; exact hp, by rw [Int.toNat_natCast], rfl⟩⟩)
      generalize (F.nd n).kid i = kk at *
      clear hp b2
      go_wp2_with fail
      go_ret2
      exact ⟨kk, 0, rfl, FIN.out, HP.out.2⟩
    · have FIN : Hid (Tr.FndTo F (n : Int) s 0 2) := Hid.intro (.inr ⟨EP.out.1, .inr ⟨by rw [Int.toNat_natCast]; exact hp, rfl, rfl⟩⟩)
      clear hp b2
      go_wp2_with fail
      go_ret2
      exact ⟨0, 2, rfl, FIN.out, HP.out.2⟩
  · have E2 : Hid (ptrE b z (Tr.isE F z 2) = .pointer none ∧ errV (Tr.isE F z 2) = .iface 83 (.int .i64 (Tr.isE F z 2)) ∧ Tr.FndTo F z s 0 (Tr.isE F z 2)) := Hid.intro ⟨ptrE_no c, errV_ne c, .inl ⟨c, rfl, rfl⟩⟩
    clear h c hs
    go_enter Tryz.func39, Tryz.ntmps39
    go_wp2_with fail
    refine (tdir_any b z F _ HF.out).mono ?_
    rintro e w1 ⟨rfl, hw⟩
    subst w1
    rw [E2.out.1, E2.out.2.1]
    go_wp2_with fail
    go_ret2
    exact ⟨0, _, by rw [E2.out.2.1]; rfl, E2.out.2.2, Below.refl _ _⟩
/-- May a byte be in a name? -/
def Tr.okB (c : Nat) : Bool := (decide (97 ≤ c) && decide (c ≤ 122)) || (decide (48 ≤ c) && decide (c ≤ 57)) || decide (c = 46)
set_option maxRecDepth 100000 in
set_option maxHeartbeats 1000000 in
theorem tinName_any (c : Nat) (w : World) : Calls Tryz.prog 115 #[.int .u8 (c : Int)] w fun e w' => e = .returned (.bool (Tr.okB c)) ∧ w' = w := by
  have E1 : ∀ a : Nat, decide ((a : Int) ≤ (c : Int)) = decide (a ≤ c) := fun a => by simp
  by_cases c1 : 97 ≤ c
  · have d1 : (97 : Int) ≤ (c : Int) := by omega
    by_cases c2 : c ≤ 122
    · have d2 : (c : Int) ≤ 122 := by omega
      have HO : Hid (Tr.okB c = true) := Hid.intro (by unfold Tr.okB; simp [c1, c2])
      clear E1
      go_enter Tryz.func115, Tryz.ntmps115
      go_wp2_with fail
      go_ret
      exact ⟨ret_bool (by rw [HO.out]), rfl⟩
    · have d2 : decide ((c : Int) ≤ 122) = false := by simp; omega
      have d3 : (48 : Int) ≤ (c : Int) := by omega
      have d4 : decide ((c : Int) ≤ 57) = false := by simp; omega
      have HO : Hid (Tr.okB c = false) := Hid.intro (by unfold Tr.okB; simp; omega)
      have d5 : ((c : Int) == 46) = false := by simp; omega
      clear E1
      go_enter Tryz.func115, Tryz.ntmps115
      go_wp2_with fail
      go_ret
      exact ⟨ret_bool (by rw [HO.out]), rfl⟩
  · have d1 : decide ((97 : Int) ≤ (c : Int)) = false := by simp; omega
    by_cases c3 : 48 ≤ c ∧ c ≤ 57
    · have d3 : (48 : Int) ≤ (c : Int) := by omega
      have d4 : (c : Int) ≤ 57 := by omega
      have HO : Hid (Tr.okB c = true) := Hid.intro (by unfold Tr.okB; simp; omega)
      clear E1
      go_enter Tryz.func115, Tryz.ntmps115
      go_wp2_with fail
      go_ret
      exact ⟨ret_bool (by rw [HO.out]), rfl⟩
    · by_cases c5 : c = 46
      · subst c5
        have HO : Hid (Tr.okB 46 = true) := Hid.intro (by decide)
        go_enter Tryz.func115, Tryz.ntmps115
        go_wp2_with fail
        go_ret
        exact ⟨ret_bool (by rw [HO.out]), rfl⟩
      · have d5 : ((c : Int) == 46) = false := by simp; omega
        have HO : Hid (Tr.okB c = false) := Hid.intro (by unfold Tr.okB; simp; omega)
        clear E1
        by_cases c6 : 48 ≤ c
        · have d3 : (48 : Int) ≤ (c : Int) := by omega
          have d4 : decide ((c : Int) ≤ 57) = false := by simp; omega
          go_enter Tryz.func115, Tryz.ntmps115
          go_wp2_with fail
          go_ret
          exact ⟨ret_bool (by rw [HO.out]), rfl⟩
        · have d3 : decide ((48 : Int) ≤ (c : Int)) = false := by simp; omega
          go_enter Tryz.func115, Tryz.ntmps115
          go_wp2_with fail
          go_ret
          exact ⟨ret_bool (by rw [HO.out]), rfl⟩
/-- The first bytes may all be in a name. -/
def Tr.allOk (s : ByteArray) : Nat → Bool
  | 0 => true
  | n + 1 => Tr.allOk s n && Tr.okB (s[n]!).toNat
theorem Tr.allOk_false {s : ByteArray} {j : Nat} (h : Tr.okB (s[j]!).toNat = false) : ∀ n, j < n → Tr.allOk s n = false := by
  intro n
  induction n with
  | zero => intro hj; omega
  | succ n ih =>
    intro hj
    show (Tr.allOk s n && Tr.okB (s[n]!).toNat) = false
    by_cases c : j = n
    · subst c; rw [h]; simp
    · rw [ih (by omega)]; rfl
/-- May something be called so? -/
def Tr.nameB (s : ByteArray) : Bool := decide (1 ≤ s.size) && decide (s.size ≤ 8) && !(s.toList == [46]) && !(s.toList == [46, 46]) && Tr.allOk s s.size
set_option maxRecDepth 100000 in
set_option maxHeartbeats 1000000 in
theorem tName_any (s : ByteArray) (w : World) : Calls Tryz.prog 100 #[.string s] w fun e w' => e = .returned (.bool (Tr.nameB s)) ∧ w' = w := by
  by_cases c1 : s.size = 0
  · have HO : Hid (Tr.nameB s = false) := Hid.intro (by unfold Tr.nameB; simp [c1])
    have d1 : (s.size : Int) < 1 := by omega
    clear c1
    go_enter Tryz.func100, Tryz.ntmps100
    go_wp2_with fail
    go_ret
    exact ⟨ret_bool (by rw [HO.out]), rfl⟩
  · have d1 : decide ((s.size : Int) < 1) = false := by simp; omega
    by_cases c2 : 8 < s.size
    · have HO : Hid (Tr.nameB s = false) := Hid.intro (by unfold Tr.nameB; simp; omega)
      have d2 : (8 : Int) < (s.size : Int) := by omega
      clear c1 c2
      go_enter Tryz.func100, Tryz.ntmps100
      go_wp2_with fail
      go_ret
      exact ⟨ret_bool (by rw [HO.out]), rfl⟩
    · have d2 : decide ((8 : Int) < (s.size : Int)) = false := by simp; omega
      by_cases c3 : (s.toList == [46]) = true
      · have HO : Hid (Tr.nameB s = false) := Hid.intro (by unfold Tr.nameB; rw [c3]; simp)
        clear c1 c2
        go_enter Tryz.func100, Tryz.ntmps100
        go_wp2_with fail
        go_ret
        exact ⟨ret_bool (by rw [HO.out]), rfl⟩
      · have d3 : (s.toList == [46]) = false := by simpa using c3
        by_cases c4 : (s.toList == [46, 46]) = true
        · have HO : Hid (Tr.nameB s = false) := Hid.intro (by unfold Tr.nameB; rw [c4]; simp)
          clear c1 c2 c3
          go_enter Tryz.func100, Tryz.ntmps100
          go_wp2_with fail
          go_ret
          exact ⟨ret_bool (by rw [HO.out]), rfl⟩
        · have d4 : (s.toList == [46, 46]) = false := by simpa using c4
          have HO : Hid (Tr.nameB s = Tr.allOk s s.size) := Hid.intro (by unfold Tr.nameB; rw [d3, d4, decide_eq_true (show 1 ≤ s.size by omega), decide_eq_true (show s.size ≤ 8 by omega)]; simp)
          have hs8 : s.size ≤ 8 := by omega
          clear c1 c2 c3 c4
          go_enter Tryz.func100, Tryz.ntmps100
          go_wp2_with fail
          go_loopw [3, 22] (fun x i wr => ∃ (j : Nat), i = .int .i64 j ∧ j ≤ s.size ∧ Hid (Tr.allOk s j = true) ∧ wr = w) (fun _ i _ => s.size - (intOf i).toNat)
          case atStart => exact ⟨0, rfl, by omega, rfl, rfl⟩
          case round =>
            obtain ⟨j, rfl, hj, R, hwr⟩ := hrel
            subst wr
            by_cases hlt : j < s.size
            · have hltI : (j : Int) < (s.size : Int) := by omega
              have HB : Hid (Tr.okB (s[j]!).toNat = Tr.okB (s[j]'hlt).toNat) := Hid.intro (by rw [getElem!_pos s j hlt])
              go_wp2_with fail
              refine (tinName_any (s[j]'hlt).toNat _).mono ?_
              rintro e w1 ⟨rfl, hw1⟩
              subst w1
              cases ho : Tr.okB (s[j]'hlt).toNat
              · have NO := Hid.intro (Tr.allOk_false (s := s) (j := j) (by rw [HB.out]; exact ho) s.size hlt)
                clear ho
                go_wp2_with fail
                go_ret
                exact ⟨ret_bool (by rw [HO.out, NO.out]), rfl⟩
              · have NX : Hid (Tr.allOk s (j + 1) = true) := Hid.intro (by
                  show (Tr.allOk s j && Tr.okB (s[j]!).toNat) = true
                  rw [R.out, HB.out, ho]; rfl)
                clear ho
                go_wp2_with fail
                go_roundw
                case rel => exact ⟨j + 1, by go_num, by omega, NX, by first | rfl | trivial⟩
                case measure => simp [intOf]; omega
            · have hltI : ¬ (j : Int) < (s.size : Int) := by omega
              have hje : j = s.size := by omega
              have FIN : Hid (Tr.allOk s s.size = true) := Hid.intro (by rw [← hje]; exact R.out)
              clear hje
              go_wp2_with fail
              go_ret
              exact ⟨ret_bool (by rw [HO.out, FIN.out]), rfl⟩
/-- Why a directory can't have one more name. -/
def Tr.RefTo (x : Nd) (s : ByteArray) (E : Int) : Prop := (Tr.nameB s = false ∧ E = 9) ∨ (Tr.nameB s = true ∧ ((∃ i : Nat, Tr.PlcTo x s i ∧ E = 3) ∨ (Tr.PlcTo x s (-1) ∧ ((x.size = 8 ∧ E = 4) ∨ (x.size ≠ 8 ∧ E = 0)))))
set_option maxRecDepth 100000 in
set_option maxHeartbeats 1000000 in
theorem trefuses_any (b n : Nat) (s : ByteArray) (F : Fo) (w : World) (h : FAt w b F) (hn : n < 40) (hm8 : (F.nd n).size ≤ 8) :
    Calls Tryz.prog 85 #[.pointer (some ⟨b, n * 62, none⟩), .string s] w fun e w' => ∃ E, e = .returned (errV E) ∧ Tr.RefTo (F.nd n) s E ∧ Below w.heap.size w w' := by
  have HF := Hid.intro h
  clear h
  go_enter Tryz.func85, Tryz.ntmps85
  go_wp2_with fail
  refine (tName_any s _).mono ?_
  rintro e w1 ⟨rfl, hw1⟩
  subst w1
  cases hb : Tr.nameB s
  · have FIN : Hid (Tr.RefTo (F.nd n) s 9) := Hid.intro (.inl ⟨hb, rfl⟩)
    clear hb
    go_wp2_with fail
    go_ret
    exact ⟨9, rfl, FIN.out, Below.refl _ _⟩
  · have HB := Hid.intro hb
    clear hb
    go_wp2_with fail
    refine (tplace_any b n s F _ HF.out hn hm8).mono ?_
    rintro e w2 ⟨y, rfl, hp, b2⟩
    have B2 := Hid.intro b2
    rcases hp.cases with ⟨i, rfl, hi⟩ | rfl
    · have FIN : Hid (Tr.RefTo (F.nd n) s 3) := Hid.intro (.inr ⟨HB.out, .inl ⟨i, hp, rfl⟩⟩)
      clear hp b2
      go_wp2_with fail
      go_ret
      exact ⟨3, rfl, FIN.out, B2.out⟩
    · have c0 := (HF.out.below b2).cSize n hn
      by_cases s8 : (F.nd n).size = 8
      · have FIN : Hid (Tr.RefTo (F.nd n) s 4) := Hid.intro (.inr ⟨HB.out, .inr ⟨hp, .inl ⟨s8, rfl⟩⟩⟩)
        rw [s8] at c0
        have c0' : w2.cell? ⟨b, n * 62 + 3, none⟩ = some (.int .i64 8) := c0
        clear hp b2 s8 c0 hm8
        go_wp2_with fail
        go_ret
        exact ⟨4, rfl, FIN.out, B2.out⟩
      · have FIN : Hid (Tr.RefTo (F.nd n) s 0) := Hid.intro (.inr ⟨HB.out, .inr ⟨hp, .inr ⟨s8, rfl⟩⟩⟩)
        have s8' : (((F.nd n).size : Int) == 8) = false := by simp; omega
        generalize (F.nd n).size = sz at *
        clear hp b2 s8
        go_wp2_with fail
        go_ret
        exact ⟨0, rfl, FIN.out, B2.out⟩
/-- What is wrong with a name that is wanted in a directory. -/
def Tr.WanTo (F : Fo) (z : Int) (s : ByteArray) (E : Int) : Prop := (Tr.isE F z 2 ≠ 0 ∧ E = Tr.isE F z 2) ∨ (Tr.isE F z 2 = 0 ∧ Tr.RefTo (F.nd z.toNat) s E)
set_option maxRecDepth 100000 in
set_option maxHeartbeats 1000000 in
theorem twanted_any (b : Nat) (z : Int) (s : ByteArray) (F : Fo) (w : World) (h : FAt w b F) (hs : Tr.SzOk F) :
    Calls Tryz.prog 72 #[.pointer (some ⟨b, 0, none⟩), .int .i64 z, .string s] w fun e w' => ∃ E, e = .returned (.tuple #[ptrE b z E, errV E]) ∧ Tr.WanTo F z s E ∧ Below w.heap.size w w' := by
  have HF := Hid.intro h
  by_cases c : Tr.isE F z 2 = 0
  · obtain ⟨n, rfl, n40, _, k2⟩ := Tr.isE_ok c
    have hm8 := hs n n40 k2
    have EP : Hid (Tr.isE F (n : Int) 2 = 0 ∧ ptrE b (n : Int) 0 = .pointer (some ⟨b, n * 62, none⟩)) := Hid.intro ⟨c, ptrE_ok b n⟩
    clear h c hs k2
    go_enter Tryz.func72, Tryz.ntmps72
    go_wp2_with fail
    refine (tdir_any b n F _ HF.out).mono ?_
    rintro e w1 ⟨rfl, hw1⟩
    subst w1
    rw [EP.out.1, EP.out.2, errV_zero]
    go_wp2_with fail
    refine (trefuses_any b n s F _ HF.out n40 hm8).mono ?_
    rintro e w2 ⟨E, rfl, hr, b2⟩
    have FIN : Hid (Tr.WanTo F (n : Int) s E ∧ Below w.heap.size w w2) := Hid.intro ⟨.inr ⟨EP.out.1, by rw [Int.toNat_natCast]; exact hr⟩, b2⟩
    clear hr b2
    by_cases e0 : E = 0
    · subst e0
      rw [errV_zero]
      go_wp2_with fail
      go_ret2
      exact ⟨0, by rw [EP.out.2]; rfl, FIN.out⟩
    · have E2 : Hid (ptrE b (n : Int) E = .pointer none ∧ errV E = .iface 83 (.int .i64 E)) := Hid.intro ⟨ptrE_no e0, errV_ne e0⟩
      rw [E2.out.2]
      clear e0
      go_wp2_with fail
      go_ret2
      exact ⟨E, by rw [E2.out.1, E2.out.2]; rfl, FIN.out⟩
  · have E2 : Hid (ptrE b z (Tr.isE F z 2) = .pointer none ∧ errV (Tr.isE F z 2) = .iface 83 (.int .i64 (Tr.isE F z 2)) ∧ Tr.WanTo F z s (Tr.isE F z 2)) := Hid.intro ⟨ptrE_no c, errV_ne c, .inl ⟨c, rfl⟩⟩
    clear h c hs
    go_enter Tryz.func72, Tryz.ntmps72
    go_wp2_with fail
    refine (tdir_any b z F _ HF.out).mono ?_
    rintro e w1 ⟨rfl, hw⟩
    subst w1
    rw [E2.out.1, E2.out.2.1]
    go_wp2_with fail
    go_ret2
    exact ⟨_, by rw [E2.out.1, E2.out.2.1]; rfl, E2.out.2.2, Below.refl _ _⟩
end Go.Proofs.YthdadmbpnoofoaaGreatDoor

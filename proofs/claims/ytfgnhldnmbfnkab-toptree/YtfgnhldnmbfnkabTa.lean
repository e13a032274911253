/- Forests, plain; the code's forest as it lies. -/
import Derived.Test.YtfgnhldnmbfnkabBa
namespace Go.Proofs.Ytfgnhldnmbfnkab
open Go.RowKit

namespace Tr
/-- A node: its kind (0: there is none, 1: a file, 2: a directory), links, held, size, tree, the directory above; of its places their names and kids; its bytes. -/
structure Nd where
  kind : Nat
  links : Nat
  held : Nat
  size : Nat
  tree : Nat
  up : Nat
  nam : Nat → ByteArray
  kid : Nat → Nat
  byt : Nat → Int
structure Fo where
  nd : Nat → Nd
  root : Nat → Nat
  trees : Nat
def Nd.no : Nd := ⟨0, 0, 0, 0, 0, 0, fun _ => ⟨#[]⟩, fun _ => 0, fun _ => 0⟩
def Fo.put (F : Fo) (n : Nat) (x : Nd) : Fo := { F with nd := fun m => if m = n then x else F.nd m }
theorem put_same (F : Fo) (n : Nat) (x : Nd) : (F.put n x).nd n = x := if_pos rfl
theorem put_ne (F : Fo) (n : Nat) (x : Nd) (m : Nat) (h : m ≠ n) : (F.put n x).nd m = F.nd m := if_neg h
def f0 : Fo := ⟨fun _ => Nd.no, fun _ => 0, 0⟩
def nodeE (F : Fo) (z : Int) : Int := if z < 0 ∨ 39 < z then 1 else if (F.nd z.toNat).kind = 0 then 2 else 0
/-- What is wrong with a node that should be of a kind. -/
def isE (F : Fo) (z : Int) (k : Nat) : Int := if nodeE F z ≠ 0 then nodeE F z else if (F.nd z.toNat).kind = k then 0 else 11
theorem nodeE_ok {F : Fo} {z : Int} (h : nodeE F z = 0) : ∃ n : Nat, z = n ∧ n < 40 ∧ (F.nd n).kind ≠ 0 := by
  unfold nodeE at h
  by_cases c : z < 0 ∨ 39 < z
  · rw [if_pos c] at h; omega
  · rw [if_neg c] at h
    by_cases d : (F.nd z.toNat).kind = 0
    · rw [if_pos d] at h; omega
    · exact ⟨z.toNat, by omega, by omega, d⟩
theorem isE_ok {F : Fo} {z : Int} {k : Nat} (h : isE F z k = 0) : ∃ n : Nat, z = n ∧ n < 40 ∧ (F.nd n).kind ≠ 0 ∧ (F.nd n).kind = k := by
  unfold isE at h
  by_cases c : nodeE F z = 0
  · rw [if_neg (fun d => d c)] at h
    obtain ⟨n, rfl, h1, h2⟩ := nodeE_ok c
    rw [Int.toNat_natCast] at h
    by_cases d : (F.nd n).kind = k
    · exact ⟨n, rfl, h1, h2, d⟩
    · rw [if_neg d] at h; omega
  · rw [if_pos c] at h; exact absurd h c
theorem nodeE_cases (F : Fo) (z : Int) : nodeE F z = 0 ∨ nodeE F z = 1 ∨ nodeE F z = 2 := by
  unfold nodeE
  split
  · exact .inr (.inl rfl)
  · split
    · exact .inr (.inr rfl)
    · exact .inl rfl
theorem isE_nn (F : Fo) (z : Int) (k : Nat) : 0 ≤ isE F z k := by
  unfold isE
  rcases nodeE_cases F z with h | h | h <;> rw [h] <;> (try split) <;> (try split) <;> omega
end Tr
open Tr (Fo Nd)

def cellN (x : Nd) (j : Nat) : Value :=
  if j = 0 then .int .i64 (x.kind : Int) else if j = 1 then .int .i64 (x.links : Int) else if j = 2 then .int .i64 (x.held : Int) else if j = 3 then .int .i64 (x.size : Int) else if j = 4 then .int .i64 (x.tree : Int) else if j = 5 then .int .i64 (x.up : Int)
  else if j < 22 then (if j % 2 = 0 then .string (x.nam ((j - 6) / 2)) else .int .i64 (x.kid ((j - 6) / 2) : Int)) else .int .u8 (x.byt (j - 22))
def cellF (F : Fo) (o : Nat) : Value := if o < 2480 then cellN (F.nd (o / 62)) (o % 62) else if o < 2484 then .int .i64 (F.root (o - 2480) : Int) else .int .i64 (F.trees : Int)
/-- The code's forest F lies in block b. -/
structure FAt (w : World) (b : Nat) (F : Fo) : Prop where
  blk : ∃ C, w.heap[b]? = some (.cells C 156 (0, 0)) ∧ C.size = 2485
  cell : ∀ o, o < 2485 → w.cell? ⟨b, o, none⟩ = some (cellF F o)
section
variable {w w' : World} {b : Nat} {F F' : Fo}
theorem FAt.drewN (h : FAt w b F) (n : Nat) : FAt (w.drewN n) b F := ⟨h.blk, h.cell⟩
theorem FAt.drew (h : FAt w b F) : FAt w.drew b F := ⟨h.blk, h.cell⟩
theorem FAt.frozen (h : FAt w b F) (o : Nat) : w.frozen? ⟨b, o, none⟩ = false := by obtain ⟨C, h1, _⟩ := h.blk; exact frozen_blk h1 o
theorem FAt.lt (h : FAt w b F) : b < w.heap.size := by obtain ⟨C, h1, _⟩ := h.blk; exact (Array.getElem?_eq_some_iff.1 h1).1
theorem FAt.same (h : FAt w b F) (e : w'.heap[b]? = w.heap[b]?) : FAt w' b F := ⟨by rw [e]; exact h.blk, fun o ho => (World.cell?_of_block e).trans (h.cell o ho)⟩
theorem FAt.below (h : FAt w b F) (k : Below w.heap.size w w') : FAt w' b F := h.same (k.block b h.lt)
theorem FAt.nd (h : FAt w b F) (n j : Nat) (hn : n < 40) (hj : j < 62) : w.cell? ⟨b, n * 62 + j, none⟩ = some (cellN (F.nd n) j) := by
  rw [h.cell _ (by omega), cellF, if_pos (by omega), show (n * 62 + j) / 62 = n by omega, show (n * 62 + j) % 62 = j by omega]
theorem FAt.cKind (h : FAt w b F) (n : Nat) (hn : n < 40) : w.cell? ⟨b, n * 62, none⟩ = some (.int .i64 ((F.nd n).kind : Int)) := h.nd n 0 hn (by omega)
theorem FAt.cLinks (h : FAt w b F) (n : Nat) (hn : n < 40) : w.cell? ⟨b, n * 62 + 1, none⟩ = some (.int .i64 ((F.nd n).links : Int)) := h.nd n 1 hn (by omega)
theorem FAt.cHeld (h : FAt w b F) (n : Nat) (hn : n < 40) : w.cell? ⟨b, n * 62 + 2, none⟩ = some (.int .i64 ((F.nd n).held : Int)) := h.nd n 2 hn (by omega)
theorem FAt.cSize (h : FAt w b F) (n : Nat) (hn : n < 40) : w.cell? ⟨b, n * 62 + 3, none⟩ = some (.int .i64 ((F.nd n).size : Int)) := h.nd n 3 hn (by omega)
theorem FAt.cTree (h : FAt w b F) (n : Nat) (hn : n < 40) : w.cell? ⟨b, n * 62 + 4, none⟩ = some (.int .i64 ((F.nd n).tree : Int)) := h.nd n 4 hn (by omega)
theorem FAt.cUp (h : FAt w b F) (n : Nat) (hn : n < 40) : w.cell? ⟨b, n * 62 + 5, none⟩ = some (.int .i64 ((F.nd n).up : Int)) := h.nd n 5 hn (by omega)
theorem cellN_nam (x : Nd) (i : Nat) (hi : i < 8) : cellN x (6 + i * 2) = .string (x.nam i) := by
  unfold cellN
  rw [if_neg (by omega), if_neg (by omega), if_neg (by omega), if_neg (by omega), if_neg (by omega), if_neg (by omega), if_pos (by omega), if_pos (by omega), show (6 + i * 2 - 6) / 2 = i by omega]
theorem cellN_kid (x : Nd) (i : Nat) (hi : i < 8) : cellN x (6 + i * 2 + 1) = .int .i64 (x.kid i : Int) := by
  unfold cellN
  rw [if_neg (by omega), if_neg (by omega), if_neg (by omega), if_neg (by omega), if_neg (by omega), if_neg (by omega), if_pos (by omega), if_neg (by omega), show (6 + i * 2 + 1 - 6) / 2 = i by omega]
theorem cellN_byt (x : Nd) (i : Nat) : cellN x (22 + i) = .int .u8 (x.byt i) := by
  unfold cellN
  rw [if_neg (by omega), if_neg (by omega), if_neg (by omega), if_neg (by omega), if_neg (by omega), if_neg (by omega), if_neg (by omega), show 22 + i - 22 = i by omega]
theorem FAt.cNam (h : FAt w b F) (n i : Nat) (hn : n < 40) (hi : i < 8) : w.cell? ⟨b, n * 62 + 6 + i * 2, none⟩ = some (.string ((F.nd n).nam i)) := by
  rw [show n * 62 + 6 + i * 2 = n * 62 + (6 + i * 2) by omega, h.nd n _ hn (by omega), cellN_nam _ i hi]
theorem FAt.cKid (h : FAt w b F) (n i : Nat) (hn : n < 40) (hi : i < 8) : w.cell? ⟨b, n * 62 + 6 + i * 2 + 1, none⟩ = some (.int .i64 ((F.nd n).kid i : Int)) := by
  rw [show n * 62 + 6 + i * 2 + 1 = n * 62 + (6 + i * 2 + 1) by omega, h.nd n _ hn (by omega), cellN_kid _ i hi]
theorem FAt.cByt (h : FAt w b F) (n i : Nat) (hn : n < 40) (hi : i < 40) : w.cell? ⟨b, n * 62 + 22 + i, none⟩ = some (.int .u8 ((F.nd n).byt i)) := by
  rw [show n * 62 + 22 + i = n * 62 + (22 + i) by omega, h.nd n _ hn (by omega), cellN_byt]
theorem FAt.cRoot (h : FAt w b F) (t : Nat) (ht : t < 4) : w.cell? ⟨b, 2480 + t, none⟩ = some (.int .i64 (F.root t : Int)) := by
  rw [h.cell _ (by omega), cellF, if_neg (by omega), if_pos (by omega), show 2480 + t - 2480 = t by omega]
theorem FAt.cTrees (h : FAt w b F) : w.cell? ⟨b, 2484, none⟩ = some (.int .i64 (F.trees : Int)) := h.cell 2484 (by omega)
theorem FAt.set (h : FAt w b F) (o : Nat) (ho : o < 2485) (v : Value) (hv : ∀ i, i < 2485 → cellF F' i = if i = o then v else cellF F i) : FAt (w.setCell ⟨b, o, none⟩ v) b F' := by
  obtain ⟨C, h1, h2⟩ := h.blk
  refine ⟨⟨_, blk_set h1 _ v, by simpa using h2⟩, fun i hi => ?_⟩
  rw [hv i hi]
  by_cases e : i = o
  · subst e; rw [cell_set_same h1 _ v (by omega), if_pos rfl]
  · rw [cell_set_ne h1 _ _ v (Ne.symm e), if_neg e]; exact h.cell i hi
/-- One cell of one node is stored. -/
theorem FAt.setN (h : FAt w b F) (n j : Nat) (hn : n < 40) (hj : j < 62) (v : Value) (x : Nd) (hx : ∀ i, i < 62 → cellN x i = if i = j then v else cellN (F.nd n) i) : FAt (w.setCell ⟨b, n * 62 + j, none⟩ v) b (F.put n x) := by
  refine h.set (n * 62 + j) (by omega) v (fun o ho => ?_)
  unfold cellF
  by_cases c : o < 2480
  · rw [if_pos c, if_pos c]
    by_cases d : o / 62 = n
    · rw [d, Tr.put_same, hx (o % 62) (by omega)]
      by_cases e : o % 62 = j
      · rw [if_pos e, if_pos (by omega)]
      · rw [if_neg e, if_neg (by omega)]
    · rw [Tr.put_ne _ _ _ _ d, if_neg (by omega)]
  · rw [if_neg c, if_neg c, if_neg (show ¬ o = n * 62 + j by omega)]
    rfl
theorem FAt.congr (h : FAt w b F) (e : ∀ o, o < 2485 → cellF F' o = cellF F o) : FAt w b F' := ⟨h.blk, fun o ho => by rw [e o ho]; exact h.cell o ho⟩
end
section
variable {w : World} {b : Nat} {F : Fo}
theorem FAt.setKind (h : FAt w b F) (n v : Nat) (hn : n < 40) : FAt (w.setCell ⟨b, n * 62, none⟩ (.int .i64 (v : Int))) b (F.put n { F.nd n with kind := v }) := h.setN n 0 hn (by omega) _ _ (fun i _ => by
  by_cases c : i = 0
  · subst c; rfl
  · rw [if_neg c]; unfold cellN; rw [if_neg c, if_neg c])
theorem FAt.setLinks (h : FAt w b F) (n v : Nat) (hn : n < 40) : FAt (w.setCell ⟨b, n * 62 + 1, none⟩ (.int .i64 (v : Int))) b (F.put n { F.nd n with links := v }) := h.setN n 1 hn (by omega) _ _ (fun i _ => by
  by_cases c : i = 1
  · subst c; rfl
  · rw [if_neg c]; unfold cellN; rw [if_neg c, if_neg c])
theorem FAt.setHeld (h : FAt w b F) (n v : Nat) (hn : n < 40) : FAt (w.setCell ⟨b, n * 62 + 2, none⟩ (.int .i64 (v : Int))) b (F.put n { F.nd n with held := v }) := h.setN n 2 hn (by omega) _ _ (fun i _ => by
  by_cases c : i = 2
  · subst c; rfl
  · rw [if_neg c]; unfold cellN; rw [if_neg c, if_neg c])
theorem FAt.setSize (h : FAt w b F) (n v : Nat) (hn : n < 40) : FAt (w.setCell ⟨b, n * 62 + 3, none⟩ (.int .i64 (v : Int))) b (F.put n { F.nd n with size := v }) := h.setN n 3 hn (by omega) _ _ (fun i _ => by
  by_cases c : i = 3
  · subst c; rfl
  · rw [if_neg c]; unfold cellN; rw [if_neg c, if_neg c])
theorem FAt.setUp (h : FAt w b F) (n v : Nat) (hn : n < 40) : FAt (w.setCell ⟨b, n * 62 + 5, none⟩ (.int .i64 (v : Int))) b (F.put n { F.nd n with up := v }) := h.setN n 5 hn (by omega) _ _ (fun i _ => by
  by_cases c : i = 5
  · subst c; rfl
  · rw [if_neg c]; unfold cellN; rw [if_neg c, if_neg c])
def upA {α : Type} (f : Nat → α) (i : Nat) (v : α) : Nat → α := fun j => if j = i then v else f j
theorem upA_same {α : Type} (f : Nat → α) (i : Nat) (v : α) : upA f i v i = v := if_pos rfl
theorem upA_ne {α : Type} (f : Nat → α) (i : Nat) (v : α) (j : Nat) (h : j ≠ i) : upA f i v j = f j := if_neg h
theorem FAt.setNam (h : FAt w b F) (n i : Nat) (v : ByteArray) (hn : n < 40) (hi : i < 8) : FAt (w.setCell ⟨b, n * 62 + 6 + i * 2, none⟩ (.string v)) b (F.put n { F.nd n with nam := upA (F.nd n).nam i v }) := by
  rw [show n * 62 + 6 + i * 2 = n * 62 + (6 + i * 2) by omega]
  refine h.setN n (6 + i * 2) hn (by omega) _ _ (fun j hj => ?_)
  by_cases c : j = 6 + i * 2
  · subst c; rw [if_pos rfl, cellN_nam _ i hi]; show Value.string (upA _ i v i) = _; rw [upA_same]
  · rw [if_neg c]
    unfold cellN
    by_cases d : j < 22 ∧ 6 ≤ j ∧ j % 2 = 0
    · have e : (j - 6) / 2 ≠ i := by omega
      unfold upA
      simp only [if_neg e]
    · repeat' split
      all_goals first | rfl | omega
theorem FAt.setKid (h : FAt w b F) (n i v : Nat) (hn : n < 40) (hi : i < 8) : FAt (w.setCell ⟨b, n * 62 + 6 + i * 2 + 1, none⟩ (.int .i64 (v : Int))) b (F.put n { F.nd n with kid := upA (F.nd n).kid i v }) := by
  rw [show n * 62 + 6 + i * 2 + 1 = n * 62 + (6 + i * 2 + 1) by omega]
  refine h.setN n (6 + i * 2 + 1) hn (by omega) _ _ (fun j hj => ?_)
  by_cases c : j = 6 + i * 2 + 1
  · subst c; rw [if_pos rfl, cellN_kid _ i hi]; show Value.int .i64 ((upA _ i v i : Nat) : Int) = _; rw [upA_same]
  · rw [if_neg c]
    unfold cellN
    by_cases d : j < 22 ∧ 6 ≤ j ∧ j % 2 = 1
    · have e : (j - 6) / 2 ≠ i := by omega
      unfold upA
      simp only [if_neg e]
    · repeat' split
      all_goals first | rfl | omega
theorem FAt.setByt (h : FAt w b F) (n i : Nat) (v : Int) (hn : n < 40) (hi : i < 40) : FAt (w.setCell ⟨b, n * 62 + 22 + i, none⟩ (.int .u8 v)) b (F.put n { F.nd n with byt := upA (F.nd n).byt i v }) := by
  rw [show n * 62 + 22 + i = n * 62 + (22 + i) by omega]
  refine h.setN n (22 + i) hn (by omega) _ _ (fun j hj => ?_)
  by_cases c : j = 22 + i
  · subst c; rw [if_pos rfl, cellN_byt]; show Value.int .u8 (upA _ i v i) = _; rw [upA_same]
  · rw [if_neg c]
    unfold cellN
    by_cases d : 22 ≤ j
    · have e : j - 22 ≠ i := by omega
      unfold upA
      simp only [if_neg e]
    · repeat' split
      all_goals first | rfl | omega
theorem FAt.setRoot (h : FAt w b F) (t v : Nat) (ht : t < 4) : FAt (w.setCell ⟨b, 2480 + t, none⟩ (.int .i64 (v : Int))) b { F with root := upA F.root t v } := by
  refine h.set (2480 + t) (by omega) _ (fun o ho => ?_)
  unfold cellF
  by_cases c : o < 2480
  · rw [if_pos c, if_pos c, if_neg (by omega)]
  · rw [if_neg c, if_neg c]
    by_cases d : o < 2484
    · rw [if_pos d, if_pos d]
      unfold upA
      by_cases e : o = 2480 + t
      · rw [if_pos e]; simp [show o - 2480 = t by omega]
      · rw [if_neg e]; simp [show o - 2480 ≠ t by omega]
    · rw [if_neg d, if_neg d, if_neg (by omega)]
theorem FAt.setTrees (h : FAt w b F) (v : Nat) : FAt (w.setCell ⟨b, 2484, none⟩ (.int .i64 (v : Int))) b { F with trees := v } := by
  refine h.set 2484 (by omega) _ (fun o ho => ?_)
  unfold cellF
  by_cases c : o < 2480
  · rw [if_pos c, if_pos c, if_neg (by omega)]
  · rw [if_neg c, if_neg c]
    by_cases d : o < 2484
    · rw [if_pos d, if_pos d, if_neg (by omega)]
    · rw [if_neg d, if_neg d, if_pos (by omega)]
end
end Go.Proofs.Ytfgnhldnmbfnkab

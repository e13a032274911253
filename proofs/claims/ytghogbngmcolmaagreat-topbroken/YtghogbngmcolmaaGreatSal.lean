import Derived.Deep.CutRange
import Derived.Deep.CutBlock
import Derived.StillTailTactics
import Derived.Outline
import Derived.Shelf.Small.Bits
import Derived.Shelf.Strconv.Itoa0
import Derived.Shelf.LaysM
import Derived.Shelf.Strconv.Clone
import Derived.Shelf.Sort.Plain
import Derived.Lib.LazyBuf
import Derived.Lib.SliceRun
import Derived.Laws.BytesString
import Derived.Test.YtghogbngmcolmaaGreatSad
import Derived.Test.YtghogbngmcolmaaGreatSaa
namespace Go.Proofs.YtghogbngmcolmaaGreat
open Go.RowKit
namespace Tr
structure Nd where
  kind : Nat
  links : Nat
  held : Nat
  size : Nat
  tree : Nat
  up : Nat
  nam : Nat → ByteArray
  kid : Nat → Nat
  byt : Nat → Int
structure Fo where
  nd : Nat → Nd
  root : Nat → Nat
  trees : Nat
def Nd.no : Nd := ⟨0, 0, 0, 0, 0, 0, fun _ => ⟨#[]⟩, fun _ => 0, fun _ => 0⟩
def Fo.put (F : Fo) (n : Nat) (x : Nd) : Fo := { F with nd := fun m => if m = n then x else F.nd m }
theorem put_same (F : Fo) (n : Nat) (x : Nd) : (F.put n x).nd n = x := if_pos rfl
theorem put_ne (F : Fo) (n : Nat) (x : Nd) (m : Nat) (h : m ≠ n) : (F.put n x).nd m = F.nd m := if_neg h
def f0 : Fo := ⟨fun _ => Nd.no, fun _ => 0, 0⟩
def nodeE (F : Fo) (z : Int) : Int := if z < 0 ∨ 39 < z then 1 else if (F.nd z.toNat).kind = 0 then 2 else 0
def isE (F : Fo) (z : Int) (k : Nat) : Int := if nodeE F z ≠ 0 then nodeE F z else if (F.nd z.toNat).kind = k then 0 else 11
theorem nodeE_ok {F : Fo} {z : Int} (h : nodeE F z = 0) : ∃ n : Nat, z = n ∧ n < 40 ∧ (F.nd n).kind ≠ 0 := by
  unfold nodeE at h
  by_cases c : z < 0 ∨ 39 < z
  · rw [if_pos c] at h; omega
  · rw [if_neg c] at h
    by_cases d : (F.nd z.toNat).kind = 0
    · rw [if_pos d] at h; omega
    · exact ⟨z.toNat, by omega, by omega, d⟩
theorem isE_ok {F : Fo} {z : Int} {k : Nat} (h : isE F z k = 0) : ∃ n : Nat, z = n ∧ n < 40 ∧ (F.nd n).kind ≠ 0 ∧ (F.nd n).kind = k := by
  unfold isE at h
  by_cases c : nodeE F z = 0
  · rw [if_neg (fun d => d c)] at h
    obtain ⟨n, rfl, h1, h2⟩ := nodeE_ok c
    rw [Int.toNat_natCast] at h
    by_cases d : (F.nd n).kind = k
    · exact ⟨n, rfl, h1, h2, d⟩
    · rw [if_neg d] at h; omega
  · rw [if_pos c] at h; exact absurd h c
end Tr
open Tr (Fo Nd)
def cellN (x : Nd) (j : Nat) : Value :=
  if j = 0 then .int .i64 (x.kind : Int) else if j = 1 then .int .i64 (x.links : Int) else if j = 2 then .int .i64 (x.held : Int) else if j = 3 then .int .i64 (x.size : Int) else if j = 4 then .int .i64 (x.tree : Int) else if j = 5 then .int .i64 (x.up : Int)
  else if j < 22 then (if j % 2 = 0 then .string (x.nam ((j - 6) / 2)) else .int .i64 (x.kid ((j - 6) / 2) : Int)) else .int .u8 (x.byt (j - 22))
def cellF (F : Fo) (o : Nat) : Value := if o < 2480 then cellN (F.nd (o / 62)) (o % 62) else if o < 2484 then .int .i64 (F.root (o - 2480) : Int) else .int .i64 (F.trees : Int)
structure FAt (w : World) (b : Nat) (F : Fo) : Prop where
  blk : ∃ C, w.heap[b]? = some (.cells C 194 (0, 0)) ∧ C.size = 2485
  cell : ∀ o, o < 2485 → w.cell? ⟨b, o, none⟩ = some (cellF F o)
section
variable {w w' : World} {b : Nat} {F F' : Fo}
theorem FAt.drew (h : FAt w b F) : FAt w.drew b F := ⟨h.blk, h.cell⟩
theorem FAt.frozen (h : FAt w b F) (o : Nat) : w.frozen? ⟨b, o, none⟩ = false := by obtain ⟨C, h1, _⟩ := h.blk; exact frozen_blk h1 o
theorem FAt.lt (h : FAt w b F) : b < w.heap.size := by obtain ⟨C, h1, _⟩ := h.blk; exact (Array.getElem?_eq_some_iff.1 h1).1
theorem FAt.same (h : FAt w b F) (e : w'.heap[b]? = w.heap[b]?) : FAt w' b F := ⟨by rw [e]; exact h.blk, fun o ho => (World.cell?_of_block e).trans (h.cell o ho)⟩
theorem FAt.below (h : FAt w b F) (k : Below w.heap.size w w') : FAt w' b F := h.same (k.block b h.lt)
theorem FAt.nd (h : FAt w b F) (n j : Nat) (hn : n < 40) (hj : j < 62) : w.cell? ⟨b, n * 62 + j, none⟩ = some (cellN (F.nd n) j) := by
  rw [h.cell _ (by omega), cellF, if_pos (by omega), show (n * 62 + j) / 62 = n by omega, show (n * 62 + j) % 62 = j by omega]
theorem FAt.cKind (h : FAt w b F) (n : Nat) (hn : n < 40) : w.cell? ⟨b, n * 62, none⟩ = some (.int .i64 ((F.nd n).kind : Int)) := h.nd n 0 hn (by omega)
theorem FAt.cLinks (h : FAt w b F) (n : Nat) (hn : n < 40) : w.cell? ⟨b, n * 62 + 1, none⟩ = some (.int .i64 ((F.nd n).links : Int)) := h.nd n 1 hn (by omega)
theorem FAt.cHeld (h : FAt w b F) (n : Nat) (hn : n < 40) : w.cell? ⟨b, n * 62 + 2, none⟩ = some (.int .i64 ((F.nd n).held : Int)) := h.nd n 2 hn (by omega)
theorem FAt.cSize (h : FAt w b F) (n : Nat) (hn : n < 40) : w.cell? ⟨b, n * 62 + 3, none⟩ = some (.int .i64 ((F.nd n).size : Int)) := h.nd n 3 hn (by omega)
theorem cellN_byt (x : Nd) (i : Nat) : cellN x (22 + i) = .int .u8 (x.byt i) := by
  unfold cellN
  rw [if_neg (by omega), if_neg (by omega), if_neg (by omega), if_neg (by omega), if_neg (by omega), if_neg (by omega), if_neg (by omega), show 22 + i - 22 = i by omega]
theorem FAt.cRoot (h : FAt w b F) (t : Nat) (ht : t < 4) : w.cell? ⟨b, 2480 + t, none⟩ = some (.int .i64 (F.root t : Int)) := by
  rw [h.cell _ (by omega), cellF, if_neg (by omega), if_pos (by omega), show 2480 + t - 2480 = t by omega]
theorem FAt.cTrees (h : FAt w b F) : w.cell? ⟨b, 2484, none⟩ = some (.int .i64 (F.trees : Int)) := h.cell 2484 (by omega)
theorem FAt.set (h : FAt w b F) (o : Nat) (ho : o < 2485) (v : Value) (hv : ∀ i, i < 2485 → cellF F' i = if i = o then v else cellF F i) : FAt (w.setCell ⟨b, o, none⟩ v) b F' := by
  obtain ⟨C, h1, h2⟩ := h.blk
  refine ⟨⟨_, blk_set h1 _ v, by simpa using h2⟩, fun i hi => ?_⟩
  rw [hv i hi]
  by_cases e : i = o
  · subst e; rw [cell_set_same h1 _ v (by omega), if_pos rfl]
  · rw [cell_set_ne h1 _ _ v (Ne.symm e), if_neg e]; exact h.cell i hi
theorem FAt.setN (h : FAt w b F) (n j : Nat) (hn : n < 40) (hj : j < 62) (v : Value) (x : Nd) (hx : ∀ i, i < 62 → cellN x i = if i = j then v else cellN (F.nd n) i) : FAt (w.setCell ⟨b, n * 62 + j, none⟩ v) b (F.put n x) := by
  refine h.set (n * 62 + j) (by omega) v (fun o ho => ?_)
  unfold cellF
  by_cases c : o < 2480
  · rw [if_pos c, if_pos c]
    by_cases d : o / 62 = n
    · rw [d, Tr.put_same, hx (o % 62) (by omega)]
      by_cases e : o % 62 = j
      · rw [if_pos e, if_pos (by omega)]
      · rw [if_neg e, if_neg (by omega)]
    · rw [Tr.put_ne _ _ _ _ d, if_neg (by omega)]
  · rw [if_neg c, if_neg c, if_neg (show ¬ o = n * 62 + j by omega)]
    rfl
end
section
variable {w : World} {b : Nat} {F : Fo}
theorem FAt.setHeld (h : FAt w b F) (n v : Nat) (hn : n < 40) : FAt (w.setCell ⟨b, n * 62 + 2, none⟩ (.int .i64 (v : Int))) b (F.put n { F.nd n with held := v }) := h.setN n 2 hn (by omega) _ _ (fun i _ => by
  by_cases c : i = 2
  · subst c; rfl
  · rw [if_neg c]; unfold cellN; rw [if_neg c, if_neg c])
theorem FAt.setSize (h : FAt w b F) (n v : Nat) (hn : n < 40) : FAt (w.setCell ⟨b, n * 62 + 3, none⟩ (.int .i64 (v : Int))) b (F.put n { F.nd n with size := v }) := h.setN n 3 hn (by omega) _ _ (fun i _ => by
  by_cases c : i = 3
  · subst c; rfl
  · rw [if_neg c]; unfold cellN; rw [if_neg c, if_neg c])
def upA {α : Type} (f : Nat → α) (i : Nat) (v : α) : Nat → α := fun j => if j = i then v else f j
theorem upA_same {α : Type} (f : Nat → α) (i : Nat) (v : α) : upA f i v i = v := if_pos rfl
theorem upA_ne {α : Type} (f : Nat → α) (i : Nat) (v : α) (j : Nat) (h : j ≠ i) : upA f i v j = f j := if_neg h
theorem FAt.setRoot (h : FAt w b F) (t v : Nat) (ht : t < 4) : FAt (w.setCell ⟨b, 2480 + t, none⟩ (.int .i64 (v : Int))) b { F with root := upA F.root t v } := by
  refine h.set (2480 + t) (by omega) _ (fun o ho => ?_)
  unfold cellF
  by_cases c : o < 2480
  · rw [if_pos c, if_pos c, if_neg (by omega)]
  · rw [if_neg c, if_neg c]
    by_cases d : o < 2484
    · rw [if_pos d, if_pos d]
      unfold upA
      by_cases e : o = 2480 + t
      · rw [if_pos e]; simp [show o - 2480 = t by omega]
      · rw [if_neg e]; simp [show o - 2480 ≠ t by omega]
    · rw [if_neg d, if_neg d, if_neg (by omega)]
theorem FAt.setTrees (h : FAt w b F) (v : Nat) : FAt (w.setCell ⟨b, 2484, none⟩ (.int .i64 (v : Int))) b { F with trees := v } := by
  refine h.set 2484 (by omega) _ (fun o ho => ?_)
  unfold cellF
  by_cases c : o < 2480
  · rw [if_pos c, if_pos c, if_neg (by omega)]
  · rw [if_neg c, if_neg c]
    by_cases d : o < 2484
    · rw [if_pos d, if_pos d, if_neg (by omega)]
    · rw [if_neg d, if_neg d, if_pos (by omega)]
end
end Go.Proofs.YtghogbngmcolmaaGreat
namespace Go.Proofs.YtghogbngmcolmaaGreat
open Go.RowKit
open Tr (Fo Nd)
def ptrE (b : Nat) (z E : Int) : Value := if E = 0 then .pointer (some ⟨b, z.toNat * 62, none⟩) else .pointer none
theorem ptrE_ok (b n : Nat) : ptrE b (n : Int) 0 = .pointer (some ⟨b, n * 62, none⟩) := by unfold ptrE; rw [if_pos rfl, Int.toNat_natCast]
theorem ptrE_no {b : Nat} {z E : Int} (h : E ≠ 0) : ptrE b z E = .pointer none := if_neg h
set_option maxRecDepth 100000 in
set_option maxHeartbeats 400000 in
theorem tnode_any (b : Nat) (z : Int) (F : Fo) (w : World) (h : FAt w b F) :
    Calls Tryz.prog 150 #[.pointer (some ⟨b, 0, none⟩), .int .i64 z] w fun e w' => e = .returned (.tuple #[ptrE b z (Tr.nodeE F z), errV (Tr.nodeE F z)]) ∧ w' = w := by
  by_cases c : z < 0 ∨ 39 < z
  · have E : Hid (Tr.nodeE F z = 1) := Hid.intro (if_pos c)
    have E2 : Hid (ptrE b z 1 = .pointer none) := Hid.intro (ptrE_no (by decide))
    by_cases c1 : z < 0
    · clear c
      go_enter Tryz.func150, Tryz.ntmps150
      go_wp2_with fail
      go_ret2
      rw [E.out, E2.out]
      exact ⟨rfl, rfl⟩
    · have c2 : decide (40 ≤ z) = true := by simp; omega
      have c3 : decide (z < 0) = false := by simp; omega
      clear c
      go_enter Tryz.func150, Tryz.ntmps150
      go_wp2_with fail
      go_ret2
      rw [E.out, E2.out]
      exact ⟨rfl, rfl⟩
  · obtain ⟨n, rfl⟩ := Int.eq_ofNat_of_zero_le (show 0 ≤ z by omega)
    have n40 : n < 40 := by omega
    have nI : (n : Int) < 40 := by omega
    have c2 : decide (40 ≤ (n : Int)) = false := by simp; omega
    have c0 := h.cKind n n40
    by_cases k0 : (F.nd n).kind = 0
    · have E : Hid (Tr.nodeE F (n : Int) = 2) := Hid.intro (by unfold Tr.nodeE; rw [if_neg c, Int.toNat_natCast, if_pos k0])
      have E2 : Hid (ptrE b (n : Int) 2 = .pointer none) := Hid.intro (ptrE_no (by decide))
      rw [k0] at c0
      have c0' : w.cell? ⟨b, n * 62, none⟩ = some (.int .i64 0) := c0
      clear h c c0 k0
      go_enter Tryz.func150, Tryz.ntmps150
      go_wp2_with fail
      go_ret2
      rw [E.out, E2.out]
      exact ⟨rfl, rfl⟩
    · have E : Hid (Tr.nodeE F (n : Int) = 0) := Hid.intro (by unfold Tr.nodeE; rw [if_neg c, Int.toNat_natCast, if_neg k0])
      have E2 : Hid (ptrE b (n : Int) 0 = .pointer (some ⟨b, n * 62, none⟩)) := Hid.intro (ptrE_ok b n)
      have k0' : (((F.nd n).kind : Int) == 0) = false := by simp; omega
      generalize (F.nd n).kind = kk at *
      clear h c k0
      go_enter Tryz.func150, Tryz.ntmps150
      go_wp2_with fail
      go_ret2
      rw [E.out, E2.out]
      exact ⟨rfl, rfl⟩
set_option maxRecDepth 100000 in
set_option maxHeartbeats 400000 in
theorem tofKind_any (b : Nat) (z : Int) (k : Nat) (F : Fo) (w : World) (h : FAt w b F) :
    Calls Tryz.prog 149 #[.pointer (some ⟨b, 0, none⟩), .int .i64 z, .int .i64 (k : Int)] w fun e w' => e = .returned (.tuple #[ptrE b z (Tr.isE F z k), errV (Tr.isE F z k)]) ∧ w' = w := by
  have HF := Hid.intro h
  by_cases c : Tr.nodeE F z = 0
  · obtain ⟨n, rfl, n40, _⟩ := Tr.nodeE_ok c
    have c0 := h.cKind n n40
    have EP : Hid (Tr.nodeE F (n : Int) = 0) := Hid.intro c
    by_cases d : (F.nd n).kind = k
    · have E : Hid (Tr.isE F (n : Int) k = 0) := Hid.intro (by unfold Tr.isE; rw [if_neg (fun e => e c), Int.toNat_natCast, if_pos d])
      have E2 : Hid (ptrE b (n : Int) 0 = .pointer (some ⟨b, n * 62, none⟩)) := Hid.intro (ptrE_ok b n)
      rw [d] at c0
      clear h c d
      go_enter Tryz.func149, Tryz.ntmps149
      go_wp2_with fail
      refine (tnode_any b n F _ HF.out).mono ?_
      rintro e w1 ⟨rfl, hw⟩
      subst w1
      rw [EP.out, E2.out, errV_zero]
      go_wp2_with fail
      go_ret2
      rw [E.out, E2.out]
      exact ⟨rfl, rfl⟩
    · have E : Hid (Tr.isE F (n : Int) k = 11) := Hid.intro (by unfold Tr.isE; rw [if_neg (fun e => e c), Int.toNat_natCast, if_neg d])
      have E2 : Hid (ptrE b (n : Int) 0 = .pointer (some ⟨b, n * 62, none⟩) ∧ ptrE b (n : Int) 11 = .pointer none) := Hid.intro ⟨ptrE_ok b n, ptrE_no (by decide)⟩
      have d' : (((F.nd n).kind : Int) == (k : Int)) = false := by simp; omega
      generalize (F.nd n).kind = kk at *
      clear h c d
      go_enter Tryz.func149, Tryz.ntmps149
      go_wp2_with fail
      refine (tnode_any b n F _ HF.out).mono ?_
      rintro e w1 ⟨rfl, hw⟩
      subst w1
      rw [EP.out, E2.out.1, errV_zero]
      go_wp2_with fail
      go_ret2
      rw [E.out, E2.out.2]
      exact ⟨rfl, rfl⟩
  · have E : Hid (Tr.isE F z k = Tr.nodeE F z) := Hid.intro (if_pos c)
    have E2 : Hid (ptrE b z (Tr.nodeE F z) = .pointer none ∧ errV (Tr.nodeE F z) = .iface 60 (.int .i64 (Tr.nodeE F z))) := Hid.intro ⟨ptrE_no c, errV_ne c⟩
    clear h c
    go_enter Tryz.func149, Tryz.ntmps149
    go_wp2_with fail
    refine (tnode_any b z F _ HF.out).mono ?_
    rintro e w1 ⟨rfl, hw⟩
    subst w1
    rw [E2.out.1, E2.out.2]
    go_wp2_with fail
    go_ret2
    rw [E.out, E2.out.1, E2.out.2]
    exact ⟨rfl, rfl⟩
theorem tfile_any (b : Nat) (z : Int) (F : Fo) (w : World) (h : FAt w b F) :
    Calls Tryz.prog 130 #[.pointer (some ⟨b, 0, none⟩), .int .i64 z] w fun e w' => e = .returned (.tuple #[ptrE b z (Tr.isE F z 1), errV (Tr.isE F z 1)]) ∧ w' = w := by
  have HF := Hid.intro (tofKind_any b z 1 F w h)
  clear h
  obtain ⟨v1, hv1⟩ : ∃ v, ptrE b z (Tr.isE F z 1) = v := ⟨_, rfl⟩
  obtain ⟨v2, hv2⟩ : ∃ v, errV (Tr.isE F z 1) = v := ⟨_, rfl⟩
  rw [hv1, hv2] at HF ⊢
  clear hv1 hv2
  go_enter Tryz.func130, Tryz.ntmps130
  go_wp2_with fail
  refine HF.out.mono ?_
  rintro e w1 ⟨rfl, hw⟩
  subst w1
  go_wp2_with fail
  go_ret2
  exact ⟨rfl, rfl⟩
end Go.Proofs.YtghogbngmcolmaaGreat
namespace Go.Proofs.YtghogbngmcolmaaGreat
open Go.RowKit
open Tr (Fo Nd)
def nodeA (x : Nd) : Array Value := ((List.range 62).map (cellN x)).toArray
theorem nodeA_at (x : Nd) (i : Nat) (h : i < 62) : (nodeA x)[i]? = some (cellN x i) := by simp [nodeA, h]
theorem nodeA_size (x : Nd) : (nodeA x).size = 62 := by simp [nodeA]
theorem nodeA_len (x : Nd) : (nodeA x).toList.length = 62 := by simp [nodeA]
theorem nodeA_one (x : Nd) : (nodeA x).all (·.oneCell') = true := by
  rw [Array.all_eq_true_iff_forall_mem]
  intro v hv
  simp only [nodeA, List.mem_toArray, List.mem_map] at hv
  obtain ⟨o, _, rfl⟩ := hv
  unfold cellN
  repeat' split
  all_goals rfl
section
variable {w : World} {b : Nat} {F : Fo}
theorem theap_setCells_blk (b : Nat) : ∀ (vs : List Value) (o : Nat) (w : World) (C : Array Value) {T : TypeId}, w.heap[b]? = some (.cells C T (0, 0)) → ∃ C', (w.setCells b o vs).heap[b]? = some (.cells C' T (0, 0)) ∧ C'.size = C.size
  | [], _, _, C, _, h => ⟨C, h, rfl⟩
  | v :: r, o, w, C, _, h => by
    rw [World.setCells]
    obtain ⟨C', h1, h2⟩ := theap_setCells_blk b r (o + 1) _ _ (blk_set h o v)
    exact ⟨C', h1, by simpa using h2⟩
theorem FAt.setNode (h : FAt w b F) (n : Nat) (hn : n < 40) (x : Nd) : FAt (w.setCells b (n * 62) (nodeA x).toList) b (F.put n x) := by
  obtain ⟨C, h1, h2⟩ := h.blk
  obtain ⟨C', k1, k2⟩ := theap_setCells_blk b (nodeA x).toList (n * 62) w C h1
  refine ⟨⟨C', k1, by omega⟩, fun o ho => ?_⟩
  by_cases c : n * 62 ≤ o ∧ o < n * 62 + 62
  · obtain ⟨j, rfl, hj⟩ : ∃ j, o = n * 62 + j ∧ j < 62 := ⟨o - n * 62, by omega, by omega⟩
    rw [World.cell?_setCells_in b (nodeA x).toList (n * 62) w (fun i hi => by rw [nodeA_len] at hi; rw [h.cell _ (by omega)]; rfl) j (by rw [nodeA_len]; exact hj), ← List.getElem?_eq_getElem (by rw [nodeA_len]; exact hj), Array.getElem?_toList, nodeA_at x j hj]
    unfold cellF
    rw [if_pos (by omega), show (n * 62 + j) / 62 = n by omega, show (n * 62 + j) % 62 = j by omega, Tr.put_same]
  · rw [World.cell?_setCells_out b _ (n * 62) w ⟨b, o, none⟩ (fun _ _ => by rw [nodeA_len]; show o < _ ∨ _ ≤ o; omega), h.cell o ho]
    unfold cellF
    by_cases d : o < 2480
    · rw [if_pos d, if_pos d, Tr.put_ne _ _ _ _ (by omega)]
    · rw [if_neg d, if_neg d]; rfl
theorem FAt.there (h : FAt w b F) (n : Nat) (hn : n < 40) (x : Nd) : w.there b (n * 62) (nodeA x).size := fun j hj => by
  rw [nodeA_size] at hj
  exact ⟨by rw [h.cell _ (by omega)]; rfl, h.frozen _⟩
theorem info_node (x : Nd) : (Tryz.prog.info? 190).map (·.size) = some (nodeA x).size := by rw [nodeA_size]; kernel_rfl
end
section
variable {ops : Array Oper} {rest : List Oper} {x : Oper} {a : Act} {w : World} {Q : Exit → Act → World → Prop}
theorem wpList_build_nd0 (hgd : x.guard = none) (ho : x.op = .build 190 #[]) (h : wpList Tryz.prog ops Q rest (a.put x.dst (.agg (nodeA Nd.no))) w) : wpList Tryz.prog ops Q (x :: rest) a w :=
  wpList_plain hgd fun _ hK => by
    unfold Oper.wp execOp
    simp only [ho]
    simp [go_sem]
    exact hK _ _ h
end
def Tr.swe (F : Fo) (n : Nat) : Fo := if (F.nd n).links = 0 ∧ (F.nd n).held = 0 then F.put n Nd.no else F
theorem Tr.swe_yes {F : Fo} {n : Nat} (h : (F.nd n).links = 0 ∧ (F.nd n).held = 0) : Tr.swe F n = F.put n Nd.no := if_pos h
theorem Tr.swe_no {F : Fo} {n : Nat} (h : ¬ ((F.nd n).links = 0 ∧ (F.nd n).held = 0)) : Tr.swe F n = F := if_neg h
set_option maxRecDepth 100000 in
set_option maxHeartbeats 1000000 in
theorem tsweep_any (b n : Nat) (F : Fo) (w : World) (h : FAt w b F) (hn : n < 40) :
    Calls Tryz.prog 151 #[.pointer (some ⟨b, 0, none⟩), .int .i64 (n : Int)] w fun e w' => e = .returned (.tuple #[]) ∧ FAt w' b (Tr.swe F n) ∧ Frm b w w' := by
  have nI : (n : Int) < 40 := by omega
  have c1 := h.cLinks n hn
  have c2 := h.cHeld n hn
  by_cases l0 : (F.nd n).links = 0
  · rw [l0] at c1
    have c1' : w.cell? ⟨b, n * 62 + 1, none⟩ = some (.int .i64 0) := c1
    by_cases h0 : (F.nd n).held = 0
    · rw [h0] at c2
      have c2' : w.cell? ⟨b, n * 62 + 2, none⟩ = some (.int .i64 0) := c2
      have FIN : Hid (FAt (w.setCells b (n * 62) (nodeA Nd.no).toList) b (Tr.swe F n) ∧ Frm b w (w.setCells b (n * 62) (nodeA Nd.no).toList)) := Hid.intro ⟨by rw [Tr.swe_yes ⟨l0, h0⟩]; exact h.setNode n hn _, Frm.setCells _ _ (Frm.refl b w)⟩
      have TH := Hid.intro (h.there n hn Nd.no)
      have HS := Hid.intro (info_node Nd.no)
      have H1 := Hid.intro (nodeA_one Nd.no)
      obtain ⟨A, hA⟩ : ∃ A, nodeA Nd.no = A := ⟨_, rfl⟩
      rw [hA] at FIN TH HS H1
      clear h l0 h0 c1 c2
      go_enter Tryz.func151, Tryz.ntmps151
      go_wp2_with (first | (refine wpList_build_nd0 rfl rfl ?_; rw [hA]) | (refine wpList_store_mid rfl 190 _ _ rfl b (n * 62) A rfl rfl TH.out HS.out H1.out ?_))
      go_end0
      exact ⟨rfl, FIN.out⟩
    · have h0' : (((F.nd n).held : Int) == 0) = false := by simp; omega
      have FIN : Hid (FAt w b (Tr.swe F n)) := Hid.intro (by rw [Tr.swe_no (fun c => h0 c.2)]; exact h)
      generalize (F.nd n).held = hh at *
      clear h l0 h0 c1
      go_enter Tryz.func151, Tryz.ntmps151
      go_wp2_with fail
      go_end0
      exact ⟨rfl, FIN.out, Frm.refl _ _⟩
  · have l0' : (((F.nd n).links : Int) == 0) = false := by simp; omega
    have FIN : Hid (FAt w b (Tr.swe F n)) := Hid.intro (by rw [Tr.swe_no (fun c => l0 c.1)]; exact h)
    generalize (F.nd n).links = ll at *
    clear h l0
    go_enter Tryz.func151, Tryz.ntmps151
    go_wp2_with fail
    go_end0
    exact ⟨rfl, FIN.out, Frm.refl _ _⟩
def Tr.hol (F : Fo) (z : Int) : Fo := if Tr.nodeE F z = 0 then F.put z.toNat { F.nd z.toNat with held := (F.nd z.toNat).held + 1 } else F
set_option maxRecDepth 100000 in
set_option maxHeartbeats 1000000 in
theorem thold_any (b : Nat) (z : Int) (F : Fo) (w : World) (h : FAt w b F) (hb : ∀ n, n < 40 → (F.nd n).held < 2 ^ 60) :
    Calls Tryz.prog 135 #[.pointer (some ⟨b, 0, none⟩), .int .i64 z] w fun e w' => e = .returned (errV (Tr.nodeE F z)) ∧ FAt w' b (Tr.hol F z) ∧ Frm b w w' := by
  have HF := Hid.intro h
  by_cases c : Tr.nodeE F z = 0
  · obtain ⟨n, rfl, n40, _⟩ := Tr.nodeE_ok c
    have c0 := h.cHeld n n40
    have cf := h.frozen
    have hl := hb n n40
    have EP : Hid (Tr.nodeE F (n : Int) = 0 ∧ ptrE b (n : Int) 0 = .pointer (some ⟨b, n * 62, none⟩)) := Hid.intro ⟨c, ptrE_ok b n⟩
    have FIN : Hid (FAt (w.setCell ⟨b, n * 62 + 2, none⟩ (.int .i64 (((F.nd n).held + 1 : Nat) : Int))) b (Tr.hol F (n : Int))) := Hid.intro (by
      unfold Tr.hol
      rw [if_pos c, Int.toNat_natCast]
      exact h.setHeld n _ n40)
    generalize (F.nd n).held = hh at *
    have hw : IntKind.i64.wrap ((hh : Int) + 1) = (hh : Int) + 1 := IntWalk.i64_in _ ⟨by omega, by omega⟩
    clear h c hb
    go_enter Tryz.func135, Tryz.ntmps135
    go_wp2_with fail
    refine (tnode_any b n F _ HF.out).mono ?_
    rintro e w1 ⟨rfl, hw1⟩
    subst w1
    rw [EP.out.1, EP.out.2, errV_zero]
    go_wp2_with fail
    go_ret
    rw [EP.out.1]
    exact ⟨rfl, FIN.out, (Frm.refl b w).setCell _ _⟩
  · have E2 : Hid (ptrE b z (Tr.nodeE F z) = .pointer none ∧ errV (Tr.nodeE F z) = .iface 60 (.int .i64 (Tr.nodeE F z)) ∧ Tr.hol F z = F) := Hid.intro ⟨ptrE_no c, errV_ne c, if_neg c⟩
    clear h c hb
    go_enter Tryz.func135, Tryz.ntmps135
    go_wp2_with fail
    refine (tnode_any b z F _ HF.out).mono ?_
    rintro e w1 ⟨rfl, hw⟩
    subst w1
    rw [E2.out.1, E2.out.2.1]
    go_wp2_with fail
    go_ret
    rw [E2.out.2.1, E2.out.2.2]
    exact ⟨rfl, HF.out, Frm.refl _ _⟩
def Tr.letE (F : Fo) (z : Int) : Int := if Tr.nodeE F z = 0 then (if (F.nd z.toNat).held = 0 then 8 else 0) else Tr.nodeE F z
def Tr.letT (F : Fo) (z : Int) : Fo := if Tr.letE F z = 0 then Tr.swe (F.put z.toNat { F.nd z.toNat with held := (F.nd z.toNat).held - 1 }) z.toNat else F
set_option maxRecDepth 100000 in
set_option maxHeartbeats 1000000 in
theorem tlet_any (b : Nat) (z : Int) (F : Fo) (w : World) (h : FAt w b F) (hb : ∀ n, n < 40 → (F.nd n).held < 2 ^ 60) :
    Calls Tryz.prog 132 #[.pointer (some ⟨b, 0, none⟩), .int .i64 z] w fun e w' => e = .returned (errV (Tr.letE F z)) ∧ FAt w' b (Tr.letT F z) ∧ Frm b w w' := by
  have HF := Hid.intro h
  by_cases c : Tr.nodeE F z = 0
  · obtain ⟨n, rfl, n40, _⟩ := Tr.nodeE_ok c
    have c0 := h.cHeld n n40
    have cf := h.frozen
    have hl := hb n n40
    have EP : Hid (Tr.nodeE F (n : Int) = 0 ∧ ptrE b (n : Int) 0 = .pointer (some ⟨b, n * 62, none⟩)) := Hid.intro ⟨c, ptrE_ok b n⟩
    by_cases h0 : (F.nd n).held = 0
    · have E : Hid (Tr.letE F (n : Int) = 8 ∧ Tr.letT F (n : Int) = F) := Hid.intro (by
        have e : Tr.letE F (n : Int) = 8 := by unfold Tr.letE; rw [if_pos c, Int.toNat_natCast, if_pos h0]
        exact ⟨e, by unfold Tr.letT; rw [e]; exact if_neg (by decide)⟩)
      rw [h0] at c0
      have c0' : w.cell? ⟨b, n * 62 + 2, none⟩ = some (.int .i64 0) := c0
      clear h c hb c0 h0
      go_enter Tryz.func132, Tryz.ntmps132
      go_wp2_with fail
      refine (tnode_any b n F _ HF.out).mono ?_
      rintro e w1 ⟨rfl, hw1⟩
      subst w1
      rw [EP.out.1, EP.out.2, errV_zero]
      go_wp2_with fail
      go_ret
      rw [E.out.1, E.out.2]
      exact ⟨rfl, HF.out, Frm.refl _ _⟩
    · obtain ⟨hh, hhe⟩ : ∃ hh, (F.nd n).held = hh + 1 := ⟨(F.nd n).held - 1, by omega⟩
      have E : Hid (Tr.letE F (n : Int) = 0 ∧ Tr.letT F (n : Int) = Tr.swe (F.put n { F.nd n with held := hh }) n) := Hid.intro (by
        have e : Tr.letE F (n : Int) = 0 := by unfold Tr.letE; rw [if_pos c, Int.toNat_natCast, if_neg h0]
        exact ⟨e, by unfold Tr.letT; rw [e, if_pos rfl, Int.toNat_natCast, hhe]; rfl⟩)
      have S1 : Hid (FAt (w.setCell ⟨b, n * 62 + 2, none⟩ (.int .i64 (hh : Int))) b (F.put n { F.nd n with held := hh }) ∧ Frm b w (w.setCell ⟨b, n * 62 + 2, none⟩ (.int .i64 (hh : Int)))) := Hid.intro ⟨h.setHeld n _ n40, (Frm.refl b w).setCell _ _⟩
      rw [hhe] at c0 hl
      obtain ⟨zz, hzz⟩ : ∃ zz : Int, ((hh + 1 : Nat) : Int) = zz := ⟨_, rfl⟩
      have hw : IntKind.i64.wrap (zz - 1) = (hh : Int) := by rw [← hzz, IntWalk.i64_in _ ⟨by omega, by omega⟩]; omega
      have hz0 : (zz == 0) = false := by simp; omega
      rw [hzz] at c0
      clear h c hb h0 hhe hzz
      go_enter Tryz.func132, Tryz.ntmps132
      go_wp2_with fail
      refine (tnode_any b n F _ HF.out).mono ?_
      rintro e w1 ⟨rfl, hw1⟩
      subst w1
      rw [EP.out.1, EP.out.2, errV_zero]
      go_wp2_with fail
      refine (tsweep_any b n _ _ S1.out.1 n40).mono ?_
      rintro e w2 ⟨rfl, h2, f2⟩
      have S2 := Hid.intro (And.intro h2 (S1.out.2.trans f2))
      clear h2 f2 c0 cf
      go_wp2_with fail
      go_ret
      rw [E.out.1, E.out.2]
      exact ⟨rfl, S2.out⟩
  · have E2 : Hid (ptrE b z (Tr.nodeE F z) = .pointer none ∧ errV (Tr.nodeE F z) = .iface 60 (.int .i64 (Tr.nodeE F z)) ∧ Tr.letE F z = Tr.nodeE F z ∧ Tr.letT F z = F) := Hid.intro (by
      have e : Tr.letE F z = Tr.nodeE F z := if_neg c
      exact ⟨ptrE_no c, errV_ne c, e, by unfold Tr.letT; rw [e]; exact if_neg c⟩)
    clear h c hb
    go_enter Tryz.func132, Tryz.ntmps132
    go_wp2_with fail
    refine (tnode_any b z F _ HF.out).mono ?_
    rintro e w1 ⟨rfl, hw⟩
    subst w1
    rw [E2.out.1, E2.out.2.1]
    go_wp2_with fail
    go_ret
    rw [E2.out.2.2.1, E2.out.2.1, E2.out.2.2.2]
    exact ⟨rfl, HF.out, Frm.refl _ _⟩
def Tr.cntN (F : Fo) : Nat → Nat
  | 0 => 0
  | n + 1 => Tr.cntN F n + if (F.nd n).kind = 0 then 0 else 1
def Tr.FreeTo (F : Fo) (n : Nat) (E : Int) : Prop := (E = 0 ∧ n < 40 ∧ (F.nd n).kind = 0 ∧ ∀ m, m < n → (F.nd m).kind ≠ 0) ∨ (E = 4 ∧ n = 0 ∧ ∀ m, m < 40 → (F.nd m).kind ≠ 0)
theorem Tr.FreeTo.unique {F : Fo} {n m : Nat} {E G : Int} (h : Tr.FreeTo F n E) (k : Tr.FreeTo F m G) : n = m ∧ E = G := by
  rcases h with ⟨e1, h1, h2, h3⟩ | ⟨e1, h1, h2⟩ <;> rcases k with ⟨e2, k1, k2, k3⟩ | ⟨e2, k1, k2'⟩
  · refine ⟨?_, by omega⟩
    rcases Nat.lt_trichotomy n m with c | c | c
    · exact absurd h2 (k3 n c)
    · exact c
    · exact absurd k2 (h3 m c)
  · exact absurd h2 (k2' n h1)
  · exact absurd k2 (h2 m k1)
  · exact ⟨by omega, by omega⟩
set_option maxRecDepth 100000 in
set_option maxHeartbeats 1000000 in
theorem tfree_any (b : Nat) (F : Fo) (w : World) (h : FAt w b F) :
    Calls Tryz.prog 100 #[.pointer (some ⟨b, 0, none⟩)] w fun e w' => ∃ (n : Nat) (E : Int), e = .returned (.tuple #[.int .i64 (n : Int), errV E]) ∧ Tr.FreeTo F n E ∧ w' = w := by
  have HF := Hid.intro h
  clear h
  go_enter Tryz.func100, Tryz.ntmps100
  go_wp2_with fail
  go_loopw [4, 5] (fun x i wr => ∃ (n : Nat), i = .int .i64 n ∧ n ≤ 40 ∧ Hid (∀ m, m < n → (F.nd m).kind ≠ 0) ∧ wr = w) (fun _ i _ => 40 - (intOf i).toNat)
  case atStart => exact ⟨0, rfl, by omega, fun m hm => by omega, rfl⟩
  case round =>
    obtain ⟨n, rfl, hn, HN, hwr⟩ := hrel
    subst wr
    by_cases hlt : n < 40
    · have hltI : (n : Int) < 40 := by omega
      have c0 := HF.out.cKind n hlt
      by_cases k0 : (F.nd n).kind = 0
      · have FIN : Hid (Tr.FreeTo F n 0) := Hid.intro (.inl ⟨rfl, hlt, k0, HN.out⟩)
        rw [k0] at c0
        have c0' : w.cell? ⟨b, n * 62, none⟩ = some (.int .i64 0) := c0
        clear c0 k0
        go_wp2_with fail
        go_ret2
        exact ⟨n, 0, rfl, FIN.out, rfl⟩
      · have NX : Hid (∀ m, m < n + 1 → (F.nd m).kind ≠ 0) := Hid.intro (fun m hm => by
          by_cases e : m = n
          · subst e; exact k0
          · exact HN.out m (by omega))
        have k0' : (((F.nd n).kind : Int) == 0) = false := by simp; omega
        generalize (F.nd n).kind = kk at *
        clear k0
        go_wp2_with fail
        go_roundw
        case rel => exact ⟨n + 1, by go_num, by omega, NX, by first | rfl | trivial⟩
        case measure => simp [intOf]; omega
    · have hltI : ¬ (n : Int) < 40 := by omega
      obtain rfl : n = 40 := by omega
      go_wp2_with fail
      go_ret2
      exact ⟨0, 4, rfl, .inr ⟨rfl, rfl, HN.out⟩, rfl⟩
end Go.Proofs.YtghogbngmcolmaaGreat
namespace Go.Proofs.YtghogbngmcolmaaGreat
open Go.RowKit
open Tr (Fo Nd)
def Tr.rootE (F : Fo) (z : Int) : Int := if z < 0 ∨ 3 < z then 1 else if F.trees ≤ z.toNat then 2 else 0
def Tr.rootN (F : Fo) (z : Int) : Nat := if Tr.rootE F z = 0 then F.root z.toNat else 0
set_option maxRecDepth 100000 in
set_option maxHeartbeats 1000000 in
theorem troot_any (b : Nat) (z : Int) (F : Fo) (w : World) (h : FAt w b F) :
    Calls Tryz.prog 134 #[.pointer (some ⟨b, 0, none⟩), .int .i64 z] w fun e w' => e = .returned (.tuple #[.int .i64 (Tr.rootN F z : Int), errV (Tr.rootE F z)]) ∧ w' = w := by
  by_cases c : z < 0 ∨ 3 < z
  · have E : Hid (Tr.rootE F z = 1 ∧ Tr.rootN F z = 0) := Hid.intro (by
      have e : Tr.rootE F z = 1 := if_pos c
      exact ⟨e, by unfold Tr.rootN; rw [e]; exact if_neg (by decide)⟩)
    by_cases c1 : z < 0
    · clear c
      go_enter Tryz.func134, Tryz.ntmps134
      go_wp2_with fail
      go_ret2
      rw [E.out.1, E.out.2]
      exact ⟨rfl, rfl⟩
    · have c2 : decide (4 ≤ z) = true := by simp; omega
      have c3 : decide (z < 0) = false := by simp; omega
      clear c
      go_enter Tryz.func134, Tryz.ntmps134
      go_wp2_with fail
      go_ret2
      rw [E.out.1, E.out.2]
      exact ⟨rfl, rfl⟩
  · obtain ⟨n, rfl⟩ := Int.eq_ofNat_of_zero_le (show 0 ≤ z by omega)
    have n4 : n < 4 := by omega
    have nI : (n : Int) < 4 := by omega
    have c2 : decide (4 ≤ (n : Int)) = false := by simp; omega
    have c0 := h.cRoot n n4
    have c1 := h.cTrees
    by_cases k0 : F.trees ≤ n
    · have E : Hid (Tr.rootE F (n : Int) = 2 ∧ Tr.rootN F (n : Int) = 0) := Hid.intro (by
        have e : Tr.rootE F (n : Int) = 2 := by unfold Tr.rootE; rw [if_neg c, Int.toNat_natCast, if_pos k0]
        exact ⟨e, by unfold Tr.rootN; rw [e]; exact if_neg (by decide)⟩)
      have k1 : (F.trees : Int) ≤ (n : Int) := by omega
      generalize F.trees = tt at *
      clear h c k0
      go_enter Tryz.func134, Tryz.ntmps134
      go_wp2_with fail
      go_ret2
      rw [E.out.1, E.out.2]
      exact ⟨rfl, rfl⟩
    · have E : Hid (Tr.rootE F (n : Int) = 0 ∧ Tr.rootN F (n : Int) = F.root n) := Hid.intro (by
        have e : Tr.rootE F (n : Int) = 0 := by unfold Tr.rootE; rw [if_neg c, Int.toNat_natCast, if_neg k0]
        exact ⟨e, by unfold Tr.rootN; rw [e, if_pos rfl, Int.toNat_natCast]⟩)
      have k1 : ¬ (F.trees : Int) ≤ (n : Int) := by omega
      generalize F.trees = tt at *
      generalize F.root n = rr at *
      clear h c k0
      go_enter Tryz.func134, Tryz.ntmps134
      go_wp2_with fail
      go_ret2
      rw [E.out.1, E.out.2]
      exact ⟨rfl, rfl⟩
def Tr.PlcTo (x : Nd) (s : ByteArray) (z : Int) : Prop := (∃ i : Nat, z = i ∧ i < x.size ∧ (x.nam i).toList = s.toList ∧ ∀ j, j < i → (x.nam j).toList ≠ s.toList) ∨ (z = -1 ∧ ∀ j, j < x.size → (x.nam j).toList ≠ s.toList)
end Go.Proofs.YtghogbngmcolmaaGreat
namespace Go.Proofs.YtghogbngmcolmaaGreat
open Go.RowKit
open Tr (Fo Nd)
def Tr.SzOk (F : Fo) : Prop := ∀ n, n < 40 → (F.nd n).kind = 2 → (F.nd n).size ≤ 8
theorem Tr.PlcTo.cases {x : Nd} {s : ByteArray} {z : Int} (h : Tr.PlcTo x s z) : (∃ i : Nat, z = i ∧ i < x.size) ∨ z = -1 := by
  rcases h with ⟨i, rfl, h1, _⟩ | ⟨rfl, _⟩
  · exact .inl ⟨i, rfl, h1⟩
  · exact .inr rfl
def Tr.okB (c : Nat) : Bool := (decide (97 ≤ c) && decide (c ≤ 122)) || (decide (48 ≤ c) && decide (c ≤ 57)) || decide (c = 46)
def Tr.allOk (s : ByteArray) : Nat → Bool
  | 0 => true
  | n + 1 => Tr.allOk s n && Tr.okB (s[n]!).toNat
def Tr.nameB (s : ByteArray) : Bool := decide (1 ≤ s.size) && decide (s.size ≤ 8) && !(s.toList == [46]) && !(s.toList == [46, 46]) && Tr.allOk s s.size
end Go.Proofs.YtghogbngmcolmaaGreat
namespace Go.Proofs.YtghogbngmcolmaaGreat
open Go.RowKit
open Tr (Fo Nd)
theorem Tr.put_put (F : Fo) (n : Nat) (x y : Nd) : (F.put n x).put n y = F.put n y := by
  unfold Fo.put
  congr 1
  funext m
  by_cases c : m = n
  · rw [if_pos c, if_pos c]
  · rw [if_neg c, if_neg c]; exact if_neg c
section
variable {ops : Array Oper} {rest : List Oper} {x : Oper} {a : Act} {w : World} {Q : Exit → Act → World → Prop}
def newN (kd tr up : Nat) : Nd := { Nd.no with kind := kd, links := 1, tree := tr, up := up }
theorem wpList_build_nd3 (hgd : x.guard = none) (y0 y1 y2 : Operand) (kd tr up : Nat) (ho : x.op = .build 190 #[(0, y0), (1, y1), (2, y2)]) (h0 : a.eval y0 = .agg #[.int .i64 (kd : Int), .int .i64 1, .int .i64 0, .int .i64 0]) (h1 : a.eval y1 = .int .i64 (tr : Int)) (h2 : a.eval y2 = .int .i64 (up : Int)) (h : wpList Tryz.prog ops Q rest (a.put x.dst (.agg (nodeA (newN kd tr up)))) w) : wpList Tryz.prog ops Q (x :: rest) a w :=
  wpList_plain hgd fun _ hK => by
    unfold Oper.wp execOp
    simp only [ho, List.map_toArray, List.map_cons, List.map_nil, h0, h1, h2]
    simp [go_sem]
    exact hK _ _ h
end
def Tr.plaF (F : Fo) (n : Nat) : Fo := { F.put n (newN 2 F.trees n) with root := upA F.root F.trees n, trees := F.trees + 1 }
def Tr.PlaTo (F : Fo) (T : Nat) (E : Int) (G : Fo) : Prop := (F.trees = 4 ∧ T = 0 ∧ E = 4 ∧ G = F) ∨ (F.trees ≠ 4 ∧ ∃ n e, Tr.FreeTo F n e ∧ ((e ≠ 0 ∧ T = 0 ∧ E = e ∧ G = F) ∨ (e = 0 ∧ T = F.trees ∧ E = 0 ∧ G = Tr.plaF F n)))
set_option maxRecDepth 100000 in
set_option maxHeartbeats 2000000 in
theorem tplant_any (b : Nat) (F : Fo) (w : World) (h : FAt w b F) (ht : F.trees ≤ 4) :
    Calls Tryz.prog 58 #[.pointer (some ⟨b, 0, none⟩)] w fun e w' => ∃ (T : Nat) (E : Int) (G : Fo), e = .returned (.tuple #[.int .i64 (T : Int), errV E]) ∧ Tr.PlaTo F T E G ∧ FAt w' b G ∧ Frm b w w' := by
  have HF := Hid.intro h
  have c0 := h.cTrees
  by_cases t4 : F.trees = 4
  · have FIN : Hid (Tr.PlaTo F 0 4 F) := Hid.intro (.inl ⟨t4, rfl, rfl, rfl⟩)
    rw [t4] at c0
    have c0' : w.cell? ⟨b, 2484, none⟩ = some (.int .i64 4) := c0
    clear h t4 c0 ht
    go_enter Tryz.func58, Tryz.ntmps58
    go_wp2_with fail
    go_ret2
    exact ⟨0, 4, F, rfl, FIN.out, HF.out, Frm.refl _ _⟩
  · have HT4 := Hid.intro t4
    obtain ⟨tt, htt⟩ : ∃ tt, F.trees = tt := ⟨_, rfl⟩
    have HTT := Hid.intro htt
    rw [htt] at c0
    have tI : (tt : Int) < 4 := by omega
    have t4' : ((tt : Int) == 4) = false := by simp; omega
    have hw : IntKind.i64.wrap ((tt : Int) + 1) = (tt : Int) + 1 := IntWalk.i64_in _ ⟨by omega, by omega⟩
    have tN : tt < 4 := by omega
    clear h t4 htt ht
    go_enter Tryz.func58, Tryz.ntmps58
    go_wp2_with fail
    refine (tfree_any b F _ HF.out).mono ?_
    rintro e w1 ⟨n, E, rfl, hf, hw1⟩
    subst w1
    have HFR := Hid.intro hf
    by_cases e0 : E = 0
    · subst e0
      have n40 : n < 40 := by
        rcases hf with ⟨_, h1, _⟩ | ⟨h1, _⟩
        · exact h1
        · omega
      have nI : (n : Int) < 40 := by omega
      have TH := Hid.intro (HF.out.there n n40 (newN 2 tt n))
      have HS := Hid.intro (info_node (newN 2 tt n))
      have H1 := Hid.intro (nodeA_one (newN 2 tt n))
      have S1 : Hid (FAt (w.setCells b (n * 62) (nodeA (newN 2 tt n)).toList) b (F.put n (newN 2 tt n)) ∧ Frm b w (w.setCells b (n * 62) (nodeA (newN 2 tt n)).toList)) := Hid.intro ⟨HF.out.setNode n n40 _, Frm.setCells _ _ (Frm.refl b w)⟩
      obtain ⟨A, hA⟩ : ∃ A, nodeA (newN 2 tt n) = A := ⟨_, rfl⟩
      rw [hA] at TH HS H1 S1
      rw [errV_zero]
      clear hf
      go_upto_region 8 with (first | (refine wpList_build_nd3 rfl _ _ _ 2 tt n rfl rfl rfl rfl ?_; rw [hA]) | (refine wpList_store_mid rfl 190 _ _ rfl b (n * 62) A rfl rfl TH.out HS.out H1.out ?_))
      refine wp_gen (fun W => FAt W b (F.put n (newN 2 tt n)) ∧ Frm b w W) S1.out ?_
      intro W2 h2
      have S2 := Hid.intro h2
      have c2 := h2.1.cTrees
      have c3 := h2.1.cRoot tt tN
      have cf := h2.1.frozen
      rw [show (F.put n (newN 2 tt n)).trees = tt from HTT.out] at c2
      generalize (F.put n (newN 2 tt n)).root tt = rr at *
      have S3 : Hid (FAt ((W2.setCell ⟨b, 2480 + tt, none⟩ (.int .i64 (n : Int))).setCell ⟨b, 2484, none⟩ (.int .i64 ((tt : Int) + 1))) b (Tr.plaF F n) ∧ Frm b w ((W2.setCell ⟨b, 2480 + tt, none⟩ (.int .i64 (n : Int))).setCell ⟨b, 2484, none⟩ (.int .i64 ((tt : Int) + 1)))) := Hid.intro (by
        have a := (h2.1.setRoot tt n tN).setTrees (tt + 1)
        refine ⟨?_, (h2.2.setCell _ _).setCell _ _⟩
        unfold Tr.plaF
        rw [HTT.out]
        exact a)
      clear h2 S1 TH HS H1 hA c0
      go_wp2_with fail
      go_ret2
      exact ⟨tt, 0, _, rfl, .inr ⟨HT4.out, n, 0, HFR.out, .inr ⟨rfl, HTT.out.symm, rfl, rfl⟩⟩, S3.out⟩
    · have E2 : Hid (errV E = .iface 60 (.int .i64 E) ∧ E ≠ 0) := Hid.intro ⟨errV_ne e0, e0⟩
      rw [E2.out.1]
      clear hf e0
      go_wp2_with fail
      go_ret2
      exact ⟨0, E, F, by rw [E2.out.1]; rfl, .inr ⟨HT4.out, n, E, HFR.out, .inl ⟨E2.out.2, rfl, rfl, rfl⟩⟩, HF.out, Frm.refl _ _⟩
end Go.Proofs.YtghogbngmcolmaaGreat
namespace Go.Proofs.YtghogbngmcolmaaGreat
open Go.RowKit
open Tr (Fo Nd)
def fA (F : Fo) : Array Value := ((List.range 2485).map (cellF F)).toArray
theorem fA_at (F : Fo) (i : Nat) (h : i < 2485) : (fA F)[i]? = some (cellF F i) := by simp [fA, h]
theorem fz_eq : Tryz.zeroCells194 = fA Tr.f0 := by kernel_rfl
set_option maxRecDepth 100000 in
set_option maxHeartbeats 1000000 in
theorem tnew_any (w : World) : Calls Tryz.prog 56 #[] w fun e w' => e = .returned (.pointer (some ⟨w.heap.size, 0, none⟩)) ∧ FAt w' w.heap.size Tr.f0 ∧ Below w.heap.size w w' := by
  have FIN : Hid (FAt (w.alloc (.cells Tryz.zeroCells194 194)) w.heap.size Tr.f0) := Hid.intro (by
    have h := heap_alloc_new w (.cells Tryz.zeroCells194 194)
    have h2 : (w.alloc (.cells Tryz.zeroCells194 194)).heap[w.heap.size]? = some (.cells (fA Tr.f0) 194 (0, 0)) := by rw [← fz_eq]; exact h
    exact ⟨⟨_, h2, by simp [fA]⟩, fun o ho => by rw [cell_blk h2, fA_at _ o ho]⟩)
  go_enter Tryz.func56, Tryz.ntmps56
  go_wp2_with fail
  go_ret
  exact ⟨rfl, FIN.out, (Below.refl _ _).alloc (Nat.le_refl _) _⟩
end Go.Proofs.YtghogbngmcolmaaGreat
namespace Go.Proofs.YtghogbngmcolmaaGreat
open Go.RowKit
open Tr (Fo Nd)
def Tr.EndsF (F : Fo) : Nat → Nat → Prop
  | 0, n => n < 40 ∧ (F.nd n).up = n
  | m + 1, n => n < 40 ∧ ((F.nd n).up = n ∨ Tr.EndsF F m (F.nd n).up)
def Tr.belB (F : Fo) (o : Nat) : Nat → Nat → Bool
  | 0, n => n == o
  | m + 1, n => n == o || (!((F.nd n).up == n) && Tr.belB F o m (F.nd n).up)
def Tr.farF (F : Fo) : Nat → Nat → Nat
  | 0, _ => 0
  | m + 1, n => if (F.nd n).up = n then 0 else 1 + Tr.farF F m (F.nd n).up
theorem Tr.EndsF.more {F : Fo} : ∀ {m n : Nat}, Tr.EndsF F m n → Tr.EndsF F (m + 1) n ∧ Tr.farF F (m + 1) n = Tr.farF F m n ∧ ∀ o, Tr.belB F o (m + 1) n = Tr.belB F o m n
  | 0, n, h => ⟨⟨h.1, .inl h.2⟩, if_pos h.2, fun o => by
      show (n == o || (!((F.nd n).up == n) && _)) = (n == o)
      rw [h.2]; simp⟩
  | m + 1, n, ⟨h1, h2⟩ => by
      by_cases c : (F.nd n).up = n
      · refine ⟨⟨h1, .inl c⟩, ?_, fun o => ?_⟩
        · unfold Tr.farF; rw [if_pos c, if_pos c]
        · unfold Tr.belB; simp [c]
      · rcases h2 with h2 | h2
        · exact absurd h2 c
        · obtain ⟨a1, a2, a3⟩ := Tr.EndsF.more h2
          refine ⟨⟨h1, .inr a1⟩, ?_, fun o => ?_⟩
          · show (if _ then 0 else 1 + Tr.farF F (m + 1) _) = (if _ then 0 else 1 + Tr.farF F m _)
            rw [a2]
          · show (n == o || (!((F.nd n).up == n) && Tr.belB F o (m + 1) (F.nd n).up)) = (n == o || (!((F.nd n).up == n) && Tr.belB F o m (F.nd n).up))
            rw [a3]
theorem Tr.belB_same (F : Fo) (m n : Nat) : Tr.belB F n m n = true := by cases m <;> simp [Tr.belB]
end Go.Proofs.YtghogbngmcolmaaGreat
namespace Go.Proofs.YtghogbngmcolmaaGreat
open Go.RowKit
open Tr (Fo Nd)
end Go.Proofs.YtghogbngmcolmaaGreat
namespace Go.Proofs.YtghogbngmcolmaaGreat
open Go.RowKit
open Tr (Fo Nd)
def Tr.wrB (f : Nat → Int) (a : Nat) (L : List Int) : Nat → Int := fun j => if j < a then f j else (L[j - a]?).getD (f j)
def Tr.byI (s : ByteArray) : List Int := s.data.toList.map fun x => (x.toNat : Int)
theorem Tr.byI_len (s : ByteArray) : (Tr.byI s).length = s.size := by simp [Tr.byI]
theorem Tr.byI_map (s : ByteArray) : (s.data.toList.map fun x => Value.int .u8 (x.toNat : Int)) = (Tr.byI s).map (Value.int .u8) := by simp [Tr.byI, Function.comp_def]
theorem FAt.setBytes {w : World} {b : Nat} {F : Fo} (h : FAt w b F) (n a : Nat) (L : List Int) (hL : a + L.length ≤ 40) : FAt (w.setCells b (n * 62 + 22 + a) (L.map (Value.int .u8))) b (F.put n { F.nd n with byt := Tr.wrB (F.nd n).byt a L }) := by
  obtain ⟨C, h1, h2⟩ := h.blk
  obtain ⟨C', k1, k2⟩ := theap_setCells_blk b (L.map (Value.int .u8)) (n * 62 + 22 + a) w C h1
  have hlen : (L.map (Value.int .u8)).length = L.length := by simp
  refine ⟨⟨C', k1, by omega⟩, fun o ho => ?_⟩
  by_cases c : n * 62 + 22 + a ≤ o ∧ o < n * 62 + 22 + a + L.length
  · obtain ⟨j, rfl, hj⟩ : ∃ j, o = n * 62 + 22 + a + j ∧ j < L.length := ⟨o - (n * 62 + 22 + a), by omega, by omega⟩
    rw [World.cell?_setCells_in b (L.map (Value.int .u8)) (n * 62 + 22 + a) w (fun i hi => by rw [hlen] at hi; rw [h.cell _ (by omega)]; rfl) j (by rw [hlen]; exact hj)]
    unfold cellF
    rw [if_pos (by omega), show (n * 62 + 22 + a + j) / 62 = n by omega, show (n * 62 + 22 + a + j) % 62 = 22 + (a + j) by omega, Tr.put_same, cellN_byt]
    show _ = some (Value.int .u8 (Tr.wrB (F.nd n).byt a L (a + j)))
    unfold Tr.wrB
    rw [if_neg (by omega), show a + j - a = j by omega, List.getElem?_eq_getElem hj, Option.getD_some, List.getElem_map]
  · rw [World.cell?_setCells_out b _ (n * 62 + 22 + a) w ⟨b, o, none⟩ (fun _ _ => by rw [hlen]; show o < _ ∨ _ ≤ o; omega), h.cell o ho]
    unfold cellF
    by_cases d : o < 2480
    · rw [if_pos d, if_pos d]
      by_cases e : o / 62 = n
      · rw [e, Tr.put_same]
        by_cases g : o % 62 < 22
        · unfold cellN; repeat' split
          all_goals first | rfl | omega
        · rw [show o % 62 = 22 + (o % 62 - 22) by omega, cellN_byt, cellN_byt]
          show _ = some (Value.int .u8 (Tr.wrB (F.nd n).byt a L (o % 62 - 22)))
          unfold Tr.wrB
          by_cases i : o % 62 - 22 < a
          · rw [if_pos i]
          · rw [if_neg i, List.getElem?_eq_none (by omega), Option.getD_none]
      · rw [Tr.put_ne _ _ _ _ e]
    · rw [if_neg d, if_neg d]; rfl
section
variable {ops : Array Oper} {rest : List Oper} {x : Oper} {a : Act} {w : World} {Q : Exit → Act → World → Prop}
theorem wpList_copy_str (hgd : x.guard = none) (d y : Operand) (dT sT : TypeId) (hop : x.op = Op.call { callee := Callee.builtin Builtin.copy, args := #[d, y], argTypes := #[dT, sT] })
    (elem : TypeId) (hu : Tryz.prog.underlying dT = some (.slice elem)) (hz : ∀ w, (Go.sizeOf elem).run Tryz.prog w = .ok 1 w)
    (b off dLen dCap : Nat) (hd : a.eval d = .slice (some ⟨b, off, none⟩) dLen dCap) (t : ByteArray) (hx : a.eval y = .string t) (hle : t.size ≤ dLen)
    (hc : ∀ j, j < t.size → (w.cell? ⟨b, off + j, none⟩).isSome = true) (hf : ∀ j, j < t.size → w.frozen? ⟨b, off + j, none⟩ = false)
    (h : wpList Tryz.prog ops Q rest (a.put x.dst (goInt t.size)) (w.setCells b off ((Tr.byI t).map (Value.int .u8)))) : wpList Tryz.prog ops Q (x :: rest) a w :=
  wpList_plain hgd fun _ hK => by
    have hrun := run_copy_string (P := Tryz.prog) w dT sT x.type elem b off dLen dCap t hu hz hle hc hf
    rw [Tr.byI_map] at hrun
    unfold Oper.wp
    simp [execOp, hop, resolve, invoke, builtin, hd, hx, hrun, Result.andThen]
    exact hK _ _ h
end
def Tr.wriE (F : Fo) (z a : Int) (s : ByteArray) : Int := if Tr.isE F z 1 ≠ 0 then Tr.isE F z 1 else if a < 0 then 1 else if 40 - (s.size : Int) < a then 4 else 0
def Tr.wriN (x : Nd) (a : Nat) (s : ByteArray) : Nd := { x with byt := Tr.wrB x.byt a (Tr.byI s), size := max x.size (a + s.size) }
def Tr.wriF (F : Fo) (z a : Int) (s : ByteArray) : Fo := if Tr.wriE F z a s = 0 ∧ s.size ≠ 0 then F.put z.toNat (Tr.wriN (F.nd z.toNat) a.toNat s) else F
set_option maxRecDepth 100000 in
set_option maxHeartbeats 2000000 in
theorem twrite_any (b : Nat) (z a : Int) (s : ByteArray) (F : Fo) (w : World) (h : FAt w b F) (hs : s.size < 2 ^ 60) :
    Calls Tryz.prog 87 #[.pointer (some ⟨b, 0, none⟩), .int .i64 z, .int .i64 a, .string s] w fun e w' => e = .returned (errV (Tr.wriE F z a s)) ∧ FAt w' b (Tr.wriF F z a s) ∧ Frm b w w' := by
  have HF := Hid.intro h
  by_cases c : Tr.isE F z 1 = 0
  · obtain ⟨n, rfl, n40, _, k1⟩ := Tr.isE_ok c
    have EP : Hid (Tr.isE F (n : Int) 1 = 0 ∧ ptrE b (n : Int) 0 = .pointer (some ⟨b, n * 62, none⟩)) := Hid.intro ⟨c, ptrE_ok b n⟩
    have EW : Tr.wriE F (n : Int) a s = if a < 0 then 1 else if 40 - (s.size : Int) < a then 4 else 0 := by unfold Tr.wriE; rw [if_neg (fun d => d c)]
    have hw : IntKind.i64.wrap (40 - (s.size : Int)) = 40 - (s.size : Int) := IntWalk.i64_in _ ⟨by omega, by omega⟩
    by_cases a0 : a < 0
    · have FIN : Hid (Tr.wriE F (n : Int) a s = 1 ∧ Tr.wriF F (n : Int) a s = F) := Hid.intro (by
        have e : Tr.wriE F (n : Int) a s = 1 := by rw [EW, if_pos a0]
        exact ⟨e, by unfold Tr.wriF; rw [e, if_neg (by omega)]⟩)
      clear h c k1 EW hs
      go_enter Tryz.func87, Tryz.ntmps87
      go_wp2_with fail
      refine (tfile_any b n F _ HF.out).mono ?_
      rintro e w1 ⟨rfl, hw1⟩
      subst w1
      rw [EP.out.1, EP.out.2, errV_zero]
      go_wp2_with fail
      go_ret
      rw [FIN.out.1, FIN.out.2]
      exact ⟨rfl, HF.out, Frm.refl _ _⟩
    · by_cases a4 : 40 - (s.size : Int) < a
      · have FIN : Hid (Tr.wriE F (n : Int) a s = 4 ∧ Tr.wriF F (n : Int) a s = F) := Hid.intro (by
          have e : Tr.wriE F (n : Int) a s = 4 := by rw [EW, if_neg a0, if_pos a4]
          exact ⟨e, by unfold Tr.wriF; rw [e, if_neg (by omega)]⟩)
        clear h c k1 EW hs
        go_enter Tryz.func87, Tryz.ntmps87
        go_wp2_with fail
        refine (tfile_any b n F _ HF.out).mono ?_
        rintro e w1 ⟨rfl, hw1⟩
        subst w1
        rw [EP.out.1, EP.out.2, errV_zero]
        go_wp2_with fail
        go_ret
        rw [FIN.out.1, FIN.out.2]
        exact ⟨rfl, HF.out, Frm.refl _ _⟩
      · have EZ : Tr.wriE F (n : Int) a s = 0 := by rw [EW, if_neg a0, if_neg a4]
        by_cases s0 : s.size = 0
        · have FIN : Hid (Tr.wriE F (n : Int) a s = 0 ∧ Tr.wriF F (n : Int) a s = F) := Hid.intro ⟨EZ, by unfold Tr.wriF; rw [if_neg (by omega)]⟩
          have sl : (s.toList == []) = true := by
            obtain rfl : s = ⟨#[]⟩ := by
              apply ByteArray.ext
              exact Array.eq_empty_of_size_eq_zero s0
            rw [ByteArray.toList_eq]; rfl
          clear h c k1 EW hs EZ s0
          go_enter Tryz.func87, Tryz.ntmps87
          go_wp2_with fail
          refine (tfile_any b n F _ HF.out).mono ?_
          rintro e w1 ⟨rfl, hw1⟩
          subst w1
          rw [EP.out.1, EP.out.2, errV_zero]
          go_wp2_with fail
          go_ret
          rw [FIN.out.1, FIN.out.2]
          exact ⟨rfl, HF.out, Frm.refl _ _⟩
        · obtain ⟨m, rfl⟩ : ∃ m : Nat, a = m := ⟨a.toNat, by omega⟩
          have EF : Hid (Tr.wriE F (n : Int) (m : Int) s = 0 ∧ Tr.wriF F (n : Int) (m : Int) s = F.put n (Tr.wriN (F.nd n) m s)) := Hid.intro ⟨EZ, by unfold Tr.wriF; rw [if_pos ⟨EZ, s0⟩, Int.toNat_natCast, Int.toNat_natCast]⟩
          have hm : m + s.size ≤ 40 := by omega
          have m40 : (m : Int) < 40 := by omega
          have m40b : (m : Int) ≤ 40 := by omega
          have mlt : m < 40 := by omega
          have mn0 : ¬ m = 40 := by omega
          have mn1 : ¬ 40 - m = 0 := by omega
          have mn2 : ¬ (m : Int) = 40 := by omega
          have sl : (s.toList == []) = false := by
            rw [beq_eq_false_iff_ne]
            intro e
            rw [ByteArray.toList_eq] at e
            apply s0
            show s.data.size = 0
            rw [← Array.length_toList, e]
            rfl
          have ad : IntKind.i64.wrap ((m : Int) + (s.size : Int)) = ((m + s.size : Nat) : Int) := (IntWalk.i64_in _ ⟨by omega, by omega⟩).trans (by omega)
          have CC : Hid (∀ j, j < s.size → (w.cell? ⟨b, n * 62 + 22 + m + j, none⟩).isSome = true) := Hid.intro (fun j hj => by rw [h.cell _ (by omega)]; rfl)
          have CF : Hid (∀ j, j < s.size → w.frozen? ⟨b, n * 62 + 22 + m + j, none⟩ = false) := Hid.intro (fun j _ => h.frozen _)
          have S1 : Hid (FAt (w.setCells b (n * 62 + 22 + m) ((Tr.byI s).map (Value.int .u8))) b (F.put n { F.nd n with byt := Tr.wrB (F.nd n).byt m (Tr.byI s) }) ∧ Frm b w (w.setCells b (n * 62 + 22 + m) ((Tr.byI s).map (Value.int .u8)))) := Hid.intro ⟨h.setBytes n m _ (by rw [Tr.byI_len]; exact hm), Frm.setCells _ _ (Frm.refl b w)⟩
          have hsm : s.size ≤ 40 - m := by omega
          have hcz : ∀ w, (Go.sizeOf 5).run Tryz.prog w = .ok 1 w := fun w => by rfl
          clear h c k1 EW hs EZ s0
          obtain ⟨L, hL⟩ : ∃ L, (Tr.byI s).map (Value.int .u8) = L := ⟨_, rfl⟩
          rw [hL] at S1
          go_enter Tryz.func87, Tryz.ntmps87
          go_wp2_with fail
          refine (tfile_any b n F _ HF.out).mono ?_
          rintro e w1 ⟨rfl, hw1⟩
          subst w1
          rw [EP.out.1, EP.out.2, errV_zero]
          go_upto_region 11 with (refine wpList_copy_str rfl _ _ _ _ rfl 5 (by kernel_rfl) hcz b (n * 62 + 22 + m) (40 - m) (40 - m) rfl s rfl hsm CC.out CF.out ?_; rw [hL])
          refine wp_gen (fun W => FAt W b (F.put n { F.nd n with byt := Tr.wrB (F.nd n).byt m (Tr.byI s) }) ∧ Frm b w W) S1.out ?_
          intro W2 h2
          have S2 := Hid.intro h2
          clear h2 S1 CC CF hL
          have c3 := S2.out.1.cSize n n40
          rw [Tr.put_same] at c3
          have cf := S2.out.1.frozen
          obtain ⟨sz, hsz⟩ : ∃ sz, (F.nd n).size = sz := ⟨_, rfl⟩
          have c3' : W2.cell? ⟨b, n * 62 + 3, none⟩ = some (.int .i64 (sz : Int)) := by rw [c3, ← hsz]
          have FIN : Hid (FAt (W2.setCell ⟨b, n * 62 + 3, none⟩ (.int .i64 (max (sz : Int) ((m : Int) + (s.size : Int))))) b (F.put n (Tr.wriN (F.nd n) m s)) ∧ Frm b w (W2.setCell ⟨b, n * 62 + 3, none⟩ (.int .i64 (max (sz : Int) ((m : Int) + (s.size : Int)))))) := Hid.intro (by
            have q := S2.out.1.setSize n (max sz (m + s.size)) n40
            rw [Tr.put_same, Tr.put_put] at q
            unfold Tr.wriN
            rw [hsz]
            rw [show (max (sz : Int) ((m : Int) + (s.size : Int))) = ((max sz (m + s.size) : Nat) : Int) by omega]
            exact ⟨q, S2.out.2.setCell _ _⟩)
          clear c3 hsz
          go_wp2_with fail
          go_ret
          rw [EF.out.1, EF.out.2]
          exact ⟨rfl, FIN.out⟩
  · have E2 : Hid (ptrE b z (Tr.isE F z 1) = .pointer none ∧ errV (Tr.isE F z 1) = .iface 60 (.int .i64 (Tr.isE F z 1)) ∧ Tr.wriE F z a s = Tr.isE F z 1 ∧ Tr.wriF F z a s = F) := Hid.intro (by
      have e : Tr.wriE F z a s = Tr.isE F z 1 := if_pos c
      exact ⟨ptrE_no c, errV_ne c, e, by unfold Tr.wriF; rw [e, if_neg (fun d => c d.1)]⟩)
    clear h c hs
    go_enter Tryz.func87, Tryz.ntmps87
    go_wp2_with fail
    refine (tfile_any b z F _ HF.out).mono ?_
    rintro e w1 ⟨rfl, hw⟩
    subst w1
    rw [E2.out.1, E2.out.2.1]
    go_wp2_with fail
    go_ret
    rw [E2.out.2.2.1, E2.out.2.2.2, E2.out.2.1]
    exact ⟨rfl, HF.out, Frm.refl _ _⟩
end Go.Proofs.YtghogbngmcolmaaGreat
namespace Go.Proofs.YtghogbngmcolmaaGreat
open Go.RowKit
open Tr (Fo Nd)
def Tr.FzOk (F : Fo) : Prop := ∀ n, n < 40 → (F.nd n).kind = 1 → (F.nd n).size ≤ 40
end Go.Proofs.YtghogbngmcolmaaGreat
namespace Go.Proofs.YtghogbngmcolmaaGreat
open Go.RowKit
open Tr (Fo Nd)
end Go.Proofs.YtghogbngmcolmaaGreat
namespace Go.Proofs.YtghogbngmcolmaaGreat
open Go.RowKit
open Go.Sort
open Tr (Fo Nd)
def stC (L : List ByteArray) : List Value := L.map Value.string
structure SO (w : World) (L : List ByteArray) (v : Value) (wr : World) : Prop where
  bel : RowKit.Below w.heap.size w wr
  own : wr.ownsRow w.heap.size 9 1 v L.length (stC L)
  nil : L = [] → v = .slice none 0 0
theorem SO.form {w wr : World} {L : List ByteArray} {v : Value} (h : SO w L v wr) : ∃ a c, v = .slice a L.length c := by
  rcases h.own.2 with ⟨e, e2⟩ | ⟨g, cap, _, e, _⟩
  · exact ⟨none, 0, by rw [e, e2]⟩
  · exact ⟨_, cap, e⟩
end Go.Proofs.YtghogbngmcolmaaGreat

import Derived.Deep.CutRange
import Derived.Deep.CutBlock
import Derived.Deep.Onto
import Derived.Laws.OwnMore
import Derived.StillTailTactics
import Derived.Lib.SplitLaws
import Derived.Lib.IndexBytes
import Derived.Shelf.LaysM
import Derived.Shelf.Strings.Search3
import Derived.Shelf.Strings.Count
import Derived.Shelf.Strings.Prefix
import Derived.Shelf.Strings.Split
import Derived.Test.YtghogbngmcolmaaGreatSam
namespace Go.Proofs.YtghogbngmcolmaaGreat
open Go.RowKit
open Tr (Fo Nd)
namespace Mo
abbrev Wh := Int × Int
abbrev Mt := Wh × Wh
structure Tb where
  rt : Wh
  ms : List Mt
def mtC (m : Mt) : List Value := [.int .i64 m.1.1, .int .i64 m.1.2, .int .i64 m.2.1, .int .i64 m.2.2]
def mcs (L : List Mt) : List Value := L.flatMap mtC
theorem mcs_len : ∀ L : List Mt, (mcs L).length = L.length * 4
  | [] => rfl
  | x :: L => by
    show (mtC x ++ mcs L).length = _
    rw [List.length_append, mcs_len L, List.length_cons]
    show 4 + _ = _
    omega
theorem mcs_at : ∀ (L : List Mt) (i j : Nat) (x : Mt), L[i]? = some x → j < 4 → (mcs L)[i * 4 + j]? = (mtC x)[j]?
  | [], _, _, _, h, _ => by simp at h
  | y :: L, 0, j, x, h, hj => by
    simp only [List.getElem?_cons_zero, Option.some.injEq] at h
    subst h
    show (mtC y ++ mcs L)[0 * 4 + j]? = _
    rw [Nat.zero_mul, Nat.zero_add, List.getElem?_append_left (by show j < 4; exact hj)]
  | y :: L, i + 1, j, x, h, hj => by
    rw [List.getElem?_cons_succ] at h
    show (mtC y ++ mcs L)[(i + 1) * 4 + j]? = _
    rw [List.getElem?_append_right (by show 4 ≤ _; omega)]
    show (mcs L)[(i + 1) * 4 + j - 4]? = _
    rw [show (i + 1) * 4 + j - 4 = i * 4 + j by omega]
    exact mcs_at L i j x h hj
def MtdTo (L : List Mt) (x : Wh) (z : Int) : Prop := (∃ i : Nat, z = i ∧ ∃ m, L[i]? = some m ∧ m.1 = x ∧ ∀ (j : Nat) (m' : Mt), j < i → L[j]? = some m' → m'.1 ≠ x) ∨ (z = -1 ∧ ∀ (j : Nat) (m' : Mt), L[j]? = some m' → m'.1 ≠ x)
def lk (L : List Mt) (x : Wh) : Option Mt := L.find? fun m => decide (m.1 = x)
theorem MtdTo.find {L : List Mt} {x : Wh} {z : Int} (h : MtdTo L x z) : (∃ i : Nat, z = i ∧ i < L.length ∧ ∃ m, L[i]? = some m ∧ lk L x = some m) ∨ (z = -1 ∧ lk L x = none) := by
  rcases h with ⟨i, rfl, m, h1, h2, h3⟩ | ⟨rfl, h1⟩
  · have hi := (List.getElem?_eq_some_iff.1 h1).1
    refine .inl ⟨i, rfl, hi, m, h1, ?_⟩
    unfold lk
    rw [List.find?_eq_some_iff_getElem]
    refine ⟨by simp [h2], i, hi, (List.getElem?_eq_some_iff.1 h1).2, fun j hj => ?_⟩
    have := h3 j L[j] hj (List.getElem?_eq_getElem (by omega))
    simp [this]
  · refine .inr ⟨rfl, ?_⟩
    unfold lk
    rw [List.find?_eq_none]
    intro m hm
    obtain ⟨j, hj, e⟩ := List.getElem_of_mem hm
    have := h1 j m (by rw [List.getElem?_eq_getElem hj, e])
    simp [this]
end Mo
open Mo (Wh Mt Tb)
structure Onl (S : Nat → Prop) (w w' : World) : Prop where
  os : w'.os = w.os
  tape : w'.tape = w.tape
  output : w'.output = w.output
  size : w.heap.size ≤ w'.heap.size
  block : ∀ k, k < w.heap.size → ¬ S k → w'.heap[k]? = w.heap[k]?
section
variable {S : Nat → Prop} {u v w : World}
theorem Onl.refl (S : Nat → Prop) (w : World) : Onl S w w := ⟨rfl, rfl, rfl, Nat.le_refl _, fun _ _ _ => rfl⟩
theorem Onl.trans (h : Onl S u v) (k : Onl S v w) : Onl S u w :=
  ⟨k.os.trans h.os, k.tape.trans h.tape, k.output.trans h.output, Nat.le_trans h.size k.size, fun j hj hn => (k.block j (Nat.lt_of_lt_of_le hj h.size) hn).trans (h.block j hj hn)⟩
theorem Onl.mono {R : Nat → Prop} (h : Onl S u v) (k : ∀ n, n < u.heap.size → S n → R n) : Onl R u v := ⟨h.os, h.tape, h.output, h.size, fun j hj hn => h.block j hj (fun c => hn (k j hj c))⟩
theorem Onl.of_below (h : Below u.heap.size u v) : Onl S u v := ⟨h.os, h.tape, h.output, h.size, fun j hj _ => h.block j hj⟩
theorem Onl.of_frm {b : Nat} (h : Frm b u v) (hb : S b) : Onl S u v := ⟨h.os, h.tape, h.output, h.size, fun j hj hn => h.block j hj (fun e => hn (e ▸ hb))⟩
theorem Onl.behind {B : Nat} {t : World} (h : Onl S u v) (k : Below B t u) (hS : ∀ n, S n → B ≤ n) (hs : B ≤ u.heap.size) : Below B t v :=
  k.trans ⟨h.os, h.tape, h.output, h.size, fun j hj => h.block j (by omega) (fun c => by have := hS j c; omega)⟩
theorem Onl.drew (h : Onl S u v) : Onl S u v.drew := ⟨h.os, h.tape, h.output, h.size, h.block⟩
theorem Onl.setCell (h : Onl S u w) {b : Nat} (hb : S b) (o : Nat) (x : Value) : Onl S u (w.setCell ⟨b, o, none⟩ x) :=
  ⟨h.os, h.tape, h.output, by simpa [World.setCell] using h.size, fun k hk hn => (setBlk _ _ _ _ (fun e => hn (by rw [e]; exact hb))).trans (h.block k hk hn)⟩
end
def MRow (w : World) (base : Nat) (L : List Mt) (v : Value) : Prop := w.ownsRow base 211 4 v L.length (Mo.mcs L)
structure TAt (w : World) (base b f : Nat) (T : Tb) (v : Value) : Prop where
  blk : w.heap[b]? = some (.cells #[.pointer (some ⟨f, 0, none⟩), .int .i64 T.rt.1, .int .i64 T.rt.2, v] 201 (0, 0))
  row : MRow w base T.ms v
  six : T.ms.length ≤ 6
section
variable {w w' : World} {base b f : Nat} {T : Tb} {v : Value} {L : List Mt}
theorem MRow.form (h : MRow w base L v) : (v = .slice none 0 0 ∧ L = []) ∨ ∃ g cap, v = .slice (some ⟨g, 0, none⟩) L.length cap ∧ base ≤ g ∧ g < w.heap.size ∧ L.length ≤ cap := by
  rcases h.2 with ⟨rfl, e⟩ | ⟨g, cap, cur, e, hb, hg, h1, h2, h3, h4⟩
  · exact .inl ⟨rfl, List.eq_nil_of_length_eq_zero e⟩
  · exact .inr ⟨g, cap, e, hb, (Array.getElem?_eq_some_iff.1 hg).1, h1⟩
theorem MRow.sl (h : MRow w base L v) : ∃ a c, v = .slice a L.length c := by
  rcases h.form with ⟨rfl, rfl⟩ | ⟨g, cap, rfl, _⟩
  · exact ⟨_, _, rfl⟩
  · exact ⟨_, _, rfl⟩
theorem MRow.cell {g n cap : Nat} (h : MRow w base L (.slice (some ⟨g, 0, none⟩) n cap)) (i j : Nat) (m : Mt) (hi : L[i]? = some m) (hj : j < 4) : w.cell? ⟨g, i * 4 + j, none⟩ = (Mo.mtC m)[j]? := by
  have hl := (List.getElem?_eq_some_iff.1 hi).1
  rcases h.2 with ⟨e, _⟩ | ⟨g', cap', cur, e, hb, hg, h1, h2, h3, h4⟩
  · cases e
  · cases e
    rw [cell_blk hg, ← Mo.mcs_at L i j m hi hj, ← h4]
    have hs : i * 4 + j < cur.size := by rw [h3]; omega
    rw [List.getElem?_take_of_lt (by omega), Array.getElem?_toList]
theorem MRow.same (h : MRow w base L v) (k : ∀ g, v.ownBlock = some g → w'.heap[g]? = w.heap[g]?) : MRow w' base L v := by
  refine ⟨h.1, ?_⟩
  rcases h.2 with hn | ⟨g, cap, cur, e, hb, hg, h1, h2, h3, h4⟩
  · exact .inl hn
  · exact .inr ⟨g, cap, cur, e, hb, by rw [k g (by rw [e]; rfl)]; exact hg, h1, h2, h3, h4⟩
theorem MRow.lt (h : MRow w base L v) (g : Nat) (e : v.ownBlock = some g) : base ≤ g ∧ g < w.heap.size := by
  rcases h.2 with ⟨hn, _⟩ | ⟨g', cap, cur, hv, hb, hg, _⟩
  · rw [hn] at e; cases e
  · rw [hv] at e
    cases e
    exact ⟨hb, (Array.getElem?_eq_some_iff.1 hg).1⟩
theorem MRow.below (h : MRow w base L v) (k : Below w.heap.size w w') : MRow w' base L v := h.same (fun g e => k.block g (h.lt g e).2)
theorem TAt.lt (h : TAt w base b f T v) : b < w.heap.size := (Array.getElem?_eq_some_iff.1 h.blk).1
theorem TAt.frozen (h : TAt w base b f T v) (o : Nat) : w.frozen? ⟨b, o, none⟩ = false := frozen_blk h.blk o
theorem TAt.c0 (h : TAt w base b f T v) : w.cell? ⟨b, 0, none⟩ = some (.pointer (some ⟨f, 0, none⟩)) := by rw [cell_blk h.blk]; rfl
theorem TAt.c1 (h : TAt w base b f T v) : w.cell? ⟨b, 1, none⟩ = some (.int .i64 T.rt.1) := by rw [cell_blk h.blk]; rfl
theorem TAt.c2 (h : TAt w base b f T v) : w.cell? ⟨b, 2, none⟩ = some (.int .i64 T.rt.2) := by rw [cell_blk h.blk]; rfl
theorem TAt.c3 (h : TAt w base b f T v) : w.cell? ⟨b, 3, none⟩ = some v := by rw [cell_blk h.blk]; rfl
theorem TAt.same (h : TAt w base b f T v) (e : w'.heap[b]? = w.heap[b]?) (k : ∀ g, v.ownBlock = some g → w'.heap[g]? = w.heap[g]?) : TAt w' base b f T v := ⟨e.trans h.blk, h.row.same k, h.six⟩
theorem TAt.below (h : TAt w base b f T v) (k : Below w.heap.size w w') : TAt w' base b f T v := h.same (k.block b h.lt) (fun g e => k.block g (h.row.lt g e).2)
theorem TAt.drew (h : TAt w base b f T v) : TAt w.drew base b f T v := h.same rfl (fun _ _ => rfl)
theorem blk_ne {w : World} {a b : Nat} {C D : Array Value} {T U : TypeId} (h : w.heap[a]? = some (.cells C T (0, 0))) (k : w.heap[b]? = some (.cells D U (0, 0))) (n : T ≠ U) : a ≠ b := by
  intro e
  subst e
  rw [h] at k
  cases k
  exact n rfl
theorem MRow.ne_of {g' : Nat} {C : Array Value} {U : TypeId} (h : MRow w base L v) (k : w.heap[g']? = some (.cells C U (0, 0))) (n : 211 ≠ U) : ∀ g, v.ownBlock = some g → g ≠ g' := fun g e => by
  rcases h.2 with ⟨hn, _⟩ | ⟨g'', cap, cur, hv, hb, hg, _⟩
  · rw [hn] at e; cases e
  · rw [hv] at e
    cases e
    exact blk_ne hg k n
end
end Go.Proofs.YtghogbngmcolmaaGreat
namespace Go.Proofs.YtghogbngmcolmaaGreat
open Go.RowKit
open Tr (Fo Nd)
open Mo (Wh Mt Tb)
def WB (w : World) (c : Nat) (x : Wh) : Prop := w.heap[c]? = some (.cells #[.int .i64 x.1, .int .i64 x.2] 196 (0, 0))
section
variable {w w' : World} {c : Nat} {x : Wh}
theorem WB.c0 (h : WB w c x) : w.cell? ⟨c, 0, none⟩ = some (.int .i64 x.1) := by rw [cell_blk h]; rfl
theorem WB.c1 (h : WB w c x) : w.cell? ⟨c, 1, none⟩ = some (.int .i64 x.2) := by rw [cell_blk h]; rfl
theorem WB.fz (h : WB w c x) (o : Nat) : w.frozen? ⟨c, o, none⟩ = false := frozen_blk h o
theorem WB.set (h : WB w c x) (y : Wh) : WB ((w.setCell ⟨c, 0, none⟩ (.int .i64 y.1)).setCell ⟨c, 1, none⟩ (.int .i64 y.2)) c y ∧ Frm c w ((w.setCell ⟨c, 0, none⟩ (.int .i64 y.1)).setCell ⟨c, 1, none⟩ (.int .i64 y.2)) :=
  ⟨blk_set (blk_set h 0 _) 1 _, ((Frm.refl c w).setCell _ _).setCell _ _⟩
end
end Go.Proofs.YtghogbngmcolmaaGreat
namespace Go.Proofs.YtghogbngmcolmaaGreat
open Go.RowKit
open Tr (Fo Nd)
open Mo (Wh Mt Tb)
namespace Mo
def wcs (L : List Wh) : List Value := L.flatMap fun x => [Value.int .i64 x.1, .int .i64 x.2]
end Mo
def WRow (w : World) (base : Nat) (W : List Wh) (v : Value) : Prop := w.ownsRow base 196 2 v W.length (Mo.wcs W)
section
variable {w w' : World} {base : Nat} {W : List Wh} {v : Value}
theorem WRow.form (h : WRow w base W v) (h1 : 1 ≤ W.length) : ∃ g cap, v = .slice (some ⟨g, 0, none⟩) W.length cap ∧ base ≤ g ∧ g < w.heap.size ∧ W.length ≤ cap := by
  rcases h.2 with ⟨_, e⟩ | ⟨g, cap, cur, e, hb, hg, h1, _⟩
  · omega
  · exact ⟨g, cap, e, hb, (Array.getElem?_eq_some_iff.1 hg).1, h1⟩
end
theorem infoMt : ∃ i z, Tryz.prog.info? 211 = some i ∧ i.zero = some z ∧ i.size = 4 ∧ i.bytes = 32 ∧ z.cells.size = 4 := by
  have h : (Tryz.prog.info? 211).map (fun i => (i.size, i.bytes, i.zero.map (fun z => z.cells.size))) = some (4, 32, some 4) := by kernel_rfl
  cases hi : Tryz.prog.info? 211 with
  | none => rw [hi] at h; cases h
  | some i =>
    rw [hi] at h
    simp only [Option.map_some, Option.some.injEq, Prod.mk.injEq] at h
    obtain ⟨h1, h2, h3⟩ := h
    cases hz : i.zero with
    | none => rw [hz] at h3; cases h3
    | some z =>
      rw [hz] at h3
      simp only [Option.map_some, Option.some.injEq] at h3
      exact ⟨i, z, rfl, hz, h1, h2, h3⟩
end Go.Proofs.YtghogbngmcolmaaGreat
namespace Go.Proofs.YtghogbngmcolmaaGreat
open Go.RowKit
open Tr (Fo Nd)
open Mo (Wh Mt Tb)
theorem box1 (w : World) : WB (w.alloc (.cells #[.int .i64 0, .int .i64 0] 196)) w.heap.size (0, 0) ∧ Below w.heap.size w (w.alloc (.cells #[.int .i64 0, .int .i64 0] 196)) := ⟨heap_alloc_new w _, (Below.refl _ _).alloc (Nat.le_refl _) _⟩
theorem WB.fin {w W : World} {rx : Nat} {x : Wh} (h : WB W rx x) (b : Below rx w W) (e : w.heap.size = rx) (y : Wh) : WB ((W.setCell ⟨rx, 0, none⟩ (.int .i64 y.1)).setCell ⟨rx, 1, none⟩ (.int .i64 y.2)) rx y ∧ Below rx w ((W.setCell ⟨rx, 0, none⟩ (.int .i64 y.1)).setCell ⟨rx, 1, none⟩ (.int .i64 y.2)) := by
  have := h.set y
  exact ⟨this.1, this.2.below b (Nat.le_refl _) (by have := b.size; omega)⟩
end Go.Proofs.YtghogbngmcolmaaGreat

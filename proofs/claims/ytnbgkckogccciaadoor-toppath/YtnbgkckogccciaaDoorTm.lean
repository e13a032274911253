/- The code's forest: Write. -/
import Derived.Test.YtnbgkckogccciaaDoorTi
import Derived.Lib.LazyBuf
import Derived.Lib.SliceRun
import Derived.Laws.BytesString
import Derived.Test.YtnbgkckogccciaaDoorBc
namespace Go.Proofs.YtnbgkckogccciaaDoor
open Go.RowKit
open Tr (Fo Nd)

/-- Bytes are written at a place. -/
def Tr.wrB (f : Nat → Int) (a : Nat) (L : List Int) : Nat → Int := fun j => if j < a then f j else (L[j - a]?).getD (f j)
def Tr.byI (s : ByteArray) : List Int := s.data.toList.map fun x => (x.toNat : Int)
theorem Tr.byI_len (s : ByteArray) : (Tr.byI s).length = s.size := by simp [Tr.byI]
theorem Tr.byI_map (s : ByteArray) : (s.data.toList.map fun x => Value.int .u8 (x.toNat : Int)) = (Tr.byI s).map (Value.int .u8) := by simp [Tr.byI, Function.comp_def]
theorem FAt.setBytes {w : World} {b : Nat} {F : Fo} (h : FAt w b F) (n a : Nat) (L : List Int) (hL : a + L.length ≤ 40) : FAt (w.setCells b (n * 62 + 22 + a) (L.map (Value.int .u8))) b (F.put n { F.nd n with byt := Tr.wrB (F.nd n).byt a L }) := by
  obtain ⟨C, h1, h2⟩ := h.blk
  obtain ⟨C', k1, k2⟩ := theap_setCells_blk b (L.map (Value.int .u8)) (n * 62 + 22 + a) w C h1
  have hlen : (L.map (Value.int .u8)).length = L.length := by simp
  refine ⟨⟨C', k1, by omega⟩, fun o ho => ?_⟩
  by_cases c : n * 62 + 22 + a ≤ o ∧ o < n * 62 + 22 + a + L.length
  · obtain ⟨j, rfl, hj⟩ : ∃ j, o = n * 62 + 22 + a + j ∧ j < L.length := ⟨o - (n * 62 + 22 + a), by omega, by omega⟩
    rw [World.cell?_setCells_in b (L.map (Value.int .u8)) (n * 62 + 22 + a) w (fun i hi => by rw [hlen] at hi; rw [h.cell _ (by omega)]; rfl) j (by rw [hlen]; exact hj)]
    unfold cellF
    rw [if_pos (by omega), show (n * 62 + 22 + a + j) / 62 = n by omega, show (n * 62 + 22 + a + j) % 62 = 22 + (a + j) by omega, Tr.put_same, cellN_byt]
    show _ = some (Value.int .u8 (Tr.wrB (F.nd n).byt a L (a + j)))
    unfold Tr.wrB
    rw [if_neg (by omega), show a + j - a = j by omega, List.getElem?_eq_getElem hj, Option.getD_some, List.getElem_map]
  · rw [World.cell?_setCells_out b _ (n * 62 + 22 + a) w ⟨b, o, none⟩ (fun _ _ => by rw [hlen]; show o < _ ∨ _ ≤ o; omega), h.cell o ho]
    unfold cellF
    by_cases d : o < 2480
    · rw [if_pos d, if_pos d]
      by_cases e : o / 62 = n
      · rw [e, Tr.put_same]
        by_cases g : o % 62 < 22
        · unfold cellN; repeat' split
          all_goals first | rfl | omega
        · rw [show o % 62 = 22 + (o % 62 - 22) by omega, cellN_byt, cellN_byt]
          show _ = some (Value.int .u8 (Tr.wrB (F.nd n).byt a L (o % 62 - 22)))
          unfold Tr.wrB
          by_cases i : o % 62 - 22 < a
          · rw [if_pos i]
          · rw [if_neg i, List.getElem?_eq_none (by omega), Option.getD_none]
      · rw [Tr.put_ne _ _ _ _ e]
    · rw [if_neg d, if_neg d]; rfl
section
variable {ops : Array Oper} {rest : List Oper} {x : Oper} {a : Act} {w : World} {Q : Exit → Act → World → Prop}
theorem wpList_copy_str (hgd : x.guard = none) (d y : Operand) (dT sT : TypeId) (hop : x.op = Op.call { callee := Callee.builtin Builtin.copy, args := #[d, y], argTypes := #[dT, sT] })
    (elem : TypeId) (hu : Tryd.prog.underlying dT = some (.slice elem)) (hz : ∀ w, (Go.sizeOf elem).run Tryd.prog w = .ok 1 w)
    (b off dLen dCap : Nat) (hd : a.eval d = .slice (some ⟨b, off, none⟩) dLen dCap) (t : ByteArray) (hx : a.eval y = .string t) (hle : t.size ≤ dLen)
    (hc : ∀ j, j < t.size → (w.cell? ⟨b, off + j, none⟩).isSome = true) (hf : ∀ j, j < t.size → w.frozen? ⟨b, off + j, none⟩ = false)
    (h : wpList Tryd.prog ops Q rest (a.put x.dst (goInt t.size)) (w.setCells b off ((Tr.byI t).map (Value.int .u8)))) : wpList Tryd.prog ops Q (x :: rest) a w :=
  wpList_plain hgd fun _ hK => by
    have hrun := run_copy_string (P := Tryd.prog) w dT sT x.type elem b off dLen dCap t hu hz hle hc hf
    rw [Tr.byI_map] at hrun
    unfold Oper.wp
    simp [execOp, hop, resolve, invoke, builtin, hd, hx, hrun, Result.andThen]
    exact hK _ _ h
end
/-- What a Write answers and leaves. -/
def Tr.wriE (F : Fo) (z a : Int) (s : ByteArray) : Int := if Tr.isE F z 1 ≠ 0 then Tr.isE F z 1 else if a < 0 then 1 else if 40 - (s.size : Int) < a then 4 else 0
def Tr.wriN (x : Nd) (a : Nat) (s : ByteArray) : Nd := { x with byt := Tr.wrB x.byt a (Tr.byI s), size := max x.size (a + s.size) }
def Tr.wriF (F : Fo) (z a : Int) (s : ByteArray) : Fo := if Tr.wriE F z a s = 0 ∧ s.size ≠ 0 then F.put z.toNat (Tr.wriN (F.nd z.toNat) a.toNat s) else F
end Go.Proofs.YtnbgkckogccciaaDoor
/- The code's forest: Cut. -/
namespace Go.Proofs.YtnbgkckogccciaaDoor
open Go.RowKit
open Tr (Fo Nd)

section
variable {ops : Array Oper} {rest : List Oper} {x : Oper} {a : Act} {w : World} {Q : Exit → Act → World → Prop}
set_option maxRecDepth 100000 in
theorem wpList_clear_by (hgd : x.guard = none) (d : Operand) (hop : x.op = Op.call { callee := Callee.builtin Builtin.clear, args := #[d], argTypes := #[108] })
    (b off n c : Nat) (hd : a.eval d = .slice (some ⟨b, off, none⟩) n c) (hn : 0 < n)
    (hc : ∀ j, j < n → (w.cell? ⟨b, off + j, none⟩).isSome = true) (hf : ∀ j, j < n → w.frozen? ⟨b, off + j, none⟩ = false)
    (h : wpList Tryd.prog ops Q rest (a.put x.dst (.tuple #[])) (w.setCells b off ((List.replicate n (0 : Int)).map (Value.int .u8)))) : wpList Tryd.prog ops Q (x :: rest) a w :=
  wpList_plain hgd fun _ hK => by
    have hrun := Lib.run_clear_slice (P := Tryd.prog) w 108 5 x.type (.int .u8 0) (by kernel_rfl) (fun _ => by rfl) rfl rfl b off n c hn hc hf
    rw [List.map_replicate] at h
    unfold Oper.wp
    simp [execOp, hop, resolve, invoke, builtin, hd, hrun, Result.andThen]
    exact hK _ _ h
set_option maxRecDepth 100000 in
theorem wpList_clear_none (hgd : x.guard = none) (d : Operand) (hop : x.op = Op.call { callee := Callee.builtin Builtin.clear, args := #[d], argTypes := #[108] })
    (p : Option Addr) (c : Nat) (hd : a.eval d = .slice p 0 c)
    (h : wpList Tryd.prog ops Q rest (a.put x.dst (.tuple #[])) w) : wpList Tryd.prog ops Q (x :: rest) a w :=
  wpList_plain hgd fun _ hK => by
    have hu : Tryd.prog.underlying 108 = some (.slice 5) := by kernel_rfl
    have hrun : (Builtin.clear_ #[108] x.type #[.slice p 0 c]).run Tryd.prog w = .ok (.tuple #[]) w := by
      cases p <;> simp [Builtin.clear_, run_underlying hu]
    unfold Oper.wp
    simp [execOp, hop, resolve, invoke, builtin, hd, hrun, Result.andThen]
    exact hK _ _ h
end
/-- What a Cut answers and leaves. -/
def Tr.cutE (F : Fo) (z a : Int) : Int := if Tr.isE F z 1 ≠ 0 then Tr.isE F z 1 else if a < 0 ∨ ((F.nd z.toNat).size : Int) < a then 1 else 0
def Tr.cutN (x : Nd) (a : Nat) : Nd := { x with byt := Tr.wrB x.byt a (List.replicate (40 - a) 0), size := a }
def Tr.cutF (F : Fo) (z a : Int) : Fo := if Tr.cutE F z a = 0 then F.put z.toNat (Tr.cutN (F.nd z.toNat) a.toNat) else F
/-- Files have forty bytes at most. -/
def Tr.FzOk (F : Fo) : Prop := ∀ n, n < 40 → (F.nd n).kind = 1 → (F.nd n).size ≤ 40
theorem Tr.wrB_nil (f : Nat → Int) (a : Nat) : Tr.wrB f a [] = f := by
  funext j
  unfold Tr.wrB
  split
  · rfl
  · simp
end Go.Proofs.YtnbgkckogccciaaDoor
/- The code's forest: Read. -/
namespace Go.Proofs.YtnbgkckogccciaaDoor
open Go.RowKit
open Tr (Fo Nd)

/-- The bytes from a place on, so many. -/
def Tr.rdL (f : Nat → Int) (a k : Nat) : List Int := (List.range k).map fun j => f (a + j)
def Tr.rdS (f : Nat → Int) (a k : Nat) : ByteArray := (Tr.rdL f a k).foldl (fun r n => r.push (UInt8.ofNat n.toNat)) ByteArray.empty
theorem Tr.rdL_len (f : Nat → Int) (a k : Nat) : (Tr.rdL f a k).length = k := by simp [Tr.rdL]
theorem FAt.loads {w : World} {b : Nat} {F : Fo} (h : FAt w b F) (n lo k : Nat) (hn : n < 40) (hk : lo + k ≤ 40) (ad : Addr) (had : 0 < k → ad = ⟨b, n * 62 + 22 + lo, none⟩) : (loadCells ad k).run Tryd.prog w = .ok ((Tr.rdL (F.nd n).byt lo k).map (Value.int .u8)).toArray w := by
  have := run_loadCells_list (P := Tryd.prog) w ad ((Tr.rdL (F.nd n).byt lo k).map (Value.int .u8)) (fun j v hv => by
    have hj : j < k := by have := (List.getElem?_eq_some_iff.1 hv).1; rw [List.length_map, Tr.rdL_len] at this; exact this
    rw [had (by omega)]
    have e : (⟨b, n * 62 + 22 + lo, none⟩ : Addr).add j = ⟨b, n * 62 + 22 + (lo + j), none⟩ := by
      unfold Addr.add
      split
      · simp_all
      · simp_all; omega
    rw [e, h.cByt n (lo + j) hn (by omega), ← hv]
    simp [Tr.rdL, hj])
  rw [List.length_map, Tr.rdL_len] at this
  exact this
section
variable {ops : Array Oper} {rest : List Oper} {x : Oper} {a : Act} {w : World} {Q : Exit → Act → World → Prop}
set_option maxRecDepth 100000 in
theorem wpList_bytes_str (hgd : x.guard = none) (y : Operand) (hop : x.op = Op.convert 108 9 y)
    (ad : Addr) (k c : Nat) (hd : a.eval y = .slice (some ad) k c) (ns : List Int) (hl : (loadCells ad k).run Tryd.prog w = .ok (ns.map (Value.int .u8)).toArray w)
    (h : wpList Tryd.prog ops Q rest (a.put x.dst (.string (ns.foldl (fun r n => r.push (UInt8.ofNat n.toNat)) ByteArray.empty))) w) : wpList Tryd.prog ops Q (x :: rest) a w :=
  wpList_plain hgd fun _ hK => by
    have hrun := (run_convert_bytes_string (P := Tryd.prog) w 108 9 5 (some ad) k c (by kernel_rfl) (by kernel_rfl) (by kernel_rfl)).trans (run_bytesToString w ad k c ns hl)
    unfold Oper.wp
    simp [execOp, hop, hd, hrun, Result.andThen]
    exact hK _ _ h
end
/-- What a Read answers. -/
def Tr.reaE (F : Fo) (z a m : Int) : Int := if Tr.isE F z 1 ≠ 0 then Tr.isE F z 1 else if a < 0 ∨ m < 0 then 1 else 0
def Tr.reaS (F : Fo) (z a m : Int) : ByteArray :=
  if Tr.reaE F z a m = 0 then Tr.rdS (F.nd z.toNat).byt (min a.toNat (F.nd z.toNat).size) (min m.toNat ((F.nd z.toNat).size - min a.toNat (F.nd z.toNat).size)) else ByteArray.empty
end Go.Proofs.YtnbgkckogccciaaDoor
/- The code's forest: List. -/
namespace Go.Proofs.YtnbgkckogccciaaDoor
open Go.RowKit
open Go.Sort
open Tr (Fo Nd)

def stC (L : List ByteArray) : List Value := L.map Value.string
/-- A slice that the call owns: the texts of L. -/
structure SO (w : World) (L : List ByteArray) (v : Value) (wr : World) : Prop where
  bel : RowKit.Below w.heap.size w wr
  own : wr.ownsRow w.heap.size 9 1 v L.length (stC L)
  nil : L = [] → v = .slice none 0 0
theorem SO.start (w : World) : SO w [] (.slice none 0 0) w := ⟨Below.refl _ _, World.ownsRow_nil _ _ _ _, fun _ => rfl⟩
theorem SO.form {w wr : World} {L : List ByteArray} {v : Value} (h : SO w L v wr) : ∃ a c, v = .slice a L.length c := by
  rcases h.own.2 with ⟨e, e2⟩ | ⟨g, cap, _, e, _⟩
  · exact ⟨none, 0, by rw [e, e2]⟩
  · exact ⟨_, cap, e⟩
theorem SO.below {w wr w1 : World} {L : List ByteArray} {v : Value} (h : SO w L v wr) (b : RowKit.Below wr.heap.size wr w1) : SO w L v w1 :=
  ⟨h.bel.trans (b.mono h.bel.size), h.own.kept (row := none) ⟨b.os, b.tape, b.output, b.size, fun k hk _ => b.block k hk⟩ (Classical.em _), h.nil⟩
theorem SO.more {w w1 wr : World} {L : List ByteArray} {gg cap N : Nat} {l : Value} (h : SO w L l wr) (x : ByteArray) (hN : L.length = N) (hl : w1.ownsRow w.heap.size 9 1 (.slice (some ⟨gg, 0, none⟩) (N + 1) cap) (N + 1) (stC L ++ [.string x])) (o : Obj) (hg : (wr.alloc o).grownBy w1 l.ownBlock) :
    SO w (L ++ [x]) (.slice (some ⟨gg, 0, none⟩) (N + 1) cap) w1 := by
  have hs := h.bel.size
  refine ⟨(h.bel.alloc hs o).grown hg (by simp; omega) (fun k e => (h.own.lt k e).1), ?_, fun e => by simp at e⟩
  rw [show stC (L ++ [x]) = stC L ++ [.string x] by simp [stC], show (L ++ [x]).length = N + 1 by simp [hN]]
  exact hl
theorem infoSt : ∃ i, Tryd.prog.info? 9 = some i ∧ i.zero = some (.string ⟨#[]⟩) ∧ i.size = 1 ∧ i.bytes = 16 := ⟨(Tryd.prog.info? 9).get (by kernel_rfl), by kernel_rfl, by kernel_rfl, by kernel_rfl, by kernel_rfl⟩
/-- The first j names. -/
def Tr.nmK (x : Nd) (j : Nat) : List ByteArray := (List.range j).map x.nam
theorem Tr.nmK_len (x : Nd) (j : Nat) : (Tr.nmK x j).length = j := by simp [Tr.nmK]
theorem Tr.nmK_succ (x : Nd) (j : Nat) : Tr.nmK x (j + 1) = Tr.nmK x j ++ [x.nam j] := by simp [Tr.nmK, List.range_succ]
/-- Texts in their order. -/
def srtS (L : List ByteArray) : List ByteArray := ((L.map fun s => s.data.toList).mergeSort fun x y => decide (x ≤ y)).map fun l => ⟨l.toArray⟩
theorem srtS_len (L : List ByteArray) : (srtS L).length = L.length := by simp [srtS]
end Go.Proofs.YtnbgkckogccciaaDoor
/- The code's forest: List. -/
namespace Go.Proofs.YtnbgkckogccciaaDoor
open Go.RowKit
open Tr (Fo Nd)

def Tr.lisL (F : Fo) (z : Int) : List ByteArray := if Tr.isE F z 2 = 0 then srtS (Tr.nmK (F.nd z.toNat) (F.nd z.toNat).size) else []
end Go.Proofs.YtnbgkckogccciaaDoor

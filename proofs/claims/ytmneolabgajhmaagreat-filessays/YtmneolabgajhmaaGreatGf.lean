/- FilesSays: what both begin with. -/
import Derived.Test.YtmneolabgajhmaaGreatGa
import Derived.Test.YtmneolabgajhmaaGreatVa
namespace Go.Proofs.YtmneolabgajhmaaGreat
open Go.RowKit
open Fx (Fi)
open Tr (Fo Nd RN)
open Pp (Pi)

def Fx.gzA : Array Value := ((List.range 321).map fun o => if o < 320 then rcell RN.no (o % 8) else .slice none 0 0).toArray
theorem Fx.gz_at (i : Nat) (h : i < 321) : Fx.gzA[i]? = some (if i < 320 then rcell RN.no (i % 8) else .slice none 0 0) := by simp [Fx.gzA, h]
set_option maxRecDepth 100000 in
theorem Fx.gz_eq : Tryz.zeroCells34 = Fx.gzA := by kernel_rfl
theorem Fx.fr_zero (W : World) : FR ⟨W.heap.size, fun _ => False⟩ (W.alloc (.cells Tryz.zeroCells34 34)) W.heap.size Tr.f0 (fun _ => RN.no) (.slice none 0 0) := by
  have h := heap_alloc_new W (.cells Tryz.zeroCells34 34)
  have h2 : (W.alloc (.cells Tryz.zeroCells34 34)).heap[W.heap.size]? = some (.cells Fx.gzA 34 (0, 0)) := by rw [← Fx.gz_eq]; exact h
  refine ⟨⟨⟨_, h2, by simp [Fx.gzA]⟩, fun n j hn hj => ?_, ?_, fun _ _ => ⟨⟨_, _, _, rfl⟩, ⟨_, _, _, rfl⟩⟩⟩, Nat.le_refl _, World.ownsRow_nil _ _ _ _, (fun e => by cases e), fun n _ => nr_no _ _ _ _ _ rfl, fun g e => e.elim, fun g _ e => e⟩
  · rw [cell_blk h2, Fx.gz_at _ (by omega), if_pos (by omega), show (n * 8 + j) % 8 = j by omega]
  · rw [cell_blk h2, Fx.gz_at _ (by omega), if_neg (by omega)]
/-- The document's own open files, none open. -/
def Fx.zO : Array Value := ((List.range 122).map fun o => if o < 2 then Value.pointer none else if o % 5 = 1 then Value.bool false else Value.int .i64 0).toArray
theorem Fx.zO_at (o : Nat) (h : o < 122) : Fx.zO[o]? = some (if o < 2 then Value.pointer none else if o % 5 = 1 then Value.bool false else Value.int .i64 0) := by simp [Fx.zO, h]
set_option maxRecDepth 100000 in
theorem Fx.zeroO (w : World) : (zeroValue 61).run Tryz.prog w = .ok (.agg Fx.zO) w := by kernel_rfl
def Fx.nwO (P0 P1 : Value) : Array Value := (Fx.zO.setIfInBounds 0 P0).setIfInBounds 1 P1
theorem OAt.new {w : World} {m c q : Nat} {Ty : TypeId} (h : w.heap[m]? = some (.cells (Fx.nwO (.pointer (some ⟨c, 0, none⟩)) (.pointer (some ⟨q, 0, none⟩))) Ty (0, 0))) : OAt w m c q Fx.nul := by
  have sz : Fx.zO.size = 122 := by simp [Fx.zO]
  refine ⟨⟨_, Ty, h, by simp [Fx.nwO, sz]⟩, ?_, ?_, fun n hn i hi => ?_⟩
  · rw [cell_blk h]; unfold Fx.nwO
    rw [Array.getElem?_setIfInBounds_ne (by omega), Array.getElem?_setIfInBounds_self_of_lt (by omega)]
  · rw [cell_blk h]; unfold Fx.nwO
    rw [Array.getElem?_setIfInBounds_self_of_lt (by simp [sz])]
  · rw [cell_blk h]; unfold Fx.nwO
    rw [Array.getElem?_setIfInBounds_ne (by omega), Array.getElem?_setIfInBounds_ne (by omega), Fx.zO_at _ (by omega), if_neg (by omega)]
    match i, hi with
    | 0, _ => rw [if_neg (by omega)]; rfl
    | 1, _ => rw [if_neg (by omega)]; rfl
    | 2, _ => rw [if_neg (by omega)]; rfl
    | 3, _ => rw [if_neg (by omega)]; rfl
    | 4, _ => rw [if_pos (by omega)]; rfl
section
variable {ops : Array Oper} {rest : List Oper} {x : Oper} {a : Act} {w : World} {Q : Exit → Act → World → Prop}
set_option maxRecDepth 100000 in
theorem Fx.wp_buildO (hgd : x.guard = none) (y0 y1 : Operand) (P0 P1 : Option Addr) (ho : x.op = .build 61 #[(0, y0), (1, y1)]) (h0 : a.eval y0 = .pointer P0) (h1 : a.eval y1 = .pointer P1) (h : wpList Tryz.prog ops Q rest (a.put x.dst (.agg (Fx.nwO (.pointer P0) (.pointer P1)))) w) : wpList Tryz.prog ops Q (x :: rest) a w :=
  wpList_plain hgd fun _ hK => by
    unfold Oper.wp execOp
    have hz := Fx.zeroO w
    simp only [ho, List.map_toArray, List.map_cons, List.map_nil, h0, h1]
    simp [go_sem, hz]
    exact hK _ _ h
end
theorem Fx.cK_nul (k m : Nat) : ∀ N, Fx.cK Fx.nul k m N = 0
  | 0 => rfl
  | n + 1 => by
    show Fx.cK Fx.nul k m n + Fx.hit Fi.no k m = 0
    rw [Fx.cK_nul k m n]
    unfold Fx.hit
    rw [if_neg (fun e => e.1 rfl)]
theorem WJ.start : WJ 0 Fx.nul Tr.g1 Pp.nul := by
  have h0 : ∀ m, m < 40 → (Tr.g1.nd m).held = 0 := fun m hm => by have := Tr.hb_g1 m hm; omega
  exact ⟨⟨fun _ _ _ => rfl, fun _ _ h => absurd rfl h, fun _ _ h _ => absurd rfl h, fun _ _ h _ => absurd rfl h, fun _ _ => Nat.zero_le _, fun m hm => (h0 m hm).trans (Fx.cK_nul 1 m 24).symm, fun m hm _ => h0 m hm, fun m _ => (Fx.cK_nul 2 m 24).symm, fun m _ => (Fx.cK_nul 3 m 24).symm⟩, Tr.ok_g1, Tr.zb0.pla (T := 0) (E := 0) (.inr ⟨by decide, 0, 0, .inl ⟨rfl, by omega, rfl, fun m hm => by omega⟩, .inr ⟨rfl, rfl, rfl, rfl⟩⟩), Pp.PI.nul, fun _ _ => Nat.le_refl _⟩
/-- All that the law begins with. -/
theorem GY.start {w W5 W6 W7 W8 W9 : World} {b c : Nat} (h1 : Below w.heap.size w W5) (h2 : FAt W5 b Tr.g1) (h3 : ∃ R rv, FR ⟨c, fun _ => False⟩ W5 c Tr.g1 R rv) (hb : b < c) (p6 : PAt W6 W5.heap.size Pp.nul) (b6 : Below W5.heap.size W5 W6) (q7 : QAt W7 W6.heap.size Pp.nul) (b7 : Below W6.heap.size W6 W7) (x8 : XAt W8 W7.heap.size b W5.heap.size Fx.nul) (b8 : Below W7.heap.size W7 W8) (o9 : OAt W9 W8.heap.size c W6.heap.size Fx.nul) (b9 : Below W8.heap.size W8 W9) :
    ∃ B, GY w W9 W7.heap.size b W5.heap.size W8.heap.size c W6.heap.size B Fx.nul Tr.g1 Pp.nul Fx.nul Tr.g1 Pp.nul := by
  obtain ⟨R, rv, hr⟩ := h3
  have l1 := h1.size
  have l2 := h2.lt
  have l3 := hr.rb.lt
  have l6 := p6.lt
  have l7 := q7.lt
  have l8 := x8.lt
  have l9 := o9.lt
  have s6 := b6.size
  have s7 := b7.size
  have s8 := b8.size
  have s9 := b9.size
  have k7 := b7.trans (b8.mono s7)
  have k6 : Below W6.heap.size W6 W9 := k7.trans (b9.mono (by omega))
  have k5 : Below W5.heap.size W5 W9 := b6.trans (k6.mono s6)
  have k89 : Below W7.heap.size W7 W9 := b8.trans (b9.mono s8)
  have hf := hr.more k5 (fun g => g = W5.heap.size ∨ g = W6.heap.size ∨ g = W7.heap.size ∨ g = W8.heap.size) (fun g hg => by rcases hg with rfl | rfl | rfl | rfl <;> constructor <;> omega)
  refine ⟨_, Six.below (h1.trans (k5.mono l1)), ⟨x8.below b9 x8.lt, h2.below k5, p6.below k6 p6.lt, by omega, by omega, by omega⟩, ⟨o9, ⟨R, rv, hf⟩, q7.below k89 q7.lt, .inr (.inr (.inr (.inr rfl))), .inr (.inr (.inl rfl)), by omega, by omega, by omega⟩, ⟨.inr (.inr (.inr (.inl rfl))), .inr (.inl rfl), hb, by omega, by omega, by omega, by omega, by omega, by omega, by omega, by omega, by omega⟩⟩
end Go.Proofs.YtmneolabgajhmaaGreat

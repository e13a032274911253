/- The law TopVm: rows of 128 bytes by value; how it begins; what a touch answers. -/
import Derived.Test.YtnppahmlifnnnabOd
import Derived.Great.BuildSlice
namespace Go.Proofs.Ytnppahmlifnnnab
open Go.RowKit
open Bd (P)
open Mv (Me Bk)

section
variable {ops : Array Oper} {rest : List Oper} {x : Oper} {a : Act} {w : World} {Q : Exit → Act → World → Prop}
theorem info128 : (Try.prog.info? 64).map (fun i => (i.size, i.bytes, i.zero.map (fun z => z.cells.size))) = some (128, 128, some 128) := by kernel_rfl
theorem wpList_bs128 (hgd : x.guard = none) (y : Operand) (A : Array Value) (ho : x.op = .buildSlice 65 1 #[(0, y)]) (hy : a.eval y = .agg A) (hA : A.size = 128) (h : wpList Try.prog ops Q rest (a.put x.dst (.slice (some ⟨w.heap.size, 0, none⟩) 1 1)) (w.alloc (.cells A 64))) : wpList Try.prog ops Q (x :: rest) a w := by
  have hi := info128
  cases hie : Try.prog.info? 64 with
  | none => rw [hie] at hi; cases hi
  | some ie =>
    rw [hie] at hi
    simp only [Option.map_some, Option.some.injEq, Prod.mk.injEq] at hi
    obtain ⟨h1, _, h2⟩ := hi
    cases hz : ie.zero with
    | none => rw [hz] at h2; cases h2
    | some z =>
      rw [hz] at h2
      simp only [Option.map_some, Option.some.injEq] at h2
      refine wpList_buildSlice hgd 65 64 1 #[(0, y)] ho A ie z Try.underlying65 hie hz (by rw [h1]; omega) (by rw [h1]; omega) ?_ h
      rw [h1]
      have f := Great.fill_whole (s := 128) (by omega) [.agg A] ((Array.range (1 * 128)).map (z.cells[· % z.cells.size]!)) (fun v hv => by
        simp only [List.mem_singleton] at hv
        subst hv
        exact hA) (by simp)
      simp only [List.flatMap_cons, List.flatMap_nil, List.append_nil] at f
      simpa [hy, Value.cells] using f
theorem wpList_build128 (hgd : x.guard = none) (ho : x.op = .build 64 #[]) (h : wpList Try.prog ops Q rest (a.put x.dst (.agg (rowF (fun _ => 0)).toArray)) w) : wpList Try.prog ops Q (x :: rest) a w :=
  wpList_plain hgd fun _ hK => by
    unfold Oper.wp execOp
    simp only [ho]
    simp [go_sem]
    exact hK _ _ h
end
theorem TouR_may {m m' : Me} {k k' : Bk} {z E : Int} {wr : Bool} {g : Nat} (h : Mv.TouR m k z wr E g m' k') : (Mv.mayB m z wr = false ∧ E = 10) ∨ (Mv.mayB m z wr = true ∧ (E = 0 ∨ E = 4) ∧ ∃ x : Nat, z = x ∧ x < 128) := by
  rcases h with ⟨a, e, _⟩ | ⟨a, b, _, e, _⟩ | ⟨a, _, k1, ⟨p', t, _⟩, _⟩
  · exact .inl ⟨a, e⟩
  · exact .inr ⟨a, .inl e, may_in a⟩
  · refine .inr ⟨a, ?_, may_in a⟩
    rcases t with ⟨c, _⟩ | ⟨_, _, c, _⟩ | ⟨_, _, c, _⟩
    · omega
    · exact .inr c
    · exact .inl c
theorem TouR_fr {m m' : Me} {k k' : Bk} {z : Int} {wr : Bool} {g : Nat} (h : Mv.TouR m k z wr 0 g m' k') : m'.fr (z.toNat / 8) = g + 1 := by
  rcases h with ⟨_, e, _⟩ | ⟨a, b, _, e, rfl, rfl, _⟩ | ⟨a, _, k1, _, c⟩
  · omega
  · omega
  · rcases c with ⟨e, _⟩ | ⟨_, rfl, _⟩
    · exact absurd rfl e
    · exact if_pos rfl
/-- A page that is in a frame, and read: nothing turns. -/
theorem TouR_read {m m' : Me} {k k' : Bk} {z E : Int} {g : Nat} (h : Mv.TouR m k z false E g m' k') (h1 : Mv.mayB m z false = true) (h2 : m.fr (z.toNat / 8) ≠ 0) : E = 0 ∧ g = m.fr (z.toNat / 8) - 1 ∧ m' = m ∧ k' = k := by
  rcases h with ⟨a, _⟩ | ⟨_, _, _, a, b, c, d⟩ | ⟨_, b, _⟩
  · rw [h1] at a; cases a
  · exact ⟨a, b, c, d⟩
  · exact absurd ⟨h2, .inl rfl⟩ b
theorem VY.start {w W3 : World} {r q b : Nat} (hk : VAt W3 r q Mv.bk0) (hm : UAt W3 b r Mv.me0) (bel : Below w.heap.size w W3) (l1 : w.heap.size ≤ r) (l2 : w.heap.size ≤ q) (l3 : w.heap.size ≤ b) (n1 : b ≠ r) (n2 : b ≠ q) :
    VY w ((W3.alloc (.cells #[.pointer (some ⟨b, 0, none⟩)] 29)).alloc (.cells (rowF (fun _ => 0)).toArray 64)) r q W3.heap.size 1 (W3.heap.size + 1) 1 1 1 (fun _ => b) (fun _ => Mv.me0) Mv.bk0 (fun _ _ => 0) := by
  have hsz := bel.size
  have bb : Below W3.heap.size W3 ((W3.alloc (.cells #[.pointer (some ⟨b, 0, none⟩)] 29)).alloc (.cells (rowF (fun _ => 0)).toArray 64)) := ((Below.refl _ _).alloc (Nat.le_refl _) _).alloc (by simp) _
  have o1 : (W3.alloc (.cells #[.pointer (some ⟨b, 0, none⟩)] 29)).ownsRow w.heap.size 29 1 (.slice (some ⟨W3.heap.size, 0, none⟩) 1 1) 1 (ptrs (fun _ => b) 1) := World.ownsRow_lit W3 _ 1 hsz (by unfold maxLen; omega) rfl
  have o2 : ((W3.alloc (.cells #[.pointer (some ⟨b, 0, none⟩)] 29)).alloc (.cells (rowF (fun _ => 0)).toArray 64)).ownsRow w.heap.size 64 128 (.slice (some ⟨W3.heap.size + 1, 0, none⟩) 1 1) 1 (flats (fun _ _ => 0) 1) := by
    have := World.ownsRow_lit (base := w.heap.size) (e := 64) (size := 128) (W3.alloc (.cells #[.pointer (some ⟨b, 0, none⟩)] 29)) (rowF (fun _ => 0)).toArray 1 (by simp; omega) (by unfold maxLen; omega) (by simp [rowF])
    rw [show (rowF (fun _ => 0)).toArray.toList = flats (fun _ _ => 0) 1 by simp [rowF, flats, flatV]] at this
    simpa using this
  have o1' := o1.alloc (.cells (rowF (fun _ => 0)).toArray 64)
  refine ⟨bel.trans (bb.mono hsz), ⟨hk.below bb, fun i _ => ⟨hm.below bb, n1, n2⟩, fun i j hi hj ne => by omega, fun i hi => ?_, by simp; omega⟩, ⟨l1, l2, fun _ _ => l3⟩, o1', o2⟩
  rw [o1'.cellAt i (by omega)]
  exact ptrs_at _ _ i hi
/-- What stands at each round of the law. -/
def TVS (w W : World) (r q gm cm gf cf N : Nat) (bs : Nat → Nat) (me : Nat → Me) (k : Bk) (fl : Nat → Nat → Int) : Prop := VY w W r q gm cm gf cf N N bs me k fl ∧ Mv.Wld k N me ∧ Mv.Flt k N me fl ∧ 0 < N
section
variable {w W W' : World} {r q gm cm gf cf N : Nat} {bs : Nat → Nat} {me : Nat → Me} {k k' : Bk} {fl : Nat → Nat → Int}
theorem TVS.below (h : TVS w W r q gm cm gf cf N bs me k fl) (B : Below W.heap.size W W') : TVS w W' r q gm cm gf cf N bs me k fl := ⟨h.1.below B, h.2⟩
theorem TVS.laid (h : TVS w W r q gm cm gf cf N bs me k fl) {i : Nat} (hi : i < N) {m' : Me} (u : UAt W' (bs i) r m') (f : Frm (bs i) W W') (e : m'.fr = (me i).fr) : TVS w W' r q gm cm gf cf N bs (Mv.setP me i m') k fl := by
  have ub := h.1.ub hi
  have ee : ∀ j, j < N → ∀ x, x < 16 → (Mv.setP me i m' j).fr x = (me j).fr x := fun j _ x _ => by
    by_cases c : j = i
    · subst c; rw [Mv.setP_same, e]
    · rw [Mv.setP_ne _ _ _ _ c]
  exact ⟨h.1.thr hi ⟨u, ub.bk.frm f ub.br ub.bq, ub.br, ub.bq⟩ (Thr.mem f), h.2.1.congr ee, h.2.2.1.congr ee, h.2.2.2⟩
theorem TVS.touch (h : TVS w W r q gm cm gf cf N bs me k fl) {i : Nat} (hi : i < N) {m' : Me} {z E : Int} {wr : Bool} {g : Nat} (t : Mv.TouR (me i) k z wr E g m' k') (u : UB W' (bs i) r q m' k') (T : Thr (bs i) r q W W') : TVS w W' r q gm cm gf cf N bs (Mv.setP me i m') k' fl :=
  ⟨h.1.thr hi u T, (h.2.1.touch hi t).1, h.2.2.1.touch h.2.1 hi t, h.2.2.2⟩
/-- What a touched page has. -/
theorem TVS.has (h : TVS w W r q gm cm gf cf N bs me k fl) {i x g : Nat} (hi : i < N) (hx : x < 128) (e : (me i).fr (x / 8) = g + 1) : k.byt g (x % 8) = fl i x := by
  have := h.2.2.1 i hi x hx
  rw [e, if_neg (by omega), Nat.add_sub_cancel] at this
  exact this.symm
end
end Go.Proofs.Ytnppahmlifnnnab

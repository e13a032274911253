/- Mounts: places, plain; the code's table as it lies; mounted, seen. -/
import Derived.Test.YthdadmbpnoofoaaGreatDoorUa
import Derived.Deep.CutRange
import Derived.Deep.CutBlock
namespace Go.Proofs.YthdadmbpnoofoaaGreatDoor
open Go.RowKit
open Tr (Fo Nd)

namespace Mo
/-- A place: its tree and its node; a mount: from a place to another one. -/
abbrev Wh := Int × Int
abbrev Mt := Wh × Wh
/-- A table: its root, its mounts. -/
structure Tb where
  rt : Wh
  ms : List Mt
def whA (x : Wh) : Array Value := #[.int .i64 x.1, .int .i64 x.2]
def mtC (m : Mt) : List Value := [.int .i64 m.1.1, .int .i64 m.1.2, .int .i64 m.2.1, .int .i64 m.2.2]
def mcs (L : List Mt) : List Value := L.flatMap mtC
theorem mcs_app (L M : List Mt) : mcs (L ++ M) = mcs L ++ mcs M := List.flatMap_append
theorem mcs_one (x : Mt) : mcs [x] = mtC x := by simp [mcs]
theorem mcs_len : ∀ L : List Mt, (mcs L).length = L.length * 4
  | [] => rfl
  | x :: L => by
    show (mtC x ++ mcs L).length = _
    rw [List.length_append, mcs_len L, List.length_cons]
    show 4 + _ = _
    omega
theorem mcs_at : ∀ (L : List Mt) (i j : Nat) (x : Mt), L[i]? = some x → j < 4 → (mcs L)[i * 4 + j]? = (mtC x)[j]?
  | [], _, _, _, h, _ => by simp at h
  | y :: L, 0, j, x, h, hj => by
    simp only [List.getElem?_cons_zero, Option.some.injEq] at h
    subst h
    show (mtC y ++ mcs L)[0 * 4 + j]? = _
    rw [Nat.zero_mul, Nat.zero_add, List.getElem?_append_left (by show j < 4; exact hj)]
  | y :: L, i + 1, j, x, h, hj => by
    rw [List.getElem?_cons_succ] at h
    show (mtC y ++ mcs L)[(i + 1) * 4 + j]? = _
    rw [List.getElem?_append_right (by show 4 ≤ _; omega)]
    show (mcs L)[(i + 1) * 4 + j - 4]? = _
    rw [show (i + 1) * 4 + j - 4 = i * 4 + j by omega]
    exact mcs_at L i j x h hj
/-- Which mount is from a place; -1: none. -/
def MtdTo (L : List Mt) (x : Wh) (z : Int) : Prop := (∃ i : Nat, z = i ∧ ∃ m, L[i]? = some m ∧ m.1 = x ∧ ∀ (j : Nat) (m' : Mt), j < i → L[j]? = some m' → m'.1 ≠ x) ∨ (z = -1 ∧ ∀ (j : Nat) (m' : Mt), L[j]? = some m' → m'.1 ≠ x)
theorem MtdTo.unique {L : List Mt} {x : Wh} {y z : Int} (h : MtdTo L x y) (k : MtdTo L x z) : y = z := by
  rcases h with ⟨i, rfl, m, h1, h2, h3⟩ | ⟨rfl, h1⟩ <;> rcases k with ⟨j, rfl, m', k1, k2, k3⟩ | ⟨rfl, k1⟩
  · rcases Nat.lt_trichotomy i j with c | c | c
    · exact absurd h2 (k3 i m c h1)
    · rw [c]
    · exact absurd k2 (h3 j m' c k1)
  · exact absurd h2 (k1 i m h1)
  · exact absurd k2 (h1 j m' k1)
  · rfl
/-- Where a place is seen, one mount on. -/
def lk (L : List Mt) (x : Wh) : Option Mt := L.find? fun m => decide (m.1 = x)
theorem MtdTo.find {L : List Mt} {x : Wh} {z : Int} (h : MtdTo L x z) : (∃ i : Nat, z = i ∧ i < L.length ∧ ∃ m, L[i]? = some m ∧ lk L x = some m) ∨ (z = -1 ∧ lk L x = none) := by
  rcases h with ⟨i, rfl, m, h1, h2, h3⟩ | ⟨rfl, h1⟩
  · have hi := (List.getElem?_eq_some_iff.1 h1).1
    refine .inl ⟨i, rfl, hi, m, h1, ?_⟩
    unfold lk
    rw [List.find?_eq_some_iff_getElem]
    refine ⟨by simp [h2], i, hi, (List.getElem?_eq_some_iff.1 h1).2, fun j hj => ?_⟩
    have := h3 j L[j] hj (List.getElem?_eq_getElem (by omega))
    simp [this]
  · refine .inr ⟨rfl, ?_⟩
    unfold lk
    rw [List.find?_eq_none]
    intro m hm
    obtain ⟨j, hj, e⟩ := List.getElem_of_mem hm
    have := h1 j m (by rw [List.getElem?_eq_getElem hj, e])
    simp [this]
/-- What is seen at a place: no more than k mounts are gone through. -/
def snK (L : List Mt) : Nat → Wh → Wh
  | 0, x => x
  | k + 1, x => match lk L x with
    | none => x
    | some m => snK L k m.2
def sn (L : List Mt) (x : Wh) : Wh := snK L 6 x
theorem snK_none {L : List Mt} {k : Nat} {x : Wh} (h : lk L x = none) : snK L k x = x := by
  cases k
  · rfl
  · unfold snK; rw [h]
theorem snK_some {L : List Mt} {k : Nat} {x : Wh} {m : Mt} (h : lk L x = some m) : snK L (k + 1) x = snK L k m.2 := by
  conv => lhs; unfold snK
  rw [h]
end Mo
open Mo (Wh Mt Tb)

/-- Only the blocks of which S is true have turned, of those that were there. -/
structure Onl (S : Nat → Prop) (w w' : World) : Prop where
  os : w'.os = w.os
  tape : w'.tape = w.tape
  output : w'.output = w.output
  size : w.heap.size ≤ w'.heap.size
  block : ∀ k, k < w.heap.size → ¬ S k → w'.heap[k]? = w.heap[k]?
section
variable {S : Nat → Prop} {u v w : World}
theorem Onl.refl (S : Nat → Prop) (w : World) : Onl S w w := ⟨rfl, rfl, rfl, Nat.le_refl _, fun _ _ _ => rfl⟩
theorem Onl.trans (h : Onl S u v) (k : Onl S v w) : Onl S u w :=
  ⟨k.os.trans h.os, k.tape.trans h.tape, k.output.trans h.output, Nat.le_trans h.size k.size, fun j hj hn => (k.block j (Nat.lt_of_lt_of_le hj h.size) hn).trans (h.block j hj hn)⟩
theorem Onl.mono {R : Nat → Prop} (h : Onl S u v) (k : ∀ n, n < u.heap.size → S n → R n) : Onl R u v := ⟨h.os, h.tape, h.output, h.size, fun j hj hn => h.block j hj (fun c => hn (k j hj c))⟩
theorem Onl.of_below (h : Below u.heap.size u v) : Onl S u v := ⟨h.os, h.tape, h.output, h.size, fun j hj _ => h.block j hj⟩
theorem Onl.of_frm {b : Nat} (h : Frm b u v) (hb : S b) : Onl S u v := ⟨h.os, h.tape, h.output, h.size, fun j hj hn => h.block j hj (fun e => hn (e ▸ hb))⟩
theorem Onl.behind {B : Nat} {t : World} (h : Onl S u v) (k : Below B t u) (hS : ∀ n, S n → B ≤ n) (hs : B ≤ u.heap.size) : Below B t v :=
  k.trans ⟨h.os, h.tape, h.output, h.size, fun j hj => h.block j (by omega) (fun c => by have := hS j c; omega)⟩
theorem Onl.drew (h : Onl S u v) : Onl S u v.drew := ⟨h.os, h.tape, h.output, h.size, h.block⟩
theorem Onl.setCell (h : Onl S u w) {b : Nat} (hb : S b) (o : Nat) (x : Value) : Onl S u (w.setCell ⟨b, o, none⟩ x) :=
  ⟨h.os, h.tape, h.output, by simpa [World.setCell] using h.size, fun k hk hn => (setBlk _ _ _ _ (fun e => hn (by rw [e]; exact hb))).trans (h.block k hk hn)⟩
end
/-- A row of mounts, in a block of its own, at base or behind it. -/
def MRow (w : World) (base : Nat) (L : List Mt) (v : Value) : Prop := w.ownsRow base 105 4 v L.length (Mo.mcs L)
/-- The code's table: the forest's block f, the root, the mounts. -/
structure TAt (w : World) (base b f : Nat) (T : Tb) (v : Value) : Prop where
  blk : w.heap[b]? = some (.cells #[.pointer (some ⟨f, 0, none⟩), .int .i64 T.rt.1, .int .i64 T.rt.2, v] 82 (0, 0))
  row : MRow w base T.ms v
  six : T.ms.length ≤ 6
section
variable {w w' : World} {base b f : Nat} {T : Tb} {v : Value} {L : List Mt}
theorem MRow.form (h : MRow w base L v) : (v = .slice none 0 0 ∧ L = []) ∨ ∃ g cap, v = .slice (some ⟨g, 0, none⟩) L.length cap ∧ base ≤ g ∧ g < w.heap.size ∧ L.length ≤ cap := by
  rcases h.2 with ⟨rfl, e⟩ | ⟨g, cap, cur, e, hb, hg, h1, h2, h3, h4⟩
  · exact .inl ⟨rfl, List.eq_nil_of_length_eq_zero e⟩
  · exact .inr ⟨g, cap, e, hb, (Array.getElem?_eq_some_iff.1 hg).1, h1⟩
theorem MRow.sl (h : MRow w base L v) : ∃ a c, v = .slice a L.length c := by
  rcases h.form with ⟨rfl, rfl⟩ | ⟨g, cap, rfl, _⟩
  · exact ⟨_, _, rfl⟩
  · exact ⟨_, _, rfl⟩
theorem MRow.cell {g n cap : Nat} (h : MRow w base L (.slice (some ⟨g, 0, none⟩) n cap)) (i j : Nat) (m : Mt) (hi : L[i]? = some m) (hj : j < 4) : w.cell? ⟨g, i * 4 + j, none⟩ = (Mo.mtC m)[j]? := by
  have hl := (List.getElem?_eq_some_iff.1 hi).1
  rcases h.2 with ⟨e, _⟩ | ⟨g', cap', cur, e, hb, hg, h1, h2, h3, h4⟩
  · cases e
  · cases e
    rw [cell_blk hg, ← Mo.mcs_at L i j m hi hj, ← h4]
    have hs : i * 4 + j < cur.size := by rw [h3]; omega
    rw [List.getElem?_take_of_lt (by omega), Array.getElem?_toList]
theorem MRow.frozen {g n cap : Nat} (h : MRow w base L (.slice (some ⟨g, 0, none⟩) n cap)) (o : Nat) : w.frozen? ⟨g, o, none⟩ = false := by
  rcases h.2 with ⟨e, _⟩ | ⟨g', cap', cur, e, hb, hg, _⟩
  · cases e
  · cases e
    exact frozen_blk hg o
theorem MRow.same (h : MRow w base L v) (k : ∀ g, v.ownBlock = some g → w'.heap[g]? = w.heap[g]?) : MRow w' base L v := by
  refine ⟨h.1, ?_⟩
  rcases h.2 with hn | ⟨g, cap, cur, e, hb, hg, h1, h2, h3, h4⟩
  · exact .inl hn
  · exact .inr ⟨g, cap, cur, e, hb, by rw [k g (by rw [e]; rfl)]; exact hg, h1, h2, h3, h4⟩
theorem MRow.lt (h : MRow w base L v) (g : Nat) (e : v.ownBlock = some g) : base ≤ g ∧ g < w.heap.size := by
  rcases h.2 with ⟨hn, _⟩ | ⟨g', cap, cur, hv, hb, hg, _⟩
  · rw [hn] at e; cases e
  · rw [hv] at e
    cases e
    exact ⟨hb, (Array.getElem?_eq_some_iff.1 hg).1⟩
theorem MRow.below (h : MRow w base L v) (k : Below w.heap.size w w') : MRow w' base L v := h.same (fun g e => k.block g (h.lt g e).2)
theorem TAt.lt (h : TAt w base b f T v) : b < w.heap.size := (Array.getElem?_eq_some_iff.1 h.blk).1
theorem TAt.frozen (h : TAt w base b f T v) (o : Nat) : w.frozen? ⟨b, o, none⟩ = false := frozen_blk h.blk o
theorem TAt.c0 (h : TAt w base b f T v) : w.cell? ⟨b, 0, none⟩ = some (.pointer (some ⟨f, 0, none⟩)) := by rw [cell_blk h.blk]; rfl
theorem TAt.c1 (h : TAt w base b f T v) : w.cell? ⟨b, 1, none⟩ = some (.int .i64 T.rt.1) := by rw [cell_blk h.blk]; rfl
theorem TAt.c2 (h : TAt w base b f T v) : w.cell? ⟨b, 2, none⟩ = some (.int .i64 T.rt.2) := by rw [cell_blk h.blk]; rfl
theorem TAt.c3 (h : TAt w base b f T v) : w.cell? ⟨b, 3, none⟩ = some v := by rw [cell_blk h.blk]; rfl
theorem TAt.same (h : TAt w base b f T v) (e : w'.heap[b]? = w.heap[b]?) (k : ∀ g, v.ownBlock = some g → w'.heap[g]? = w.heap[g]?) : TAt w' base b f T v := ⟨e.trans h.blk, h.row.same k, h.six⟩
theorem TAt.below (h : TAt w base b f T v) (k : Below w.heap.size w w') : TAt w' base b f T v := h.same (k.block b h.lt) (fun g e => k.block g (h.row.lt g e).2)
theorem TAt.drew (h : TAt w base b f T v) : TAt w.drew base b f T v := h.same rfl (fun _ _ => rfl)
theorem TAt.drewN (h : TAt w base b f T v) (n : Nat) : TAt (w.drewN n) base b f T v := h.same rfl (fun _ _ => rfl)
/-- Blocks of different types lie apart. -/
theorem blk_ne {w : World} {a b : Nat} {C D : Array Value} {T U : TypeId} (h : w.heap[a]? = some (.cells C T (0, 0))) (k : w.heap[b]? = some (.cells D U (0, 0))) (n : T ≠ U) : a ≠ b := by
  intro e
  subst e
  rw [h] at k
  cases k
  exact n rfl
theorem MRow.ne_of {g' : Nat} {C : Array Value} {U : TypeId} (h : MRow w base L v) (k : w.heap[g']? = some (.cells C U (0, 0))) (n : 105 ≠ U) : ∀ g, v.ownBlock = some g → g ≠ g' := fun g e => by
  rcases h.2 with ⟨hn, _⟩ | ⟨g'', cap, cur, hv, hb, hg, _⟩
  · rw [hn] at e; cases e
  · rw [hv] at e
    cases e
    exact blk_ne hg k n
end
set_option maxRecDepth 100000 in
set_option maxHeartbeats 400000 in
theorem mtd1_any (bx : Nat) (m : Mt) (x : Wh) (w : World) (h0 : w.cell? ⟨bx, 0, none⟩ = some (.int .i64 x.1)) (h1 : w.cell? ⟨bx, 1, none⟩ = some (.int .i64 x.2)) (hb : bx < w.heap.size) :
    Calls Tryz.prog 110 #[.agg #[.int .i64 m.1.1, .int .i64 m.1.2, .int .i64 m.2.1, .int .i64 m.2.2], .pointer (some ⟨bx, 0, none⟩)] w fun e w' => e = .returned (.bool (decide (m.1 = x))) ∧ Below w.heap.size w w' := by
  have hne : bx ≠ w.heap.size := by omega
  rcases m with ⟨⟨p, q⟩, r, t⟩
  rcases x with ⟨y, z⟩
  simp only at h0 h1
  show Calls Tryz.prog 110 #[.agg #[.int .i64 p, .int .i64 q, .int .i64 r, .int .i64 t], .pointer (some ⟨bx, 0, none⟩)] w fun e w' => e = .returned (.bool (decide ((p, q) = (y, z)))) ∧ Below w.heap.size w w'
  by_cases e1 : p = y
  · by_cases e2 : q = z
    · rw [decide_eq_true (by rw [e1, e2])]
      subst e1 e2
      go_enter Tryz.func110, Tryz.ntmps110
      go_wp2_with fail
      go_ret
      exact ⟨rfl, (Below.refl _ _).alloc (Nat.le_refl _) _⟩
    · rw [decide_eq_false (by simp [e2])]
      subst e1
      have e2' : (q == z) = false := by simpa using e2
      go_enter Tryz.func110, Tryz.ntmps110
      go_wp2_with fail
      go_ret
      exact ⟨rfl, (Below.refl _ _).alloc (Nat.le_refl _) _⟩
  · rw [decide_eq_false (by simp [e1])]
    have e1' : (p == y) = false := by simpa using e1
    go_enter Tryz.func110, Tryz.ntmps110
    go_wp2_with fail
    go_ret
    exact ⟨rfl, (Below.refl _ _).alloc (Nat.le_refl _) _⟩
set_option maxRecDepth 100000 in
set_option maxHeartbeats 1000000 in
theorem mindex_any (bx base : Nat) (L : List Mt) (v : Value) (x : Wh) (w : World) (h : MRow w base L v) (h0 : w.cell? ⟨bx, 0, none⟩ = some (.int .i64 x.1)) (h1 : w.cell? ⟨bx, 1, none⟩ = some (.int .i64 x.2)) (h6 : L.length ≤ 6) :
    Calls Tryz.prog 109 #[v, .func (.func 110) #[] #[.pointer (some ⟨bx, 0, none⟩)]] w fun e w' => ∃ z : Int, e = .returned (.int .i64 z) ∧ Mo.MtdTo L x z ∧ Below w.heap.size w w' := by
  have HB := Hid.intro (World.block_lt_of_cell? _ _ h0)
  rcases h.form with ⟨rfl, rfl⟩ | ⟨g, cap, rfl, hb, hg, hc⟩
  · have FIN : Hid (Mo.MtdTo [] x (-1)) := Hid.intro (.inr ⟨rfl, fun j m' e => by simp at e⟩)
    clear h
    go_enter Tryz.func109, Tryz.ntmps109
    go_wp2_with fail
    go_loopw [5, 8] (fun _ i wr => i = .int .i64 0 ∧ wr = w) (fun _ i _ => 0)
    case atStart => exact ⟨rfl, rfl⟩
    case round =>
      obtain ⟨rfl, hw⟩ := hrel
      subst hw
      go_wp2_with fail
      go_ret
      exact ⟨_, rfl, FIN.out, Below.refl _ _⟩
  · have HR := Hid.intro h
    have HX := Hid.intro (And.intro h0 h1)
    obtain ⟨N, hN⟩ : ∃ N, L.length = N := ⟨_, rfl⟩
    have HN := Hid.intro hN
    rw [hN] at h6 HR ⊢
    clear h h0 h1 hc hN hb hg
    go_enter Tryz.func109, Tryz.ntmps109
    go_wp2_with fail
    go_loopw [5, 8] (fun _ i wr => ∃ (j : Nat), i = .int .i64 j ∧ j ≤ N ∧ Hid (Below w.heap.size w wr ∧ ∀ (y : Nat) (m' : Mt), y < j → L[y]? = some m' → m'.1 ≠ x)) (fun _ i _ => N - (intOf i).toNat)
    case atStart => exact ⟨0, rfl, by omega, Below.refl _ _, fun y _ hy => by omega⟩
    case round =>
      obtain ⟨j, rfl, hj, R⟩ := hrel
      by_cases hlt : j < N
      · have hltI : (j : Int) < (N : Int) := by omega
        obtain ⟨m, hm⟩ : ∃ m, L[j]? = some m := ⟨L[j]'(by rw [HN.out]; exact hlt), List.getElem?_eq_getElem _⟩
        have HM := Hid.intro hm
        have RR := HR.out.below R.out.1
        have c0 : wr.cell? ⟨g, j * 4, none⟩ = some (.int .i64 m.1.1) := RR.cell j 0 m hm (by omega)
        have c1 : wr.cell? ⟨g, j * 4 + 1, none⟩ = some (.int .i64 m.1.2) := RR.cell j 1 m hm (by omega)
        have c2 : wr.cell? ⟨g, j * 4 + 2, none⟩ = some (.int .i64 m.2.1) := RR.cell j 2 m hm (by omega)
        have c3 : wr.cell? ⟨g, j * 4 + 3, none⟩ = some (.int .i64 m.2.2) := RR.cell j 3 m hm (by omega)
        clear RR hm
        go_wp2_with fail
        refine (mtd1_any bx m x _ ((R.out.1.cell HB.out).trans HX.out.1) ((R.out.1.cell HB.out).trans HX.out.2) (Nat.lt_of_lt_of_le HB.out R.out.1.size)).mono ?_
        rintro e w1 ⟨rfl, b1⟩
        have B1 := Hid.intro (R.out.1.trans (b1.mono R.out.1.size))
        clear b1 c0 c1 c2 c3
        by_cases e : m.1 = x
        · have FIN : Hid (Mo.MtdTo L x (j : Int)) := Hid.intro (.inl ⟨j, rfl, m, HM.out, e, R.out.2⟩)
          rw [decide_eq_true e]
          clear e
          go_wp2_with fail
          go_ret
          exact ⟨_, rfl, FIN.out, B1.out⟩
        · have NX : Hid (∀ (y : Nat) (m' : Mt), y < j + 1 → L[y]? = some m' → m'.1 ≠ x) := Hid.intro (fun y m' hy hm' => by
            by_cases d : y = j
            · subst d
              have := HM.out
              rw [hm'] at this
              cases this
              exact e
            · exact R.out.2 y m' (by omega) hm')
          rw [decide_eq_false e]
          clear e
          go_wp2_with fail
          go_roundw
          case rel => exact ⟨j + 1, by go_num, by omega, B1.out, NX.out⟩
          case measure => simp [intOf]; omega
      · have hltI : ¬ (j : Int) < (N : Int) := by omega
        have FIN : Hid (Mo.MtdTo L x (-1)) := Hid.intro (.inr ⟨rfl, fun y m' hy => R.out.2 y m' (by have := (List.getElem?_eq_some_iff.1 hy).1; rw [HN.out] at this; omega) hy⟩)
        go_wp2_with fail
        go_ret
        exact ⟨_, rfl, FIN.out, R.out.1⟩
theorem boxWh (w : World) (x : Wh) : (w.alloc (.cells #[.int .i64 x.1, .int .i64 x.2] 56)).cell? ⟨w.heap.size, 0, none⟩ = some (.int .i64 x.1) ∧ (w.alloc (.cells #[.int .i64 x.1, .int .i64 x.2] 56)).cell? ⟨w.heap.size, 1, none⟩ = some (.int .i64 x.2) := by
  rw [cell_blk (heap_alloc_new w _), cell_blk (heap_alloc_new w _)]
  exact ⟨rfl, rfl⟩
set_option maxRecDepth 100000 in
set_option maxHeartbeats 400000 in
theorem mounted_any (base b f : Nat) (T : Tb) (v : Value) (x : Wh) (w : World) (h : TAt w base b f T v) :
    Calls Tryz.prog 93 #[.pointer (some ⟨b, 0, none⟩), .agg #[.int .i64 x.1, .int .i64 x.2]] w fun e w' => ∃ z : Int, e = .returned (.int .i64 z) ∧ Mo.MtdTo T.ms x z ∧ Below w.heap.size w w' := by
  obtain ⟨va, vc, hv⟩ := h.row.sl
  have HV := Hid.intro hv
  have bb : Below w.heap.size w (w.alloc (.cells #[.int .i64 x.1, .int .i64 x.2] 56)) := (Below.refl _ _).alloc (Nat.le_refl _) _
  have S1 := Hid.intro (And.intro (h.below bb) bb)
  have BX := Hid.intro (boxWh w x)
  have c3 := h.c3
  rw [hv] at c3
  have hl := h.lt
  have hne : b ≠ w.heap.size := by omega
  clear h bb hv
  go_enter Tryz.func93, Tryz.ntmps93
  go_wp2_with fail
  rw [← HV.out]
  refine (mindex_any w.heap.size base T.ms v x _ S1.out.1.row BX.out.1 BX.out.2 S1.out.1.six).mono ?_
  rintro e w1 ⟨z, rfl, hz, b1⟩
  have FIN := Hid.intro (And.intro hz (S1.out.2.trans (b1.mono S1.out.2.size)))
  clear hz b1
  go_wp2_with fail
  go_ret
  exact ⟨z, rfl, FIN.out⟩
end Go.Proofs.YthdadmbpnoofoaaGreatDoor

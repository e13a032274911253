/- The document's own memory: Touch. -/
import Derived.Test.YtnppahmlifnnnabMc
import Derived.Test.YtnppahmlifnnnabMf
namespace Go.Proofs.Ytnppahmlifnnnab
open Go.RowKit
open Bd (P)
open Mv (Me Bk)

namespace Mv
/-- A frame's bytes are copied. -/
def cpy (k : Bk) (f g : Nat) : Bk := { k with byt := fun a i => if a = g then k.byt f i else k.byt a i }
/-- A page is touched: what comes, and what it leaves. -/
def TouR (m : Me) (k : Bk) (z : Int) (wr : Bool) (E : Int) (g : Nat) (m' : Me) (k' : Bk) : Prop :=
  (mayB m z wr = false ∧ E = 10 ∧ g = 0 ∧ m' = m ∧ k' = k) ∨
  (mayB m z wr = true ∧ m.fr (z.toNat / 8) ≠ 0 ∧ (wr = false ∨ k.refs (m.fr (z.toNat / 8) - 1) = 1) ∧ E = 0 ∧ g = m.fr (z.toNat / 8) - 1 ∧ m' = m ∧ k' = k) ∨
  (mayB m z wr = true ∧ ¬ (m.fr (z.toNat / 8) ≠ 0 ∧ (wr = false ∨ k.refs (m.fr (z.toNat / 8) - 1) = 1)) ∧ ∃ k1, TakK k E g k1 ∧
    ((E ≠ 0 ∧ m' = m ∧ k' = k1) ∨ (E = 0 ∧ m' = { m with fr := upn m.fr (z.toNat / 8) (g + 1) } ∧ k' = if m.fr (z.toNat / 8) = 0 then k1 else drp (cpy k1 (m.fr (z.toNat / 8) - 1) g) (m.fr (z.toNat / 8) - 1))))
theorem TouR.unique {m : Me} {k : Bk} {z : Int} {wr : Bool} {E F : Int} {g h : Nat} {m1 m2 : Me} {k1 k2 : Bk} (x : TouR m k z wr E g m1 k1) (y : TouR m k z wr F h m2 k2) : E = F ∧ g = h ∧ m1 = m2 ∧ k1 = k2 := by
  rcases x with ⟨a, rfl, rfl, rfl, rfl⟩ | ⟨a, b, c, rfl, rfl, rfl, rfl⟩ | ⟨a, b, kk, t, c⟩ <;> rcases y with ⟨a', rfl, rfl, rfl, rfl⟩ | ⟨a', b', c', rfl, rfl, rfl, rfl⟩ | ⟨a', b', kk', t', c'⟩
  · exact ⟨rfl, rfl, rfl, rfl⟩
  · rw [a] at a'; cases a'
  · rw [a] at a'; cases a'
  · rw [a] at a'; cases a'
  · exact ⟨rfl, rfl, rfl, rfl⟩
  · exact absurd ⟨b, c⟩ b'
  · rw [a] at a'; cases a'
  · exact absurd ⟨b', c'⟩ b
  · obtain ⟨rfl, rfl, rfl⟩ := t.unique t'
    rcases c with ⟨e, rfl, rfl⟩ | ⟨e, rfl, rfl⟩ <;> rcases c' with ⟨e', rfl, rfl⟩ | ⟨e', rfl, rfl⟩
    · exact ⟨rfl, rfl, rfl, rfl⟩
    · exact absurd e' e
    · exact absurd e e'
    · exact ⟨rfl, rfl, rfl, rfl⟩
end Mv

/-- Only blocks b, r and q have changed. -/
structure Thr (b r q : Nat) (w w' : World) : Prop where
  os : w'.os = w.os
  tape : w'.tape = w.tape
  output : w'.output = w.output
  size : w.heap.size ≤ w'.heap.size
  block : ∀ k, k < w.heap.size → k ≠ b → k ≠ r → k ≠ q → w'.heap[k]? = w.heap[k]?
section
variable {b r q : Nat} {u v w : World}
theorem Thr.refl (b r q : Nat) (w : World) : Thr b r q w w := ⟨rfl, rfl, rfl, Nat.le_refl _, fun _ _ _ _ _ => rfl⟩
theorem Thr.trans (h : Thr b r q u v) (k : Thr b r q v w) : Thr b r q u w := ⟨k.os.trans h.os, k.tape.trans h.tape, k.output.trans h.output, Nat.le_trans h.size k.size, fun j hj h1 h2 h3 => (k.block j (Nat.lt_of_lt_of_le hj h.size) h1 h2 h3).trans (h.block j hj h1 h2 h3)⟩
theorem Thr.mem (h : Frm b u v) : Thr b r q u v := ⟨h.os, h.tape, h.output, h.size, fun k hk h1 _ _ => h.block k hk h1⟩
theorem Thr.bank (h : Two r q u v) : Thr b r q u v := ⟨h.os, h.tape, h.output, h.size, fun k hk _ h1 h2 => h.block k hk h1 h2⟩
/-- The memory changes, the bank stays. -/
theorem NAt.frm {k : Bk} (h : NAt u r q k) (f : Frm b u v) (h1 : b ≠ r) (h2 : b ≠ q) : NAt v r q k := h.same (f.block r h.lt (Ne.symm h1)) (f.block q h.ltq (Ne.symm h2))
theorem MAt.two {m : Me} {own : Nat → Bool} (h : MAt u b r m own) (f : Two r q u v) (h1 : b ≠ r) (h2 : b ≠ q) : MAt v b r m own := h.same (f.block b h.lt h1 h2)
end
/-- A memory and its bank lie there. -/
structure MB (w : World) (b r q : Nat) (m : Me) (own : Nat → Bool) (k : Bk) : Prop where
  me : MAt w b r m own
  bk : NAt w r q k
  br : b ≠ r
  bq : b ≠ q
/-- What a touch finds so: the bank's pool is whole; a page's frame is one, and is held; one's own is held once. -/
structure Good (m : Me) (own : Nat → Bool) (k : Bk) : Prop where
  inv : Bd.Inv k.pool
  nb : Bd.NB k.pool 64
  le : ∀ i, i < 16 → m.fr i ≤ 64
  held : ∀ i, i < 16 → m.fr i ≠ 0 → 1 ≤ k.refs (m.fr i - 1) ∧ k.refs (m.fr i - 1) < 2 ^ 59
  own : ∀ i, i < 16 → own i = true → m.fr i ≠ 0 ∧ k.refs (m.fr i - 1) = 1

def TouP (b r q : Nat) (z : Int) (wr : Bool) (m : Me) (own : Nat → Bool) (k : Bk) (w : World) (e : Ending) (w' : World) : Prop :=
  ∃ (E : Int) (g : Nat) (m' : Me) (k' : Bk) (own' : Nat → Bool), e = .returned (.tuple #[.int .i64 g, .int .i64 E]) ∧ Mv.TouR m k z wr E g m' k' ∧ MB w' b r q m' own' k' ∧ Thr b r q w w' ∧
    (own' = own ∨ (own' = upo own (z.toNat / 8) true ∧ E = 0 ∧ (m.fr (z.toNat / 8) = 0 ∨ wr = true)))

section
attribute [local go_sem] div8
set_option maxRecDepth 100000 in
set_option maxHeartbeats 1000000 in
theorem touch_no (b r q : Nat) (z : Int) (wr : Bool) (m : Me) (own : Nat → Bool) (k : Bk) (w : World) (h : MB w b r q m own k) (hm : Mv.mayB m z wr = false) :
    Calls Try.prog 126 #[.pointer (some ⟨b, 0, none⟩), .int .i64 z, .bool wr] w (TouP b r q z wr m own k w) := by
  have HF := Hid.intro (And.intro h hm)
  clear h hm
  go_enter Try.func126, Try.ntmps126
  go_wp2_with fail
  refine (may_any b r z wr m own _ HF.out.1.me).mono ?_
  rintro e w1 ⟨rfl, hw⟩
  subst w1
  rw [HF.out.2]
  go_wp2_with fail
  go_ret2
  exact ⟨10, 0, m, k, own, rfl, .inl ⟨HF.out.2, rfl, rfl, rfl, rfl⟩, HF.out.1, Thr.refl _ _ _ _, .inl rfl⟩
end
end Go.Proofs.Ytnppahmlifnnnab

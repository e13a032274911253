/- The code's bank: a new one, Left, Refs, leave; a new memory. -/
import Derived.Test.YtnppahmlifnnnabNa
import Derived.Deep.CutRange
import Derived.Deep.CutBlock
namespace Go.Proofs.Ytnppahmlifnnnab
open Go.RowKit
open Bd (P)
open Mv (Me Bk)

def vzA : Array Value := ((List.range 577).map fun i => if i = 0 then Value.pointer none else if (i - 1) % 9 = 0 then Value.int .i64 0 else .int .u8 0).toArray
set_option maxRecDepth 100000 in
theorem vz_eq : Try.zeroCells110 = vzA := by kernel_rfl
theorem vz_at (i : Nat) (h : i < 577) : vzA[i]? = some (if i = 0 then Value.pointer none else if (i - 1) % 9 = 0 then Value.int .i64 0 else .int .u8 0) := by simp [vzA, h]
theorem v_new {w : World} {r q : Nat} (h : w.heap[r]? = some (.cells (vzA.setIfInBounds 0 (.pointer (some ⟨q, 0, none⟩))) 110 (0, 0))) (hp : CAt w q Bd.b0) (hne : q ≠ r) : VAt w r q Mv.bk0 := by
  refine ⟨⟨_, h, by simp [vzA]⟩, fun o ho => ?_, hp, hne⟩
  rw [cell_blk h]
  unfold cellV
  by_cases c : o = 0
  · subst c; rw [Array.getElem?_setIfInBounds_self_of_lt (by simp [vzA]), if_pos rfl]
  · rw [Array.getElem?_setIfInBounds_ne (by omega), vz_at o ho, if_neg c, if_neg c]
    split <;> rfl
set_option maxRecDepth 100000 in
set_option maxHeartbeats 1000000 in
theorem vnewBank_any (w : World) : Calls Try.prog 11 #[] w fun e w' => ∃ r, e = .returned (.pointer (some ⟨r, 0, none⟩)) ∧ VAt w' r w.heap.size Mv.bk0 ∧ Below w.heap.size w w' ∧ w.heap.size < r := by
  go_enter Try.func11, Try.ntmps11
  go_wp2_with fail
  refine (cnew_any _).mono ?_
  rintro e w1 ⟨rfl, hk, hb, hs⟩
  have FIN : Hid (VAt (w1.alloc (.cells (Try.zeroCells110.setIfInBounds 0 (.pointer (some ⟨w.heap.size, 0, none⟩))) 110)) w1.heap.size w.heap.size Mv.bk0 ∧ Below w.heap.size w (w1.alloc (.cells (Try.zeroCells110.setIfInBounds 0 (.pointer (some ⟨w.heap.size, 0, none⟩))) 110)) ∧ w.heap.size < w1.heap.size) := Hid.intro (by
    rw [vz_eq]
    have bb : Below w1.heap.size w1 (w1.alloc (.cells (vzA.setIfInBounds 0 (.pointer (some ⟨w.heap.size, 0, none⟩))) 110)) := (Below.refl _ _).alloc (Nat.le_refl _) _
    exact ⟨v_new (heap_alloc_new w1 _) (hk.same (bb.block _ hs)) (by omega), hb.alloc (by omega) _, hs⟩)
  clear hk hb hs
  go_wp2_with fail
  go_ret
  exact ⟨_, rfl, FIN.out⟩
set_option maxRecDepth 100000 in
theorem vleft_any (r q : Nat) (k : Bk) (w : World) (h : VAt w r q k) (hl : ∀ i, i < 64 → k.pool.ord i ≤ 7) :
    Calls Try.prog 17 #[.pointer (some ⟨r, 0, none⟩)] w fun e w' => e = .returned (.int .i64 (Bd.left k.pool : Int)) ∧ Below w.heap.size w w' := by
  have HF := Hid.intro (And.intro h hl)
  have c0 := h.cP
  clear h hl
  go_enter Try.func17, Try.ntmps17
  go_wp2_with fail
  refine (cleft_any q k.pool _ HF.out.1.pool HF.out.2).mono ?_
  rintro e w1 ⟨rfl, hb⟩
  have HB := Hid.intro hb
  clear hb
  go_wp2_with fail
  go_ret
  exact ⟨rfl, HB.out⟩
set_option maxRecDepth 100000 in
theorem vrefs_any (r q f : Nat) (k : Bk) (w : World) (h : VAt w r q k) (hf : f < 64) :
    Calls Try.prog 20 #[.pointer (some ⟨r, 0, none⟩), .int .i64 f] w fun e w' => e = .returned (.tuple #[.int .i64 (k.refs f : Int), errV 0]) ∧ w' = w := by
  have c0 := h.cRefs f hf
  have h1 : (f : Int) < 64 := by omega
  have h2 : decide (64 ≤ (f : Int)) = false := by simp; omega
  clear h
  go_enter Try.func20, Try.ntmps20
  go_wp2_with fail
  go_ret2
  exact ⟨rfl, rfl⟩
set_option maxRecDepth 100000 in
set_option maxHeartbeats 1000000 in
theorem vleave_any (r q f : Nat) (k : Bk) (w : World) (h : VAt w r q k) (hf : f < 64) (hI : Bd.Inv k.pool) (h1 : 1 ≤ k.refs f) (h2 : k.refs f < 2 ^ 60) :
    Calls Try.prog 85 #[.pointer (some ⟨r, 0, none⟩), .int .i64 f] w fun e w' => e = .returned (.tuple #[]) ∧ VAt w' r q (Mv.drp k f) ∧ Two r q w w' := by
  have HI := Hid.intro hI
  have c1 := h.cRefs f hf
  have cf := h.frozen
  have fI : (f : Int) < 64 := by omega
  obtain ⟨n, hn⟩ : ∃ n, k.refs f = n + 1 := ⟨k.refs f - 1, by omega⟩
  have S1 : Hid (VAt ((w.setCell ⟨r, 1 + f * 9, none⟩ (.int .i64 (n : Int))).drew) r q { k with refs := fun g => if g = f then n else k.refs g } ∧ Two r q w ((w.setCell ⟨r, 1 + f * 9, none⟩ (.int .i64 (n : Int))).drew)) := Hid.intro ⟨(h.setRefs f n hf).drew, ((Two.refl r q w).left ((Frm.refl r w).setCell _ _)).drew⟩
  have HD : Hid (Mv.drp k f = { k with refs := fun g => if g = f then n else k.refs g, pool := if n = 0 then Bd.giveT k.pool f else k.pool }) := Hid.intro (by
    unfold Mv.drp
    rw [hn, show n + 1 - 1 = n from rfl]
    cases n <;> rfl)
  rw [hn] at c1 h2
  have hw : IntKind.i64.wrap (((n + 1 : Nat) : Int) - 1) = (n : Int) := by rw [IntWalk.i64_in _ ⟨by omega, by omega⟩]; omega
  clear h hI h1 hn
  go_enter Try.func85, Try.ntmps85
  go_wp2_with fail
  go_region
  generalize hW1 : World.drew _ = W1
  have S2 : Hid (VAt W1 r q { k with refs := fun g => if g = f then n else k.refs g } ∧ Two r q w W1) := Hid.intro (by rw [← hW1]; exact S1.out)
  have d1 : W1.cell? ⟨r, 1 + f * 9, none⟩ = some (.int .i64 (n : Int)) := by
    have := S2.out.1.cRefs f hf
    rw [this]
    show some (Value.int .i64 (((if f = f then n else k.refs f) : Nat) : Int)) = _
    rw [if_pos rfl]
  have d0 := S2.out.1.cP
  clear hW1 c1 cf S1
  by_cases e0 : n = 0
  · subst e0
    have d1' : W1.cell? ⟨r, 1 + f * 9, none⟩ = some (.int .i64 0) := d1
    clear d1
    go_wp2_with fail
    refine (cgive_any q f k.pool _ S2.out.1.pool HI.out).mono ?_
    rintro e w2 ⟨rfl, kp, F⟩
    have S3 : Hid (VAt w2 r q (Mv.drp k f) ∧ Two r q w w2) := Hid.intro ⟨by rw [HD.out]; exact S2.out.1.withPool F kp, S2.out.2.right F⟩
    clear kp F
    go_wp2_with fail
    go_end0
    exact ⟨rfl, S3.out⟩
  · have e0' : ((n : Int) == 0) = false := by simp; omega
    have S3 : Hid (VAt W1 r q (Mv.drp k f) ∧ Two r q w W1) := Hid.intro ⟨by rw [HD.out, if_neg e0]; exact S2.out.1, S2.out.2⟩
    go_wp2_with fail
    go_end0
    exact ⟨rfl, S3.out⟩

/-- A frame is taken for one page, with those bytes. -/
def Mv.TakV (k : Bk) (g : Nat → Int) (e : Int) (f : Nat) (k' : Bk) : Prop := ∃ p', Bd.TakeTo k.pool 0 e f p' ∧ k' = if e = 0 then Mv.setF { k with pool := p' } f 1 g else { k with pool := p' }
set_option maxRecDepth 100000 in
set_option maxHeartbeats 1000000 in
theorem vtake_any (r q : Nat) (g : Nat → Int) (k : Bk) (w : World) (h : VAt w r q k) (hI : Bd.Inv k.pool) (hN : Bd.NB k.pool 64) :
    Calls Try.prog 148 #[.pointer (some ⟨r, 0, none⟩), .agg (by8 g)] w fun e w' => ∃ (f : Nat) (E : Int) (k' : Bk), e = .returned (.tuple #[.int .i64 f, errV E]) ∧ Mv.TakV k g E f k' ∧ VAt w' r q k' ∧ Two r q w w' := by
  have HI := Hid.intro (And.intro hI hN)
  have HF : Hid (∀ C, VAt (w.alloc (.cells C 46)) r q k ∧ Below w.heap.size w (w.alloc (.cells C 46))) := Hid.intro (fun C => ⟨h.below ((Below.refl _ _).alloc (Nat.le_refl _) _), (Below.refl _ _).alloc (Nat.le_refl _) _⟩)
  have HL := Hid.intro (And.intro h.lt h.ltq)
  clear h hI hN
  go_enter Try.func148, Try.ntmps148
  go_upto_region 1 with fail
  refine wp_gen (fun W => VAt W r q k ∧ Below w.heap.size w W ∧ W.heap[w.heap.size]? = some (.cells (by8 g) 46 (0, 0))) ⟨(HF.out _).1, (HF.out _).2, heap_alloc_new w _⟩ ?_
  rintro W1 ⟨h1, b1, x1⟩
  have NE : Hid (w.heap.size ≠ r ∧ w.heap.size ≠ q) := Hid.intro (by have := HL.out; omega)
  have H1 := Hid.intro (And.intro h1 (And.intro b1 x1))
  obtain ⟨bx, hbx⟩ : ∃ bx, w.heap.size = bx := ⟨_, rfl⟩
  have HS := Hid.intro hbx
  rw [hbx] at H1 NE
  rw [hbx]
  clear hbx
  have c0 := h1.cP
  clear h1 b1 x1 HF
  go_wp2_with fail
  refine (ctake_any q 0 k.pool _ H1.out.1.pool HI.out.1 HI.out.2).mono ?_
  rintro e w1 ⟨f, E, p', rfl, ht, kp, F⟩
  have hf := TakeTo0_lt ht
  have h1 : Hid (VAt w1 r q { k with pool := p' }) := Hid.intro (H1.out.1.withPool F kp)
  have HB : Hid (Two r q w w1) := Hid.intro ⟨F.os.trans H1.out.2.1.os, F.tape.trans H1.out.2.1.tape, F.output.trans H1.out.2.1.output, Nat.le_trans H1.out.2.1.size F.size, fun j hj _ h3 => (F.block j (Nat.lt_of_lt_of_le hj H1.out.2.1.size) h3).trans (H1.out.2.1.block j (by have := HS.out; omega))⟩
  have HT := Hid.intro ht
  have x2 : w1.heap[bx]? = some (.cells (by8 g) 46 (0, 0)) := (F.block bx (Array.getElem?_eq_some_iff.1 H1.out.2.2).1 NE.out.2).trans H1.out.2.2
  by_cases e0 : E = 0
  · subst e0
    have fI : (f : Int) < 64 := by omega
    have l0 : w1.cell? ⟨bx, 0, none⟩ = some (.int .u8 (g 0)) := act_cells x2 0 _ (by8_at g 0 (by omega))
    have l1 := act_cells x2 1 _ (by8_at g 1 (by omega))
    have l2 := act_cells x2 2 _ (by8_at g 2 (by omega))
    have l3 := act_cells x2 3 _ (by8_at g 3 (by omega))
    have l4 := act_cells x2 4 _ (by8_at g 4 (by omega))
    have l5 := act_cells x2 5 _ (by8_at g 5 (by omega))
    have l6 := act_cells x2 6 _ (by8_at g 6 (by omega))
    have l7 := act_cells x2 7 _ (by8_at g 7 (by omega))
    have s0 := h1.out.cRefs f hf
    have s1 : w1.cell? ⟨r, 1 + f * 9 + 1, none⟩ = some (.int .u8 (k.byt f 0)) := h1.out.cB f 0 hf (by omega)
    have s2 : w1.cell? ⟨r, 1 + f * 9 + 2, none⟩ = some (.int .u8 (k.byt f 1)) := h1.out.cB f 1 hf (by omega)
    have s3 : w1.cell? ⟨r, 1 + f * 9 + 3, none⟩ = some (.int .u8 (k.byt f 2)) := h1.out.cB f 2 hf (by omega)
    have s4 : w1.cell? ⟨r, 1 + f * 9 + 4, none⟩ = some (.int .u8 (k.byt f 3)) := h1.out.cB f 3 hf (by omega)
    have s5 : w1.cell? ⟨r, 1 + f * 9 + 5, none⟩ = some (.int .u8 (k.byt f 4)) := h1.out.cB f 4 hf (by omega)
    have s6 : w1.cell? ⟨r, 1 + f * 9 + 6, none⟩ = some (.int .u8 (k.byt f 5)) := h1.out.cB f 5 hf (by omega)
    have s7 : w1.cell? ⟨r, 1 + f * 9 + 7, none⟩ = some (.int .u8 (k.byt f 6)) := h1.out.cB f 6 hf (by omega)
    have s8 : w1.cell? ⟨r, 1 + f * 9 + 8, none⟩ = some (.int .u8 (k.byt f 7)) := h1.out.cB f 7 hf (by omega)
    have fz := h1.out.frozen
    rw [errV_zero]
    clear ht kp F x2 c0
    go_wp2_with fail
    go_region
    generalize hW : World.drew _ = W2
    have S2 : Hid (VAt W2 r q (Mv.setF { k with pool := p' } f 1 g) ∧ Frm r w1 W2) := Hid.intro (by
      rw [← hW]
      have a : VAt (w1.setCells r (1 + f * 9) (fr9 ((1 : Nat) : Int) g).toList).drew r q (Mv.setF { k with pool := p' } f 1 g) := (h1.out.setFrame f 1 hf g).drew
      have b : Frm r w1 (w1.setCells r (1 + f * 9) (fr9 ((1 : Nat) : Int) g).toList).drew := (Frm.setCells _ _ (Frm.refl r w1)).drew
      exact ⟨a, b⟩)
    clear l0 s0 l1 s1 l2 s2 l3 s3 l4 s4 l5 s5 l6 s6 l7 s7 s8 fz hW
    go_wp2_with fail
    go_ret2
    exact ⟨f, 0, _, rfl, ⟨p', HT.out, by rw [if_pos rfl]⟩, S2.out.1, HB.out.left S2.out.2⟩
  · rw [errV_ne e0]
    have r0 : f = 0 := by
      rcases ht with ⟨_, _, c, _⟩ | ⟨_, _, _, c, _⟩ | ⟨_, _, c, _⟩
      · exact c
      · exact c
      · exact absurd c e0
    have HE := Hid.intro e0
    subst r0
    clear ht kp F x2 c0 e0
    go_wp2_with fail
    go_ret2
    exact ⟨0, E, _, by rw [errV_ne HE.out]; rfl, ⟨p', HT.out, by rw [if_neg HE.out]⟩, h1.out, HB.out⟩
end Go.Proofs.Ytnppahmlifnnnab

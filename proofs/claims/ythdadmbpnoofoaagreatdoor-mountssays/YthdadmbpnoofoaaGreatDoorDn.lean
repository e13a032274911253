/- MountsSays: both sides in step. -/
import Derived.Test.YthdadmbpnoofoaaGreatDoorDm
import Derived.Test.YthdadmbpnoofoaaGreatDoorDi
namespace Go.Proofs.YthdadmbpnoofoaaGreatDoor
open Go.RowKit
open Tr (Fo Nd)
open Mo (Wh Mt Tb)

/-- Blocks turn where none of its lists lies, ahead of it too; new ones, where none of them may lie from now on. -/
theorem FR.grow2 {W W' : World} {f : Nat} {B : Bs} {F : Fo} {R : Nat → Tr.RN} {rv : Value} (h : FR B W f F R rv) {S Y : Nat → Prop} (k : Onl S W W') (hS : ∀ n, S n → B.av n ∨ n < B.base) (hf : ¬ S f) (hY : ∀ g, Y g → W.heap.size ≤ g ∧ g < W'.heap.size) : FR ⟨B.base, fun g => B.av g ∨ Y g⟩ W' f F R rv := by
  have no : ∀ g, Oth B f rv g → ¬ S g := fun g hg c => by
    rcases hS g c with e | e
    · exact hg.2.2.2 e
    · have := hg.1; omega
  have lv : ∀ xs v, LV (Oth B f rv) xs v W → LV (Oth ⟨B.base, fun g => B.av g ∨ Y g⟩ f rv) xs v W' := fun xs v l => by
    have l1 := l.mono (Q := fun g => Oth B f rv g ∧ g < W.heap.size) (fun g hg hl => ⟨hg, hl⟩)
    have l2 := l1.kept k.size (fun g hg hl => k.block g hl (no g hg.1))
    exact l2.mono (fun g hg _ => ⟨hg.1.1, hg.1.2.1, hg.1.2.2.1, fun e => by
      rcases e with e | e
      · exact hg.1.2.2.2 e
      · have := (hY g e).1
        have := hg.2
        omega⟩)
  refine ⟨h.rb.same (k.block f h.rb.lt hf), h.le, ?_, h.ob, fun n hn => ?_, fun g hg => ?_, fun g hg e => ?_⟩
  · refine ⟨h.own.1, ?_⟩
    rcases h.own.2 with hn | ⟨g, cap, cur, e, hb, hg, h1⟩
    · exact .inl hn
    · exact .inr ⟨g, cap, cur, e, hb, by
        rw [k.block g (Array.getElem?_eq_some_iff.1 hg).1 (fun c => by
          rcases hS g c with q | q
          · exact h.ra g (by rw [e]; rfl) q
          · omega)]
        exact hg, h1⟩
  · have q := h.nd n hn
    exact ⟨q.kd, q.nm, q.up, fun c => lv _ _ (q.ns c), fun c => lv _ _ (q.ks c), q.fl⟩
  · rcases hg with e | e
    · exact Nat.lt_of_lt_of_le (h.bd g e) k.size
    · exact (hY g e).2
  · rcases e with e | e
    · exact h.ra g hg e
    · have := (hY g e).1
      have := (h.own.lt g hg).2
      omega
/-- The code's forest f and table b, the document's forest g and table m. -/
structure MS (w W : World) (f b g m : Nat) (B : Bs) (T : Tb) (v : Value) (F : Fo) (T' : Tb) (v' : Value) (F' : Fo) : Prop where
  bel : Below w.heap.size w W
  co : FAt W f F
  ct : TAt W w.heap.size b f T v
  rm : RM W w.heap.size m g B T' v' F'
  lf : w.heap.size ≤ f
  lb : w.heap.size ≤ b
  lg : w.heap.size ≤ g
  lm : w.heap.size ≤ m
  fb : f < B.base
  ab : B.av b
  av : ∀ n, v.ownBlock = some n → B.av n
  sp : ∀ n, v.ownBlock = some n → v'.ownBlock ≠ some n
section
variable {w W W' : World} {f b g m : Nat} {B B2 : Bs} {T T2 T' : Tb} {v v2 v' : Value} {F F2 F' : Fo}
theorem MS.below (h : MS w W f b g m B T v F T' v' F') (k : Below W.heap.size W W') : MS w W' f b g m B T v F T' v' F' :=
  ⟨h.bel.trans (k.mono h.bel.size), h.co.below k, h.ct.below k, h.rm.below k, h.lf, h.lb, h.lg, h.lm, h.fb, h.ab, h.av, h.sp⟩
/-- The code's side turns. -/
theorem MS.code (h : MS w W f b g m B T v F T' v' F') (hF : FAt W' f F2) (hT : TAt W' w.heap.size b f T2 v2) (k : Onl (BV b f v) W W') (hn : Nw W v v2) : ∃ B2, BsG W B B2 ∧ MS w W' f b g m B2 T2 v2 F2 T' v' F' := by
  obtain ⟨R, rv, q⟩ := h.rm.fo
  obtain ⟨C, hC, _⟩ := q.rb.blk
  obtain ⟨D, hD, _⟩ := h.co.blk
  have vg : ∀ n, v.ownBlock = some n → n ≠ g := h.ct.row.ne_of hC (by decide)
  have vm : ∀ n, v.ownBlock = some n → n ≠ m := h.ct.row.ne_of h.rm.tb.blk (by decide)
  have nS : ¬ BV b f v g := fun c => by
    rcases c with c | c | c
    · exact blk_ne hC h.ct.blk (by decide) c
    · exact blk_ne hC hD (by decide) c
    · exact vg g c rfl
  have mS : ¬ BV b f v m := fun c => by
    rcases c with c | c | c
    · exact blk_ne h.rm.tb.blk h.ct.blk (by decide) c
    · exact blk_ne h.rm.tb.blk hD (by decide) c
    · exact vm m c rfl
  have rS : ∀ n, v'.ownBlock = some n → ¬ BV b f v n := fun n e c => by
    rcases c with c | c | c
    · exact h.rm.tb.row.ne_of h.ct.blk (by decide) n e c
    · exact h.rm.tb.row.ne_of hD (by decide) n e c
    · exact h.sp n c e
  have hS : ∀ n, BV b f v n → B.av n ∨ n < B.base := fun n c => by
    rcases c with c | c | c
    · rw [c]; exact .inl h.ab
    · rw [c]; exact .inr h.fb
    · exact .inl (h.av n c)
  have bel : Below w.heap.size w W' := k.behind h.bel (fun n c => by
    rcases c with c | c | c
    · rw [c]; exact h.lb
    · rw [c]; exact h.lf
    · exact (h.ct.row.lt n c).1) h.bel.size
  refine ⟨⟨B.base, fun n => B.av n ∨ (v2.ownBlock = some n ∧ W.heap.size ≤ n)⟩, ⟨rfl, fun _ e => .inl e, fun n e => by
    rcases e with e | e
    · exact .inl e
    · exact .inr e.2⟩, ⟨bel, hF, hT, ⟨h.rm.tb.same (k.block m h.rm.tb.lt mS) (fun n e => k.block n (h.rm.tb.row.lt n e).2 (rS n e)), ⟨R, rv, q.grow2 k hS nS (fun n e => ⟨e.2, (hT.row.lt n e.1).2⟩)⟩, .inl h.rm.ab, fun n e => .inl (h.rm.ar n e)⟩, h.lf, h.lb, h.lg, h.lm, h.fb, .inl h.ab, fun n e => ?_, fun n e e' => ?_⟩⟩
  · rcases hn with c | c
    · exact .inl (h.av n (by rw [← c]; exact e))
    · exact .inr ⟨e, c n e⟩
  · rcases hn with c | c
    · exact h.sp n (by rw [← c]; exact e) e'
    · have := c n e
      have := (h.rm.tb.row.lt n e').2
      omega
/-- The document's side turns. -/
theorem MS.ref (h : MS w W f b g m B T v F T' v' F') (hR : RM W' w.heap.size m g B2 T2 v2 F2) (hB : BsG W B B2) (k : Onl (BV m g v') W W') (hn : Nw W v' v2) : MS w W' f b g m B2 T v F T2 v2 F2 := by
  obtain ⟨R, rv, q⟩ := h.rm.fo
  obtain ⟨C, hC, _⟩ := q.rb.blk
  obtain ⟨D, hD, _⟩ := h.co.blk
  have fS : ¬ BV m g v' f := fun c => by
    rcases c with c | c | c
    · exact blk_ne hD h.rm.tb.blk (by decide) c
    · exact blk_ne hD hC (by decide) c
    · exact h.rm.tb.row.ne_of hD (by decide) f c rfl
  have bS : ¬ BV m g v' b := fun c => by
    rcases c with c | c | c
    · exact blk_ne h.ct.blk h.rm.tb.blk (by decide) c
    · exact blk_ne h.ct.blk hC (by decide) c
    · exact h.rm.tb.row.ne_of h.ct.blk (by decide) b c rfl
  have rS : ∀ n, v.ownBlock = some n → ¬ BV m g v' n := fun n e c => by
    rcases c with c | c | c
    · exact h.ct.row.ne_of h.rm.tb.blk (by decide) n e c
    · exact h.ct.row.ne_of hC (by decide) n e c
    · exact h.sp n e c
  have bel : Below w.heap.size w W' := k.behind h.bel (fun n c => by
    rcases c with c | c | c
    · rw [c]; exact h.lm
    · rw [c]; exact h.lg
    · exact (h.rm.tb.row.lt n c).1) h.bel.size
  refine ⟨bel, h.co.same (k.block f h.co.lt fS), h.ct.same (k.block b h.ct.lt bS) (fun n e => k.block n (h.ct.row.lt n e).2 (rS n e)), hR, h.lf, h.lb, h.lg, h.lm, by rw [hB.1]; exact h.fb, hB.2.1 b h.ab, fun n e => hB.2.1 n (h.av n e), fun n e e' => ?_⟩
  rcases hn with c | c
  · exact h.sp n e (by rw [← c]; exact e')
  · have := c n e'
    have := (h.ct.row.lt n e).2
    omega
end
end Go.Proofs.YthdadmbpnoofoaaGreatDoor

/- Is a text a name? In a region that draws its order. -/
import Derived.Test.YthdadmbpnoofoaaGreatDoorWa
import Derived.Test.YthdadmbpnoofoaaGreatDoorDs
import Derived.Test.YthdadmbpnoofoaaGreatDoorZb
import Derived.Test.YthdadmbpnoofoaaGreatDoorZg
namespace Go.Proofs.YthdadmbpnoofoaaGreatDoor
open Go.RowKit
open Tr (Fo Nd)

theorem Calls.quiet_name (s : ByteArray) (v : Bool) (h : Tr.nameB s = v) (w : World) : Calls Tryz.prog 100 #[.string s] w fun e w' => e = .returned (.bool v) ∧ w' = w := by rw [← h]; exact tName_any s w
end Go.Proofs.YthdadmbpnoofoaaGreatDoor

/- MountsSays: what both begin with; a copy in the table's place. -/
namespace Go.Proofs.YthdadmbpnoofoaaGreatDoor
open Go.RowKit
open Tr (Fo Nd RN)
open Mo (Wh Mt Tb)

def Mo.gzA : Array Value := ((List.range 321).map fun o => if o < 320 then rcell RN.no (o % 8) else .slice none 0 0).toArray
theorem Mo.gz_at (i : Nat) (h : i < 321) : Mo.gzA[i]? = some (if i < 320 then rcell RN.no (i % 8) else .slice none 0 0) := by simp [Mo.gzA, h]
set_option maxRecDepth 100000 in
theorem Mo.gz_eq : Tryz.zeroCells34 = Mo.gzA := by kernel_rfl
theorem Mo.fr_zero (W : World) : FR ⟨W.heap.size, fun _ => False⟩ (W.alloc (.cells Tryz.zeroCells34 34)) W.heap.size Tr.f0 (fun _ => RN.no) (.slice none 0 0) := by
  have h := heap_alloc_new W (.cells Tryz.zeroCells34 34)
  have h2 : (W.alloc (.cells Tryz.zeroCells34 34)).heap[W.heap.size]? = some (.cells Mo.gzA 34 (0, 0)) := by rw [← Mo.gz_eq]; exact h
  refine ⟨⟨⟨_, h2, by simp [Mo.gzA]⟩, fun n j hn hj => ?_, ?_, fun _ _ => ⟨⟨_, _, _, rfl⟩, ⟨_, _, _, rfl⟩⟩⟩, Nat.le_refl _, World.ownsRow_nil _ _ _ _, (fun e => by cases e), fun n _ => nr_no _ _ _ _ _ rfl, fun g e => e.elim, fun g _ e => e⟩
  · rw [cell_blk h2, Mo.gz_at _ (by omega), if_pos (by omega), show (n * 8 + j) % 8 = j by omega]
  · rw [cell_blk h2, Mo.gz_at _ (by omega), if_neg (by omega)]
/-- Both forests ahead of all tables. -/
def BG (w W : World) (f g : Nat) (F : Fo) : Prop := Below w.heap.size w W ∧ FAt W f F ∧ (∃ R rv, FR ⟨g, fun _ => False⟩ W g F R rv) ∧ w.heap.size ≤ f ∧ f < g ∧ w.heap.size ≤ g
theorem BG.below {w W W' : World} {f g : Nat} {F : Fo} (h : BG w W f g F) (k : Below W.heap.size W W') : BG w W' f g F := ⟨h.1.trans (k.mono h.1.size), h.2.1.below k, (by obtain ⟨R, rv, q⟩ := h.2.2.1; exact ⟨R, rv, q.below k⟩), h.2.2.2⟩
theorem BG.code {w W W' : World} {f g : Nat} {F F2 : Fo} (h : BG w W f g F) (u : FAt W' f F2) (k : Frm f W W') : Below w.heap.size w W' ∧ FAt W' f F2 ∧ (∃ R rv, FR ⟨g, fun _ => False⟩ W' g F R rv) := ⟨k.below h.1 h.2.2.2.1 h.1.size, u, by obtain ⟨R, rv, q⟩ := h.2.2.1; exact ⟨R, rv, q.frm k h.2.2.2.2.1⟩⟩
/-- What the law begins with. -/
theorem MS.start {w W W4 W5 : World} {f g b m : Nat} (h : BG w W f g Tr.g2) (lb : W.heap.size ≤ b) (t4 : TAt W4 w.heap.size b f Mo.T0 (.slice none 0 0)) (f4 : FAt W4 f (Tr.hol Tr.g2 (0 : Nat))) (k4 : Frm f W W4)
    (lm : W4.heap.size ≤ m) (r5 : RM W5 w.heap.size m g ⟨g, fun n => (False ∨ n = b) ∨ n = m⟩ Mo.T0 (.slice none 0 0) (Tr.hol Tr.g2 (0 : Nat))) (k5 : Frm g W4 W5) :
    MS w W5 f b g m ⟨g, fun n => (False ∨ n = b) ∨ n = m⟩ Mo.T0 (.slice none 0 0) (Tr.hol Tr.g2 (0 : Nat)) Mo.T0 (.slice none 0 0) (Tr.hol Tr.g2 (0 : Nat)) := by
  have s := h.1.size
  have b4 : Below w.heap.size w W4 := k4.below h.1 h.2.2.2.1 h.1.size
  have s4 := b4.size
  have gl : g < W.heap.size := by obtain ⟨R, rv, q⟩ := h.2.2.1; exact q.rb.lt
  have fl := h.2.2.2.2.1
  exact ⟨k5.below b4 h.2.2.2.2.2 s4, f4.same (k5.block f f4.lt (by omega)), t4.same (k5.block b t4.lt (by omega)) (fun n e => by cases e), r5, h.2.2.2.1, by omega, h.2.2.2.2.2, by omega, h.2.2.2.2.1, .inl (.inr rfl), (fun n e => by cases e), (fun n e => by cases e)⟩
section
variable {w W W' : World} {f b g m c : Nat} {B : Bs} {T T' : Tb} {v vc v' : Value} {F F' : Fo}
theorem MS.copied (h : MS w W f b g m B T v F T' v' F') (hF : FAt W' f F) (hT : TAt W' W.heap.size c f T vc) (k : Onl (BF b f) W W') (hc : W.heap.size ≤ c) : ∃ B2, MS w W' f c g m B2 T vc F T' v' F' := by
  obtain ⟨R, rv, q⟩ := h.rm.fo
  obtain ⟨C, hC, _⟩ := q.rb.blk
  obtain ⟨D, hD, _⟩ := h.co.blk
  have nS : ¬ BF b f g := fun e => by
    rcases e with e | e
    · exact blk_ne hC h.ct.blk (by decide) e
    · exact blk_ne hC hD (by decide) e
  have mS : ¬ BF b f m := fun e => by
    rcases e with e | e
    · exact blk_ne h.rm.tb.blk h.ct.blk (by decide) e
    · exact blk_ne h.rm.tb.blk hD (by decide) e
  have rS : ∀ n, v'.ownBlock = some n → ¬ BF b f n := fun n e d => by
    rcases d with d | d
    · exact h.rm.tb.row.ne_of h.ct.blk (by decide) n e d
    · exact h.rm.tb.row.ne_of hD (by decide) n e d
  have hS : ∀ n, BF b f n → B.av n ∨ n < B.base := fun n e => by
    rcases e with e | e
    · rw [e]; exact .inl h.ab
    · rw [e]; exact .inr h.fb
  have bel : Below w.heap.size w W' := k.behind h.bel (fun n e => by
    rcases e with e | e
    · rw [e]; exact h.lb
    · rw [e]; exact h.lf) h.bel.size
  have sz := h.bel.size
  refine ⟨⟨B.base, fun n => B.av n ∨ (n = c ∨ vc.ownBlock = some n)⟩, ⟨bel, hF, ⟨hT.blk, World.ownsRow.mono hT.row sz, hT.six⟩, ⟨h.rm.tb.same (k.block m h.rm.tb.lt mS) (fun n e => k.block n (h.rm.tb.row.lt n e).2 (rS n e)), ⟨R, rv, q.grow2 k hS nS (fun n e => ?_)⟩, .inl h.rm.ab, fun n e => .inl (h.rm.ar n e)⟩, h.lf, by omega, h.lg, h.lm, h.fb, .inr (.inl rfl), fun n e => .inr (.inr e), fun n e e' => ?_⟩⟩
  · rcases e with e | e
    · rw [e]; exact ⟨hc, hT.lt⟩
    · exact hT.row.lt n e
  · have := (hT.row.lt n e).1
    have := (h.rm.tb.row.lt n e').2
    omega
end
end Go.Proofs.YthdadmbpnoofoaaGreatDoor

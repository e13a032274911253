/- MountsSays, plain: each answer is the one; what stays true. -/
import Derived.Test.YthdadmbpnoofoaaGreatDoorDn
import Derived.Test.YthdadmbpnoofoaaGreatDoorOb
import Derived.Test.YthdadmbpnoofoaaGreatDoorYp
import Derived.Deep.RegionHeld3
namespace Go.Proofs.YthdadmbpnoofoaaGreatDoor
open Go.RowKit
open Tr (Fo Nd)
open Mo (Wh Mt Tb)

namespace Mo
variable {F G : Fo} {T T' : Tb} {p : ByteArray} {x y : Wh} {E E' : Int}
theorem WalTo.unique (h : WalTo F T p x E) (k : WalTo F T p y E') : x = y ∧ E = E' := by
  rcases h with ⟨a, h1, h2⟩ | ⟨a, W, h1, h2⟩ <;> rcases k with ⟨b, k1, k2⟩ | ⟨b, U, k1, k2⟩
  · exact ⟨h1.trans k1.symm, h2.trans k2.symm⟩
  · exact absurd b a
  · exact absurd a b
  · obtain ⟨e1, e2⟩ := WayTo.unique h1 k1
    exact ⟨by rw [h2, k2, e1], e2⟩
theorem snoc_inj {l l' : List ByteArray} {t t' : ByteArray} (h : l ++ [t] = l' ++ [t']) : l = l' ∧ t = t' := by
  obtain ⟨a, b⟩ := List.append_inj' h rfl
  exact ⟨a, by simpa using b⟩
theorem LasTo.unique {s s' : ByteArray} (h : LasTo F T p x s E) (k : LasTo F T p y s' E') : x = y ∧ s = s' ∧ E = E' := by
  rcases h with ⟨a, h1, h2, h3⟩ | ⟨a, c, h1, h2, h3⟩ | ⟨a, l, t, c, d, W, h1, h2⟩ <;> rcases k with ⟨b, k1, k2, k3⟩ | ⟨b, e, k1, k2, k3⟩ | ⟨b, l', t', e, f, U, k1, k2⟩
  · exact ⟨h1.trans k1.symm, h2.trans k2.symm, h3.trans k3.symm⟩
  · exact absurd b a
  · exact absurd b a
  · exact absurd a b
  · exact ⟨h1.trans k1.symm, h2.trans k2.symm, h3.trans k3.symm⟩
  · rcases c with c | ⟨l2, t2, c, c2⟩
    · rw [e] at c; simp at c
    · rw [e] at c
      obtain ⟨_, rfl⟩ := snoc_inj c
      rw [f] at c2; cases c2
  · exact absurd a b
  · rcases e with e | ⟨l2, t2, e, e2⟩
    · rw [c] at e; simp at e
    · rw [c] at e
      obtain ⟨_, rfl⟩ := snoc_inj e
      rw [d] at e2; cases e2
  · rw [c] at e
    obtain ⟨rfl, rfl⟩ := snoc_inj e
    obtain ⟨rfl, rfl⟩ := WayTo.unique h1 k1
    rcases h2 with ⟨q, h2, h3⟩ | ⟨q, h2, h3⟩ <;> rcases k2 with ⟨r, k2, k3⟩ | ⟨r, k2, k3⟩
    · exact ⟨h2.trans k2.symm, h3.trans k3.symm, rfl⟩
    · exact absurd r q
    · exact absurd q r
    · exact ⟨h2.trans k2.symm, h3.trans k3.symm, rfl⟩
theorem RawTo.unique (h : RawTo F T p x E) (k : RawTo F T p y E') : x = y ∧ E = E' := by
  rcases h with ⟨a, h1, h2⟩ | ⟨a, x1, s1, e1, h1, h2⟩ <;> rcases k with ⟨b, k1, k2⟩ | ⟨b, y1, s2, e2, k1, k2⟩
  · exact ⟨h1.trans k1.symm, h2.trans k2.symm⟩
  · rw [a] at b; cases b
  · rw [a] at b; cases b
  · obtain ⟨rfl, rfl, rfl⟩ := h1.unique k1
    rcases h2 with ⟨q, h2, h3⟩ | ⟨q, K, h2, h3⟩ <;> rcases k2 with ⟨r, k2, k3⟩ | ⟨r, K', k2, k3⟩
    · exact ⟨h2.trans k2.symm, h3.trans k3.symm⟩
    · exact absurd r q
    · exact absurd q r
    · obtain ⟨rfl, rfl⟩ := fnd1 h2 k2
      exact ⟨h3.trans k3.symm, rfl⟩
theorem WalTo.nn (h : WalTo F T p x E) : 0 ≤ E := by
  rcases h with ⟨_, _, e⟩ | ⟨_, _, h, _⟩
  · rw [e]; exact splE_nn p
  · exact h.nn
theorem RawTo.nn (h : RawTo F T p x E) : 0 ≤ E := by
  rcases h with ⟨_, _, e⟩ | ⟨_, _, _, _, hl, ⟨_, _, e⟩ | ⟨_, _, hf, _⟩⟩
  · omega
  · rw [e]; exact hl.nn
  · exact hf.nn
theorem UnbTo.unique {F1 F2 : Fo} {T1 T2 : Tb} (h : UnbTo F T x E T1 F1) (k : UnbTo F T x E' T2 F2) : E = E' ∧ T1 = T2 ∧ F1 = F2 := by
  rcases h with ⟨i, h1, m, h2, h3, h4, h5⟩ | ⟨h1, h2, h3, h4⟩ <;> rcases k with ⟨j, k1, m', k2, k3, k4, k5⟩ | ⟨k1, k2, k3, k4⟩
  · have := h1.unique k1
    obtain rfl : i = j := by omega
    rw [h2] at k2
    cases k2
    exact ⟨h3.trans k3.symm, h4.trans k4.symm, h5.trans k5.symm⟩
  · have := h1.unique k1; omega
  · have := h1.unique k1; omega
  · exact ⟨h2.trans k2.symm, h3.trans k3.symm, h4.trans k4.symm⟩
/-- What stays true of a forest and its table. -/
structure QI (F : Fo) (T : Tb) : Prop where
  pi : PI F T
  uq : Uq T.ms
  zb : Tr.Zb F
theorem uq_bin {L : List Mt} {x y : Wh} (h : Uq L) (hl : lk L x = none) : Uq (L ++ [(x, y)]) := fun i j m m' hi hj e => by
  have no : ∀ (k : Nat) (q : Mt), L[k]? = some q → q.1 ≠ x := fun k q hq c => by
    unfold lk at hl
    rw [List.find?_eq_none] at hl
    exact hl q (List.mem_of_getElem? hq) (decide_eq_true c)
  by_cases a : i < L.length
  · rw [List.getElem?_append_left a] at hi
    by_cases b : j < L.length
    · rw [List.getElem?_append_left b] at hj
      exact h i j m m' hi hj e
    · rw [List.getElem?_append_right (by omega)] at hj
      have : m' = (x, y) := by
        cases hq : j - L.length with
        | zero => rw [hq] at hj; simpa using hj.symm
        | succ n => rw [hq] at hj; simp at hj
      rw [this] at e
      exact absurd e (no i m hi)
  · rw [List.getElem?_append_right (by omega)] at hi
    have i0 : i = L.length ∧ m = (x, y) := by
      cases hq : i - L.length with
      | zero => rw [hq] at hi; exact ⟨by omega, by simpa using hi.symm⟩
      | succ n => rw [hq] at hi; simp at hi
    by_cases b : j < L.length
    · rw [List.getElem?_append_left b] at hj
      rw [i0.2] at e
      exact absurd e.symm (no j m' hj)
    · rw [List.getElem?_append_right (by omega)] at hj
      cases hq : j - L.length with
      | zero => omega
      | succ n => rw [hq] at hj; simp at hj
theorem uq_erase {L : List Mt} (h : Uq L) (k : Nat) : Uq (L.eraseIdx k) := fun i j m m' hi hj e => by
  rw [List.getElem?_eraseIdx] at hi hj
  split at hi <;> split at hj
  · exact h i j m m' hi hj e
  · have := h i (j + 1) m m' hi hj e; omega
  · have := h (i + 1) j m m' hi hj e; omega
  · have := h (i + 1) (j + 1) m m' hi hj e; omega
theorem PI.unb {F' : Fo} (h : PI F T) (hu : UnbTo F T x E T' F') : PI F' T' := by
  rcases hu with ⟨i, _, m, hm, _, rfl, rfl⟩ | ⟨_, _, rfl, rfl⟩
  · have hl := (List.getElem?_eq_some_iff.1 hm).1
    have hin := h.rg.2 m (List.mem_of_getElem? hm)
    refine ⟨(h.ok.letT _).letT _, leM_HI (h.hi.congr (fun n _ => ?_)) hin.1 hin.2, ⟨h.rg.1, fun y hy => h.rg.2 y (List.mem_of_mem_eraseIdx hy)⟩, ?_⟩
    · show oneI T.rt.2 n + mc T.ms n = (oneI T.rt.2 n + mc (T.ms.eraseIdx i) n) + oneI m.1.2 n + oneI m.2.2 n
      rw [mc_erase hm n]
      omega
    · have := h.six
      show (T.ms.eraseIdx i).length ≤ 6
      rw [List.length_eraseIdx_of_lt hl]
      omega
  · exact h
theorem PI.piv {t : Int} (h : PI F T) (e0 : Tr.rootE F t = 0) : PI (Tr.hol (leA F T) (Tr.rootN F t)) ⟨(t, (Tr.rootN F t : Int)), []⟩ := by
  have o := leA_ok (T := T) h.ok
  have er : Tr.rootE (leA F T) t = Tr.rootE F t := by unfold Tr.rootE; rw [(leA_root F T).2]
  have nr : Tr.rootN (leA F T) t = Tr.rootN F t := by unfold Tr.rootN; rw [er, (leA_root F T).1]
  have al : Tr.nodeE (leA F T) (Tr.rootN F t) = 0 := by rw [← nr]; exact root_alive o (er.trans e0)
  have h0 : HI F (fun n => 0 + tc T n) := h.hi.congr (fun n _ => by omega)
  refine ⟨o.hol _, ((leA_HI (f := fun _ => 0) h0 h.rg).hol al).congr (fun n _ => ?_), ⟨nodeE_is al, fun m hm => by cases hm⟩, by simp⟩
  show 0 + oneI (Tr.rootN F t) n = oneI (Tr.rootN F t) n + mc [] n
  rw [mc_nil]
  omega
end Mo
end Go.Proofs.YthdadmbpnoofoaaGreatDoor

/- The law TreeSays: an act on both forests. -/
namespace Go.Proofs.YthdadmbpnoofoaaGreatDoor
open Go.RowKit
open Tr (Fo Nd RN)

/-- Both forests, in step. -/
def GS (w W : World) (b c : Nat) (B : Bs) (F G : Fo) : Prop := Below w.heap.size w W ∧ FAt W b F ∧ (∃ R rv, FR B W c G R rv) ∧ w.heap.size ≤ b ∧ b < B.base
def PF (k : Nat) (F : Fo) : Prop := Tr.Ok F ∧ Tr.Hb F k ∧ Tr.Zb F
section
variable {w W W' : World} {b c : Nat} {B : Bs} {F G F' G' : Fo}
theorem GS.size (h : GS w W b c B F G) : B.base ≤ c ∧ c < W.heap.size ∧ b < W.heap.size := by
  obtain ⟨R, rv, hr⟩ := h.2.2.1
  exact ⟨hr.le, hr.rb.lt, h.2.1.lt⟩
theorem GS.below (h : GS w W b c B F G) (k : Below W.heap.size W W') : GS w W' b c B F G := by
  obtain ⟨R, rv, hr⟩ := h.2.2.1
  exact ⟨h.1.trans (k.mono h.1.size), h.2.1.below k, ⟨R, rv, hr.below k⟩, h.2.2.2⟩
/-- The code's act. -/
theorem GS.code (h : GS w W b c B F G) (h1 : FAt W' b F') (f : Frm b W W') : GS w W' b c B F' G := by
  obtain ⟨R, rv, hr⟩ := h.2.2.1
  exact ⟨f.below h.1 h.2.2.2.1 h.1.size, h1, ⟨R, rv, hr.frm f h.2.2.2.2⟩, h.2.2.2⟩
/-- The document's act. -/
theorem GS.ref (h : GS w W b c B F G) (h1 : ∃ R rv, FR B W' c G' R rv) (f : Below B.base W W') : GS w W' b c B F G' := by
  have hb := h.2.2.2.1
  have hB := h.2.2.2.2
  exact ⟨h.1.trans ⟨f.os, f.tape, f.output, f.size, fun k hk => f.block k (by omega)⟩, h.2.1.same (f.block b hB), h1, h.2.2.2⟩
theorem GS.ref1 {rv : Value} (h : GS w W b c B F G) (h1 : ∃ R, FR B W' c G' R rv) (f : Frm c W W') : GS w W' b c B F G' := by
  obtain ⟨R, hr⟩ := h1
  obtain ⟨s1, s2, s3⟩ := h.size
  exact h.ref ⟨R, rv, hr⟩ (f.below (Below.refl _ _) s1 (by omega))
end
def ActAt (W : World) (ba : Nat) (cs : Array Value) : Prop := W.heap[ba]? = some (.cells cs 50 (0, 0))
def acA (kd : ByteArray) (A B C : Int) (K : Nat) (On : Bool) (S1 T1 : ByteArray) : Array Value := #[.string kd, .int .i64 A, .int .i64 B, .int .i64 C, .int .u64 K, .bool On, .string S1, .string T1]
theorem ActAt.frm {W W' : World} {ba b : Nat} {cs : Array Value} (h : ActAt W ba cs) (ne : ba ≠ b) (f : Frm b W W') : ActAt W' ba cs := (f.block ba (Array.getElem?_eq_some_iff.1 h).1 ne).trans h
theorem ActAt.below {W W' : World} {ba : Nat} {cs : Array Value} (h : ActAt W ba cs) (f : Below W.heap.size W W') : ActAt W' ba cs := (f.block ba (Array.getElem?_eq_some_iff.1 h).1).trans h
theorem Tr.nodeE_nn (F : Fo) (z : Int) : 0 ≤ Tr.nodeE F z := by rcases Tr.nodeE_cases F z with e | e | e <;> omega
theorem Tr.RefTo.nn {x : Nd} {s : ByteArray} {E : Int} (h : Tr.RefTo x s E) : 0 ≤ E := by
  rcases h with ⟨_, e⟩ | ⟨_, ⟨_, _, e⟩ | ⟨_, ⟨_, e⟩ | ⟨_, e⟩⟩⟩ <;> omega
theorem Tr.WanTo.nn {F : Fo} {z : Int} {s : ByteArray} {E : Int} (h : Tr.WanTo F z s E) : 0 ≤ E := by
  rcases h with ⟨_, e⟩ | ⟨_, h⟩
  · rw [e]; exact Tr.isE_nn _ _ _
  · exact h.nn
theorem Tr.FreeTo.nn {F : Fo} {n : Nat} {E : Int} (h : Tr.FreeTo F n E) : 0 ≤ E := by rcases h with ⟨e, _⟩ | ⟨e, _⟩ <;> omega
theorem Tr.PlaTo.nn {F G : Fo} {T : Nat} {E : Int} (h : Tr.PlaTo F T E G) : 0 ≤ E := by
  rcases h with ⟨_, _, e, _⟩ | ⟨_, n, e', hf, ⟨_, _, e, _⟩ | ⟨_, _, e, _⟩⟩
  · omega
  · rw [e]; exact hf.nn
  · omega
theorem Tr.MakTo.nn {F G : Fo} {z kz : Int} {s : ByteArray} {K : Nat} {E : Int} (h : Tr.MakTo F z s kz K E G) : 0 ≤ E := by
  rcases h with ⟨_, _, _, e, _⟩ | ⟨_, e', hw, ⟨_, _, e, _⟩ | ⟨_, k, e2, hf, ⟨_, _, e, _⟩ | ⟨_, _, e, _⟩⟩⟩
  · omega
  · rw [e]; exact hw.nn
  · rw [e]; exact hf.nn
  · omega
theorem Tr.LinTo.nn {F G : Fo} {y z : Int} {s : ByteArray} {E : Int} (h : Tr.LinTo F y z s E G) : 0 ≤ E := by
  rcases h with ⟨_, e, _⟩ | ⟨_, e', hw, ⟨_, e, _⟩ | ⟨_, ⟨_, e, _⟩ | ⟨_, e, _⟩⟩⟩
  · rw [e]; exact Tr.isE_nn _ _ _
  · rw [e]; exact hw.nn
  · omega
  · omega
theorem Tr.RemTo.nn {F G : Fo} {z : Int} {s : ByteArray} {E : Int} (h : Tr.RemTo F z s E G) : 0 ≤ E := by
  obtain ⟨K, e', hf, ⟨_, e, _⟩ | ⟨_, ⟨_, _, e, _⟩ | ⟨_, e, _⟩⟩⟩ := h
  · rw [e]; exact hf.nn
  · omega
  · omega
theorem Tr.MovTo.nn {F G : Fo} {z y : Int} {s o : ByteArray} {E : Int} (h : Tr.MovTo F z s y o E G) : 0 ≤ E := by
  obtain ⟨K, e', hf, ⟨_, e, _⟩ | ⟨_, ⟨_, e, _⟩ | ⟨_, ⟨_, e, _⟩ | ⟨_, ⟨_, e, _⟩ | ⟨_, i, _, e2, hr, ⟨_, e, _⟩ | ⟨_, e, _⟩⟩⟩⟩⟩⟩ := h
  · rw [e]; exact hf.nn
  · rw [e]; exact Tr.isE_nn _ _ _
  · omega
  · omega
  · rw [e]; exact hr.nn
  · omega
theorem Tr.letE_nn (F : Fo) (z : Int) : 0 ≤ Tr.letE F z := by unfold Tr.letE; split <;> (try split) <;> (first | omega | exact Tr.nodeE_nn F z)
theorem Tr.wriE_nn (F : Fo) (z a : Int) (s : ByteArray) : 0 ≤ Tr.wriE F z a s := by unfold Tr.wriE; split <;> (first | exact Tr.isE_nn _ _ _ | (split <;> (try split) <;> omega))
theorem Tr.cutE_nn (F : Fo) (z a : Int) : 0 ≤ Tr.cutE F z a := by unfold Tr.cutE; split <;> (first | exact Tr.isE_nn _ _ _ | (split <;> omega))
theorem Tr.reaE_nn (F : Fo) (z a m : Int) : 0 ≤ Tr.reaE F z a m := by unfold Tr.reaE; split <;> (first | exact Tr.isE_nn _ _ _ | (split <;> omega))
/-- What is true behind an act. -/
def GP (w : World) (b c : Nat) (B : Bs) (k : Nat) (e : Ending) (w' : World) : Prop := e = .returned (.bool true) ∧ ∃ G, GS w w' b c B G G ∧ PF (k + 1) G
end Go.Proofs.YthdadmbpnoofoaaGreatDoor

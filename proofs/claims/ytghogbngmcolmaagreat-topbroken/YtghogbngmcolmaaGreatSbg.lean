import Derived.Deep.CutBlock
import Derived.Test.YtghogbngmcolmaaGreatSbf
namespace Go.Proofs.YtghogbngmcolmaaGreat
open Go.RowKit
open Tr (Fo Nd)
open Mo (Wh Mt)
open Mv (Me Bk)
open Kn (Pr Kp St us KB KJ VI EI)
def PB (w : World) (c a b : Nat) (x : Pr) : Prop := w.heap[c]? = some (.cells (prA a b x) 65 (0, 0))
section
variable {w w' : World} {c a b : Nat} {x : Pr}
theorem PB.lt (h : PB w c a b x) : c < w.heap.size := (Array.getElem?_eq_some_iff.1 h).1
theorem PB.same (h : PB w c a b x) (e : w'.heap[c]? = w.heap[c]?) : PB w' c a b x := e.trans h
theorem PB.cell (h : PB w c a b x) (j : Nat) (hj : j < 12) : w.cell? ⟨c, j, none⟩ = some (Kn.pcx a b x j) := by rw [cell_blk h, prA_at a b x j hj]
theorem PB.frozen (h : PB w c a b x) (o : Nat) : w.frozen? ⟨c, o, none⟩ = false := frozen_blk h o
theorem PB.range (h : PB w c a b x) : w.rangeAt c 0 (prA a b x).toList := fun j hj => by
  rw [Nat.zero_add, cell_blk h]
  simp
theorem PB.there (h : PB w c a b x) : w.there c 0 12 := fun j hj => ⟨by rw [Nat.zero_add, h.cell j hj]; rfl, h.frozen _⟩
theorem prA_ext {A : Array Value} {a b : Nat} {x : Pr} (hs : A.size = 12) (h : ∀ j, j < 12 → A[j]? = some (Kn.pcx a b x j)) : A = prA a b x := by
  apply Array.ext_getElem?
  intro i
  by_cases c : i < 12
  · rw [h i c, prA_at a b x i c]
  · rw [Array.getElem?_eq_none (by omega), Array.getElem?_eq_none (by rw [prA_size]; omega)]
theorem PB.set (h : PB w c a b x) {a' b' : Nat} {y : Pr} {i : Nat} {v : Value} (hi : i < 12) (hv : ∀ j, j < 12 → Kn.pcx a' b' y j = if j = i then v else Kn.pcx a b x j) : PB (w.setCell ⟨c, i, none⟩ v) c a' b' y := by
  unfold PB
  rw [blk_set h i v, prA_ext (A := (prA a b x).setIfInBounds i v) (a := a') (b := b') (x := y) (by simp [prA_size]) (fun j hj => ?_)]
  rw [hv j hj]
  by_cases e : j = i
  · subst e
    rw [if_pos rfl, Array.getElem?_setIfInBounds_self_of_lt (by rw [prA_size]; exact hi)]
  · rw [if_neg e, Array.getElem?_setIfInBounds_ne (Ne.symm e), prA_at a b x j hj]
theorem PB.setPar (h : PB w c a b x) (n : Int) : PB (w.setCell ⟨c, 1, none⟩ (.int .i64 n)) c a b { x with par := n } := h.set (by omega) (fun j hj => by
  match j, hj with
  | 0, _ => rfl
  | 1, _ => rfl
  | j + 2, _ => rw [if_neg (by omega)]; rfl)
theorem PB.setMem (h : PB w c a b x) (hh : x.has = true) (m : Nat) : PB (w.setCell ⟨c, 4, none⟩ (.pointer (some ⟨m, 0, none⟩))) c m b x := h.set (by omega) (fun j hj => by
  match j, hj with
  | 0, _ => rfl
  | 1, _ => rfl
  | 2, _ => rfl
  | 3, _ => rfl
  | 4, _ => show Kn.ptr m x.has = _; rw [hh]; rfl
  | j + 5, _ => rw [if_neg (by omega)]; rfl)
theorem PB.setBox (h : PB w c a b x) (hh : x.has = true) (m : Nat) : PB (w.setCell ⟨c, 5, none⟩ (.pointer (some ⟨m, 0, none⟩))) c a m x := h.set (by omega) (fun j hj => by
  match j, hj with
  | 0, _ => rfl
  | 1, _ => rfl
  | 2, _ => rfl
  | 3, _ => rfl
  | 4, _ => rfl
  | 5, _ => show Kn.ptr m x.has = _; rw [hh]; rfl
  | j + 6, _ => rw [if_neg (by omega)]; rfl)
theorem PB.box (h : PB w c a b x) (X : Nat → Sg.S1) : PB w c a b { x with box := X } := h
theorem PB.fds (h : PB w c a b x) (j : Nat) (hj : j < (fdA x.fd).size) : w.cell? ⟨c, 6 + j, none⟩ = (fdA x.fd)[j]? := by
  rw [fdA_size] at hj
  rw [fdA_at _ j hj, h.cell (6 + j) (by omega)]
  unfold Kn.pcx
  rw [if_neg (by omega), if_neg (by omega), if_neg (by omega), if_neg (by omega), if_neg (by omega), if_neg (by omega), show 6 + j - 6 = j by omega]
end
theorem PB.put {w : World} {c a b : Nat} {x : Pr} (h : PB w c a b x) (a' b' : Nat) (y : Pr) : PB (w.setCells c 0 (prA a' b' y).toList) c a' b' y := by
  obtain ⟨C', e', sz'⟩ := heap_setCells_blk c (prA a' b' y).toList 0 w _ h
  unfold PB
  rw [e']
  have hl : (prA a' b' y).toList.length = 12 := by rw [Array.length_toList, prA_size]
  have : C' = prA a' b' y := by
    refine prA_ext (by rw [sz', prA_size]) (fun j hj => ?_)
    have q := World.cell?_setCells_in c (prA a' b' y).toList 0 w (fun i hi => by rw [hl] at hi; rw [Nat.zero_add, h.cell i hi]; rfl) j (by omega)
    rw [Nat.zero_add, cell_blk e'] at q
    rw [q, ← List.getElem?_eq_getElem (by omega), Array.getElem?_toList, prA_at _ _ _ j hj]
  rw [this]
namespace Kn
theorem sha_le (T : Nat → Fx.Fi) (z : Int) (n : Nat) : (Fx.shaT T z n).refs ≤ (T n).refs + 1 := by
  unfold Fx.shaT
  by_cases c : Fx.filE T z = 0
  · rw [if_pos c]
    by_cases e : n = z.toNat
    · subst e; rw [Fx.put_same]; exact Nat.le_refl _
    · rw [Fx.put_ne _ _ _ _ e]; omega
  · rw [if_neg c]; omega
theorem shaK_le (k : Kp) (fd : Nat → Int) (n : Nat) : ∀ j, ((shaK k fd j).fi n).refs ≤ (k.fi n).refs + j
  | 0 => Nat.le_refl _
  | j + 1 => by
    have ih := shaK_le k fd n j
    show ((if fd j = -1 then shaK k fd j else _ : Kp).fi n).refs ≤ _
    split
    · omega
    · have := sha_le (shaK k fd j).fi (fd j) n
      show (Fx.shaT (shaK k fd j).fi (fd j) n).refs ≤ _
      omega
end Kn
theorem KKt.setFi {w w' : World} {base : Nat} {s : St} (h : KKt w base s) {T : Nat → Fx.Fi} (u : XAt w' (s.A 8) (s.A 6) (s.A 7) T) (f : Frm (s.A 8) w w') : KKt w' base { s with k := { s.k with fi := T } } ∧ KF s w { s with k := { s.k with fi := T } } w' := by
  have o := h.others (us9 (by omega)) f
  refine ⟨⟨by rw [o 0 (us9 (by omega)) (by omega)]; exact h.ker, fun x hx => (World.cell?_of_block (o 0 (us9 (by omega)) (by omega))).trans (h.cel x hx), h.sp.same (o 1 (us9 (by omega)) (by omega)), (o 2 (us9 (by omega)) (by omega)).trans h.gr, h.sc.same (o 3 (us9 (by omega)) (by omega)), h.bk.same (o 4 (us9 (by omega)) (by omega)) (o 5 (us9 (by omega)) (by omega)), u, h.fo.same (o 6 (us9 (by omega)) (by omega)), h.pi.same (o 7 (us9 (by omega)) (by omega)),
    fun n hn hh => (h.me n hn hh).same (o _ (Kn.us_m hn hh) (by omega)), fun n hn hh => (h.bx n hn hh).same (o _ (Kn.us_b hn hh) (by omega)),
    fun n hn hh => (h.tb n hn hh).same (o _ (Kn.us_t hn hh) (by omega)) (fun g eg => by have := o _ (Kn.us_r hn hh eg) (by omega); rwa [h.ro n hn hh g eg] at this), h.ro, h.inj, h.low⟩, KF.one _ (us9 (by omega)) f rfl (fun _ hi => hi)⟩
theorem KKt.prange {w : World} {base : Nat} {s : St} (h : KKt w base s) {n : Nat} (hn : n < 20) : w.rangeAt (s.A 0) (n * 12) (prA (s.A (9 + n)) (s.A (29 + n)) (s.k.p n)).toList := fun j v hv => by
  rw [Array.getElem?_toList] at hv
  have hj : j < 12 := by have := (Array.getElem?_eq_some_iff.1 hv).1; rw [prA_size] at this; exact this
  rw [prA_at _ _ _ j hj] at hv
  rw [h.cP n j hn hj]
  exact hv
structure CO (base : Nat) (s : St) (w : World) (n rb c mb bb : Nat) (k : Kp) (W : World) : Prop where
  kk : KKt W base { s with k := k }
  kf : KF s w { s with k := k } W
  pb : PB W c mb bb (Kn.chP s.k n)
  rs : PB W rb 0 0 Pr.no
  um : UAt W mb (s.A 4) (s.k.p n).mem
  ub : CX W bb (Sg.chiF (s.k.p n).box)
  ge : w.heap.size ≤ rb ∧ w.heap.size ≤ c ∧ w.heap.size ≤ mb ∧ w.heap.size ≤ bb
  ne : mb ≠ bb ∧ rb ≠ c ∧ rb ≠ mb ∧ rb ≠ bb ∧ c ≠ mb ∧ c ≠ bb
theorem CO.step {base : Nat} {s : St} {w : World} {n rb c mb bb : Nat} {k k' : Kp} {W W' : World} (h : CO base s w n rb c mb bb k W) (f : Frm (s.A 8) W W') (kk : KKt W' base { s with k := k' }) (kf : KF { s with k := k } W { s with k := k' } W') (l8 : s.A 8 < w.heap.size) : CO base s w n rb c mb bb k' W' :=
  ⟨kk, h.kf.trans kf, h.pb.same (f.block _ h.pb.lt (by have := h.ge; omega)), h.rs.same (f.block _ h.rs.lt (by have := h.ge; omega)), h.um.same (f.block _ h.um.lt (by have := h.ge; omega)), h.ub.same (f.block _ h.ub.lt (by have := h.ge; omega)), h.ge, h.ne⟩
section
variable (base : Nat) (s : St) (w : World)
set_option maxRecDepth 100000 in
set_option maxHeartbeats 2000000 in
theorem kchild_any (n : Nat) (h : KKt w base s) (hn : n < 20) (hh : (s.k.p n).has = true) (hW : Mv.Wld s.k.bk 20 (fun m => (s.k.p m).mem)) (hr : ∀ f, f < 24 → (s.k.fi f).refs < 2 ^ 50) :
    Calls Tryz.prog 35 #[.pointer (some ⟨s.A 0, 0, none⟩), .int .i64 n] w fun e w' => ∃ mb bb, e = .returned (.agg (prA mb bb (Kn.chP s.k n))) ∧ KKt w' base { s with k := Kn.copK s.k n } ∧ KF s w { s with k := Kn.copK s.k n } w' ∧ UAt w' mb (s.A 4) (s.k.p n).mem ∧ CX w' bb (Sg.chiF (s.k.p n).box) ∧ w.heap.size ≤ mb ∧ w.heap.size ≤ bb ∧ mb ≠ bb := by
  have hnI : (n : Int) < 20 := by omega
  obtain ⟨kb, hkb⟩ : ∃ kb, s.A 0 = kb := ⟨_, rfl⟩
  have HK := Hid.intro hkb
  obtain ⟨A, hA⟩ : ∃ A, prA (s.A (9 + n)) (s.A (29 + n)) (s.k.p n) = A := ⟨_, rfl⟩
  have HA := Hid.intro hA
  have b0 : Below w.heap.size w (w.alloc (.cells #[.int .i64 0, .int .i64 0, .int .i64 0, .int .i64 0, .pointer none, .pointer none, .int .i64 0, .int .i64 0, .int .i64 0, .int .i64 0, .int .i64 0, .int .i64 0] 65)) := (Below.refl _ _).alloc (Nat.le_refl _) _
  have N1 : ((w.alloc (.cells #[.int .i64 0, .int .i64 0, .int .i64 0, .int .i64 0, .pointer none, .pointer none, .int .i64 0, .int .i64 0, .int .i64 0, .int .i64 0, .int .i64 0, .int .i64 0] 65)).alloc (.cells #[.int .i64 0, .int .i64 0, .int .i64 0, .int .i64 0, .pointer none, .pointer none, .int .i64 0, .int .i64 0, .int .i64 0, .int .i64 0, .int .i64 0, .int .i64 0] 65)).heap[w.heap.size + 1]? = some (.cells #[.int .i64 0, .int .i64 0, .int .i64 0, .int .i64 0, .pointer none, .pointer none, .int .i64 0, .int .i64 0, .int .i64 0, .int .i64 0, .int .i64 0, .int .i64 0] 65 (0, 0)) := by
    have := heap_alloc_new (w.alloc (.cells #[.int .i64 0, .int .i64 0, .int .i64 0, .int .i64 0, .pointer none, .pointer none, .int .i64 0, .int .i64 0, .int .i64 0, .int .i64 0, .int .i64 0, .int .i64 0] 65)) (.cells #[.int .i64 0, .int .i64 0, .int .i64 0, .int .i64 0, .pointer none, .pointer none, .int .i64 0, .int .i64 0, .int .i64 0, .int .i64 0, .int .i64 0, .int .i64 0] 65)
    rw [show (w.alloc (.cells #[.int .i64 0, .int .i64 0, .int .i64 0, .int .i64 0, .pointer none, .pointer none, .int .i64 0, .int .i64 0, .int .i64 0, .int .i64 0, .int .i64 0, .int .i64 0] 65)).heap.size = w.heap.size + 1 by simp] at this
    exact this
  have b1 : Below w.heap.size w ((w.alloc (.cells #[.int .i64 0, .int .i64 0, .int .i64 0, .int .i64 0, .pointer none, .pointer none, .int .i64 0, .int .i64 0, .int .i64 0, .int .i64 0, .int .i64 0, .int .i64 0] 65)).alloc (.cells #[.int .i64 0, .int .i64 0, .int .i64 0, .int .i64 0, .pointer none, .pointer none, .int .i64 0, .int .i64 0, .int .i64 0, .int .i64 0, .int .i64 0, .int .i64 0] 65)) := b0.alloc b0.size _
  have R0 : Hid ((w.alloc (.cells #[.int .i64 0, .int .i64 0, .int .i64 0, .int .i64 0, .pointer none, .pointer none, .int .i64 0, .int .i64 0, .int .i64 0, .int .i64 0, .int .i64 0, .int .i64 0] 65)).rangeAt kb (n * 12) A.toList) := Hid.intro (by rw [← hkb, ← hA]; exact (h.below b0).prange hn)
  have SL : Hid ((Tryz.prog.info? 65).map (·.size) = some A.toList.length) := Hid.intro (by rw [← hA, Array.length_toList, prA_size]; kernel_rfl)
  have SZ : Hid ((Tryz.prog.info? 65).map (·.size) = some A.size) := Hid.intro (by rw [← hA, prA_size]; kernel_rfl)
  have TH : Hid (((w.alloc (.cells #[.int .i64 0, .int .i64 0, .int .i64 0, .int .i64 0, .pointer none, .pointer none, .int .i64 0, .int .i64 0, .int .i64 0, .int .i64 0, .int .i64 0, .int .i64 0] 65)).alloc (.cells #[.int .i64 0, .int .i64 0, .int .i64 0, .int .i64 0, .pointer none, .pointer none, .int .i64 0, .int .i64 0, .int .i64 0, .int .i64 0, .int .i64 0, .int .i64 0] 65)).there (w.heap.size + 1) 0 A.size) := Hid.intro (by rw [← hA, prA_size]; exact PB.there (a := 0) (b := 0) (x := Pr.no) (by unfold PB; rw [prA_no]; exact N1))
  have H1 : Hid (A.all (·.oneCell') = true) := Hid.intro (by rw [← hA]; exact prA_one _ _ _)
  have F0 : Hid (PB (((w.alloc (.cells #[.int .i64 0, .int .i64 0, .int .i64 0, .int .i64 0, .pointer none, .pointer none, .int .i64 0, .int .i64 0, .int .i64 0, .int .i64 0, .int .i64 0, .int .i64 0] 65)).alloc (.cells #[.int .i64 0, .int .i64 0, .int .i64 0, .int .i64 0, .pointer none, .pointer none, .int .i64 0, .int .i64 0, .int .i64 0, .int .i64 0, .int .i64 0, .int .i64 0] 65)).setCells (w.heap.size + 1) 0 A.toList) (w.heap.size + 1) (s.A (9 + n)) (s.A (29 + n)) (s.k.p n) ∧ PB (((w.alloc (.cells #[.int .i64 0, .int .i64 0, .int .i64 0, .int .i64 0, .pointer none, .pointer none, .int .i64 0, .int .i64 0, .int .i64 0, .int .i64 0, .int .i64 0, .int .i64 0] 65)).alloc (.cells #[.int .i64 0, .int .i64 0, .int .i64 0, .int .i64 0, .pointer none, .pointer none, .int .i64 0, .int .i64 0, .int .i64 0, .int .i64 0, .int .i64 0, .int .i64 0] 65)).setCells (w.heap.size + 1) 0 A.toList) w.heap.size 0 0 Pr.no ∧ Below w.heap.size w (((w.alloc (.cells #[.int .i64 0, .int .i64 0, .int .i64 0, .int .i64 0, .pointer none, .pointer none, .int .i64 0, .int .i64 0, .int .i64 0, .int .i64 0, .int .i64 0, .int .i64 0] 65)).alloc (.cells #[.int .i64 0, .int .i64 0, .int .i64 0, .int .i64 0, .pointer none, .pointer none, .int .i64 0, .int .i64 0, .int .i64 0, .int .i64 0, .int .i64 0, .int .i64 0] 65)).setCells (w.heap.size + 1) 0 A.toList)) := Hid.intro (by
    have fr : Frm (w.heap.size + 1) ((w.alloc (.cells #[.int .i64 0, .int .i64 0, .int .i64 0, .int .i64 0, .pointer none, .pointer none, .int .i64 0, .int .i64 0, .int .i64 0, .int .i64 0, .int .i64 0, .int .i64 0] 65)).alloc (.cells #[.int .i64 0, .int .i64 0, .int .i64 0, .int .i64 0, .pointer none, .pointer none, .int .i64 0, .int .i64 0, .int .i64 0, .int .i64 0, .int .i64 0, .int .i64 0] 65)) (((w.alloc (.cells #[.int .i64 0, .int .i64 0, .int .i64 0, .int .i64 0, .pointer none, .pointer none, .int .i64 0, .int .i64 0, .int .i64 0, .int .i64 0, .int .i64 0, .int .i64 0] 65)).alloc (.cells #[.int .i64 0, .int .i64 0, .int .i64 0, .int .i64 0, .pointer none, .pointer none, .int .i64 0, .int .i64 0, .int .i64 0, .int .i64 0, .int .i64 0, .int .i64 0] 65)).setCells (w.heap.size + 1) 0 A.toList) := Frm.setCells _ _ (Frm.refl _ _)
    refine ⟨?_, ?_, fr.below b1 (by omega) b1.size⟩
    · obtain ⟨C', e', sz'⟩ := heap_setCells_blk (w.heap.size + 1) A.toList 0 _ _ N1
      unfold PB
      rw [e', hA]
      have sz : C'.size = 12 := by rw [sz']; rfl
      have : C' = A := by
        rw [← hA]
        refine prA_ext sz (fun j hj => ?_)
        have q := World.cell?_setCells_in (w.heap.size + 1) A.toList 0 ((w.alloc (.cells #[.int .i64 0, .int .i64 0, .int .i64 0, .int .i64 0, .pointer none, .pointer none, .int .i64 0, .int .i64 0, .int .i64 0, .int .i64 0, .int .i64 0, .int .i64 0] 65)).alloc (.cells #[.int .i64 0, .int .i64 0, .int .i64 0, .int .i64 0, .pointer none, .pointer none, .int .i64 0, .int .i64 0, .int .i64 0, .int .i64 0, .int .i64 0, .int .i64 0] 65)) (fun i hi => by rw [cell_blk N1]; rw [Array.length_toList, ← hA, prA_size] at hi; simp; omega) j (by rw [Array.length_toList, ← hA, prA_size]; exact hj)
        rw [Nat.zero_add, cell_blk e'] at q
        rw [q, ← List.getElem?_eq_getElem (by rw [Array.length_toList, ← hA, prA_size]; exact hj), Array.getElem?_toList, ← hA, prA_at _ _ _ j hj]
      rw [this]
    · unfold PB
      rw [prA_no, fr.block w.heap.size (by simp; omega) (by omega)]
      have := heap_alloc_new w (.cells #[.int .i64 0, .int .i64 0, .int .i64 0, .int .i64 0, .pointer none, .pointer none, .int .i64 0, .int .i64 0, .int .i64 0, .int .i64 0, .int .i64 0, .int .i64 0] 65)
      rw [show ((w.alloc (.cells #[.int .i64 0, .int .i64 0, .int .i64 0, .int .i64 0, .pointer none, .pointer none, .int .i64 0, .int .i64 0, .int .i64 0, .int .i64 0, .int .i64 0, .int .i64 0] 65)).alloc (.cells #[.int .i64 0, .int .i64 0, .int .i64 0, .int .i64 0, .pointer none, .pointer none, .int .i64 0, .int .i64 0, .int .i64 0, .int .i64 0, .int .i64 0, .int .i64 0] 65)).heap[w.heap.size]? = (w.alloc (.cells #[.int .i64 0, .int .i64 0, .int .i64 0, .int .i64 0, .pointer none, .pointer none, .int .i64 0, .int .i64 0, .int .i64 0, .int .i64 0, .int .i64 0, .int .i64 0] 65)).heap[w.heap.size]? from ((Below.refl _ _).alloc (Nat.le_refl _) (.cells #[.int .i64 0, .int .i64 0, .int .i64 0, .int .i64 0, .pointer none, .pointer none, .int .i64 0, .int .i64 0, .int .i64 0, .int .i64 0, .int .i64 0, .int .i64 0] 65) : Below (w.alloc (.cells #[.int .i64 0, .int .i64 0, .int .i64 0, .int .i64 0, .pointer none, .pointer none, .int .i64 0, .int .i64 0, .int .i64 0, .int .i64 0, .int .i64 0, .int .i64 0] 65)).heap.size (w.alloc (.cells #[.int .i64 0, .int .i64 0, .int .i64 0, .int .i64 0, .pointer none, .pointer none, .int .i64 0, .int .i64 0, .int .i64 0, .int .i64 0, .int .i64 0, .int .i64 0] 65)) ((w.alloc (.cells #[.int .i64 0, .int .i64 0, .int .i64 0, .int .i64 0, .pointer none, .pointer none, .int .i64 0, .int .i64 0, .int .i64 0, .int .i64 0, .int .i64 0, .int .i64 0] 65)).alloc (.cells #[.int .i64 0, .int .i64 0, .int .i64 0, .int .i64 0, .pointer none, .pointer none, .int .i64 0, .int .i64 0, .int .i64 0, .int .i64 0, .int .i64 0, .int .i64 0] 65))).block w.heap.size (by simp)]
      exact this)
  have H := Hid.intro (And.intro h (And.intro hh (And.intro hW hr)))
  rw [hkb]
  clear h hh hW hr hA hkb b0 N1 b1
  go_enter Tryz.func35, Tryz.ntmps35
  go_upto_region 2 with (first | (refine wpList_load_mid rfl 65 _ rfl kb (n * 12) rfl A.toList _ R0.out Tryz.underlying65 rfl SL.out ?_; rw [Array.toArray_toList]) | (refine wpList_store_mid rfl 65 _ _ rfl (w.heap.size + 1) 0 A rfl rfl TH.out SZ.out H1.out ?_))
  obtain ⟨rb, hrb⟩ : ∃ rb, w.heap.size = rb := ⟨_, rfl⟩
  have HR := Hid.intro hrb
  refine wp_gen (fun W => PB W (w.heap.size + 1) (s.A (9 + n)) (s.A (29 + n)) (s.k.p n) ∧ PB W w.heap.size 0 0 Pr.no ∧ Below w.heap.size w W) F0.out ?_
  intro W1 hW1
  have S1 := Hid.intro hW1
  clear hW1 F0 R0 SL SZ TH H1
  rw [hrb] at S1 ⊢
  clear hrb
  have y1 := S1.out.1.cell 1 (by omega)
  have yf := S1.out.1.frozen
  have y1' : W1.cell? ⟨rb + 1, 1, none⟩ = some (.int .i64 (s.k.p n).par) := y1
  generalize (s.k.p n).par = pv at y1'
  clear y1
  go_upto_region 3 with fail
  have F1 : Hid (PB (W1.setCell ⟨rb + 1, 1, none⟩ (.int .i64 n)) (rb + 1) (s.A (9 + n)) (s.A (29 + n)) { s.k.p n with par := (n : Int) } ∧ PB (W1.setCell ⟨rb + 1, 1, none⟩ (.int .i64 n)) rb 0 0 Pr.no ∧ Below rb w (W1.setCell ⟨rb + 1, 1, none⟩ (.int .i64 n))) := Hid.intro (by
    have fr : Frm (rb + 1) W1 (W1.setCell ⟨rb + 1, 1, none⟩ (.int .i64 n)) := (Frm.refl _ _).setCell _ _
    refine ⟨S1.out.1.setPar _, S1.out.2.1.same (fr.block rb S1.out.2.1.lt (by omega)), fr.below S1.out.2.2 (by omega) (Nat.le_of_lt S1.out.2.1.lt)⟩)
  refine wp_gen (fun W => PB W (rb + 1) (s.A (9 + n)) (s.A (29 + n)) { s.k.p n with par := (n : Int) } ∧ PB W rb 0 0 Pr.no ∧ Below rb w W) F1.out ?_
  intro W2 hW2
  have S2 := Hid.intro hW2
  clear hW2 F1 S1 y1' yf
  have K2 : Hid (KKt W2 base s) := Hid.intro (H.out.1.below (by rw [HR.out]; exact S2.out.2.2))
  obtain ⟨m9, hm9⟩ : ∃ m9, s.A (9 + n) = m9 := ⟨_, rfl⟩
  obtain ⟨b29, hb29⟩ : ∃ b29, s.A (29 + n) = b29 := ⟨_, rfl⟩
  have HM := Hid.intro (And.intro hm9 hb29)
  have LT : Hid (∀ i, us s i → s.A i < rb) := Hid.intro (fun i hi => by rw [← HR.out]; exact H.out.1.lt hi)
  have y4 : W2.cell? ⟨rb + 1, 4, none⟩ = some (.pointer (some ⟨m9, 0, none⟩)) := by
    rw [S2.out.1.cell 4 (by omega), ← hm9]; show some (Kn.ptr _ (s.k.p n).has) = _; rw [H.out.2.1]; rfl
  have y5 : W2.cell? ⟨rb + 1, 5, none⟩ = some (.pointer (some ⟨b29, 0, none⟩)) := by
    rw [S2.out.1.cell 5 (by omega), ← hb29]; show some (Kn.ptr _ (s.k.p n).has) = _; rw [H.out.2.1]; rfl
  have FK := Hid.intro (vfork_any (s.A (9 + n)) (s.A 4) (s.A 5) (s.k.p n).mem s.k.bk W2.drew ⟨K2.out.drew.me n hn H.out.2.1, K2.out.drew.bk, K2.out.ne (Kn.us_m hn H.out.2.1) (us9 (by omega)) (by omega), K2.out.ne (Kn.us_m hn H.out.2.1) (us9 (by omega)) (by omega)⟩ (fun i hi => H.out.2.2.1.le n hn i hi) (fun f hf => by have := H.out.2.2.1.refl f hf; omega))
  have A4 : Hid (∀ w4, UAt w4 W2.drew.heap.size (s.A 4) (s.k.p n).mem → UB w4 (s.A (9 + n)) (s.A 4) (s.A 5) (s.k.p n).mem (Mv.foK (s.k.p n).mem s.k.bk 16) → Frm (s.A 4) W2.drew w4 → KKt w4 base { s with k := { s.k with bk := Mv.foK (s.k.p n).mem s.k.bk 16 } } ∧ KF s w { s with k := { s.k with bk := Mv.foK (s.k.p n).mem s.k.bk 16 } } w4 ∧ PB w4 (rb + 1) m9 b29 { s.k.p n with par := (n : Int) } ∧ PB w4 rb 0 0 Pr.no ∧ rb + 1 < W2.heap.size ∧ W2.heap.size < w4.heap.size) := Hid.intro (fun w4 u1 u2 f => by
    have q := K2.out.drew.setBk u2.bk (Two.left (Two.refl _ _ _) f)
    have l4 := LT.out 4 (us9 (by omega))
    refine ⟨q.1, (KF.below (by rw [HR.out]; exact S2.out.2.2)).trans ((KF.drew _ _).trans q.2), ?_, S2.out.2.1.same (f.block rb S2.out.2.1.lt (by omega)), S2.out.1.lt, u1.lt⟩
    have := S2.out.1.same (f.block (rb + 1) S2.out.1.lt (by omega))
    rw [hm9, hb29] at this
    exact this)
  obtain ⟨mb, hmb⟩ : ∃ mb, W2.heap.size = mb := ⟨_, rfl⟩
  have HMB := Hid.intro hmb
  have hmd : W2.drew.heap.size = mb := hmb
  rw [hmd, hm9] at FK
  rw [hmd, hmb, hm9] at A4
  have CC : Hid (∀ w4, KKt w4 base { s with k := { s.k with bk := Mv.foK (s.k.p n).mem s.k.bk 16 } } → Calls Tryz.prog 73 #[.pointer (some ⟨b29, 0, none⟩)] w4 fun e w' => e = .returned (.pointer (some ⟨w4.heap.size, 0, none⟩)) ∧ CX w' w4.heap.size (Sg.chiF (s.k.p n).box) ∧ Below w4.heap.size w4 w' ∧ w4.heap.size < w'.heap.size) := Hid.intro (fun w4 hk => by rw [← hb29]; exact child_any _ _ _ (hk.bx n hn H.out.2.1))
  have FIN : Hid (∀ w4 w5, UAt w4 mb (s.A 4) (s.k.p n).mem → (KKt w4 base { s with k := { s.k with bk := Mv.foK (s.k.p n).mem s.k.bk 16 } } ∧ KF s w { s with k := { s.k with bk := Mv.foK (s.k.p n).mem s.k.bk 16 } } w4 ∧ PB w4 (rb + 1) m9 b29 { s.k.p n with par := (n : Int) } ∧ PB w4 rb 0 0 Pr.no ∧ rb + 1 < mb ∧ mb < w4.heap.size) → CX w5 w4.heap.size (Sg.chiF (s.k.p n).box) → Below w4.heap.size w4 w5 → CO base s w n rb (rb + 1) mb w4.heap.size { s.k with bk := Mv.foK (s.k.p n).mem s.k.bk 16 } ((w5.setCell ⟨rb + 1, 4, none⟩ (.pointer (some ⟨mb, 0, none⟩))).setCell ⟨rb + 1, 5, none⟩ (.pointer (some ⟨w4.heap.size, 0, none⟩)))) := Hid.intro (fun w4 w5 u1 a cx bl => by
    obtain ⟨a1, a2, a3, a4, a5, a6⟩ := a
    have fr : Frm (rb + 1) w5 ((w5.setCell ⟨rb + 1, 4, none⟩ (.pointer (some ⟨mb, 0, none⟩))).setCell ⟨rb + 1, 5, none⟩ (.pointer (some ⟨w4.heap.size, 0, none⟩))) := ((Frm.refl _ _).setCell _ _).setCell _ _
    have p5 := (a3.same (bl.block _ a3.lt))
    have nk : ¬ KB ({ s with k := { s.k with bk := Mv.foK (s.k.p n).mem s.k.bk 16 } } : St) (rb + 1) := fun ⟨i, hi, e⟩ => by have := LT.out i hi; have e2 : rb + 1 = s.A i := e; omega
    refine ⟨(a1.below bl).fresh fr nk, (a2.trans (KF.below bl)).fresh fr (by rw [HR.out]; omega), ?_, (a4.same (bl.block _ a4.lt)).same (fr.block rb (Nat.lt_of_lt_of_le a4.lt bl.size) (by omega)), (u1.below bl).same (fr.block mb (Nat.lt_of_lt_of_le a6 bl.size) (by omega)), cx.same (fr.block w4.heap.size cx.lt (by omega)), ⟨by rw [HR.out]; omega, by rw [HR.out]; omega, by rw [HR.out]; omega, by rw [HR.out]; omega⟩, by omega, by omega, by omega, by omega, by omega, by omega⟩
    exact ((p5.setMem (by exact H.out.2.1) mb).setBox (by exact H.out.2.1) w4.heap.size).box _)
  clear hm9 hb29 hmb hmd S2
  go_cut [15] from 16 to 24 (fun _ wc => ∃ bb, Hid (CO base s w n rb (rb + 1) mb bb { s.k with bk := Mv.foK (s.k.p n).mem s.k.bk 16 } wc))
  case first =>
    go_region_with (first | (go_at_call 72; refine FK.out.mono ?_; rintro e w4 ⟨rfl, u1, u2, f4⟩; have S4 := Hid.intro (And.intro u1 (A4.out w4 u1 u2 f4)); clear u1 u2 f4; have z5 : w4.cell? ⟨rb + 1, 5, none⟩ = some (.pointer (some ⟨b29, 0, none⟩)) := (by rw [S4.out.2.2.2.1.cell 5 (by omega)]; show some (Kn.ptr _ (s.k.p n).has) = _; rw [H.out.2.1]; rfl)) | (go_at_call 73; refine (CC.out _ S4.out.2.1).mono ?_; rintro e w5 ⟨rfl, cx, bl, l5⟩; have S5 := Hid.intro (And.intro (FIN.out w4 w5 S4.out.1 S4.out.2 cx bl) (S4.out.2.2.2.1.same (bl.block _ S4.out.2.2.2.1.lt))); clear cx bl l5; have v4 := S5.out.2.cell 4 (by omega); have v5 := S5.out.2.cell 5 (by omega); have vf := S5.out.2.frozen))
    all_goals
      have F5 : Hid (CO base s w n rb (rb + 1) mb w4.heap.size { s.k with bk := Mv.foK (s.k.p n).mem s.k.bk 16 } ((w5.setCell ⟨rb + 1, 4, none⟩ (.pointer (some ⟨mb, 0, none⟩))).setCell ⟨rb + 1, 5, none⟩ (.pointer (some ⟨w4.heap.size, 0, none⟩)))) := Hid.intro S5.out.1
      generalize (w5.setCell ⟨rb + 1, 4, none⟩ (.pointer (some ⟨mb, 0, none⟩))).setCell ⟨rb + 1, 5, none⟩ (.pointer (some ⟨w4.heap.size, 0, none⟩)) = W6 at F5 ⊢
      first | (go_wp2_with fail; go_meet) | go_meet
      case rel => exact ⟨_, F5⟩
  case rest =>
    obtain ⟨bb, S3⟩ := hcut
    clear FIN CC A4 FK y4 y5 K2
    obtain ⟨fd, hfd⟩ : ∃ fd, (s.k.p n).fd = fd := ⟨_, rfl⟩
    have HFD := Hid.intro hfd
    have LD : Hid (∀ j, j < (fdA fd).size → wc.cell? ⟨rb + 1, 6 + j, none⟩ = (fdA fd)[j]?) := Hid.intro (fun j hj => by
      have q := S3.out.pb.fds j (by show j < (fdA (s.k.p n).fd).size; rw [hfd]; exact hj)
      rw [show (Kn.chP s.k n).fd = fd from hfd] at q
      exact q)
    have hsz : Hid ((Tryz.prog.info? 63).map (·.size) = some (fdA fd).size) := Hid.intro (by rw [fdA_size]; kernel_rfl)
    have L8 : Hid (s.A 8 < w.heap.size) := Hid.intro (H.out.1.lt (us9 (by omega)))
    clear hfd
    go_wp2_with (refine wpList_load_at rfl 63 _ rfl (rb + 1) 6 rfl (fdA fd) 6 3 LD.out (by kernel_rfl) hsz.out ?_)
    go_loopw [7, 26] (fun _ i wr => ∃ (j : Nat), i = .int .i64 j ∧ j ≤ 6 ∧ Hid (CO base s w n rb (rb + 1) mb bb (Kn.shaK { s.k with bk := Mv.foK (s.k.p n).mem s.k.bk 16 } fd j) wr)) (fun _ i _ => 6 - (intOf i).toNat)
    case atStart => exact ⟨0, rfl, by omega, S3⟩
    case round =>
      clear S3 LD
      obtain ⟨j, rfl, hj6, S⟩ := hrel
      by_cases hlt : j < 6
      · have hltI : (j : Int) < 6 := by omega
        have hix := index_fd fd j hlt wr
        have SU : Hid (Kn.shaK { s.k with bk := Mv.foK (s.k.p n).mem s.k.bk 16 } fd (j + 1) = if fd j = -1 then Kn.shaK { s.k with bk := Mv.foK (s.k.p n).mem s.k.bk 16 } fd j else { Kn.shaK { s.k with bk := Mv.foK (s.k.p n).mem s.k.bk 16 } fd j with fi := Fx.shaT (Kn.shaK { s.k with bk := Mv.foK (s.k.p n).mem s.k.bk 16 } fd j).fi (fd j) }) := Hid.intro rfl
        have RL : Hid (∀ f, f < 24 → ((Kn.shaK { s.k with bk := Mv.foK (s.k.p n).mem s.k.bk 16 } fd j).fi f).refs < 2 ^ 60) := Hid.intro (fun f hf => by
          have a := Kn.shaK_le { s.k with bk := Mv.foK (s.k.p n).mem s.k.bk 16 } fd f j
          have b := H.out.2.2.2 f hf
          have c : ((Kn.shaK { s.k with bk := Mv.foK (s.k.p n).mem s.k.bk 16 } fd j).fi f).refs ≤ (s.k.fi f).refs + j := a
          have e1 : (2 : Nat) ^ 50 = 1125899906842624 := by decide
          have e2 : (2 : Nat) ^ 60 = 1152921504606846976 := by decide
          omega)
        generalize Kn.shaK { s.k with bk := Mv.foK (s.k.p n).mem s.k.bk 16 } fd j = kj at *
        obtain ⟨z, hz⟩ : ∃ z, fd j = z := ⟨_, rfl⟩
        rw [hz] at SU hix
        clear hz
        by_cases hz1 : z = -1
        · subst hz1
          rw [if_pos rfl] at SU
          go_wp2_with fail
          go_roundw
          case rel => exact ⟨j + 1, by go_num, by omega, by rw [SU.out]; exact S⟩
          case measure => simp [intOf]; omega
        · rw [if_neg hz1] at SU
          have zB : (z == -1) = false := by simpa using hz1
          have c8 := S.out.kk.cFi
          rw [show ({ s with k := kj } : St).A 0 = kb from HK.out] at c8
          have XS := Hid.intro (xshare_any (s.A 8) (s.A 6) (s.A 7) z kj.fi wr S.out.kk.fi RL.out)
          have c8' : wr.cell? ⟨kb, 252, none⟩ = some (.pointer (some ⟨s.A 8, 0, none⟩)) := c8
          clear c8
          obtain ⟨a8, ha8⟩ : ∃ a8, s.A 8 = a8 := ⟨_, rfl⟩
          have HA8 := Hid.intro ha8
          rw [ha8] at XS c8'
          clear ha8
          go_wp2_with fail
          refine XS.out.mono ?_
          rintro e w5 ⟨rfl, u5, f5⟩
          generalize errV (Fx.filE kj.fi z) = ev
          have S5 : Hid (CO base s w n rb (rb + 1) mb bb { kj with fi := Fx.shaT kj.fi z } w5) := Hid.intro (by
            rw [← HA8.out] at u5 f5
            have q := S.out.kk.setFi u5 f5
            exact S.out.step f5 q.1 q.2 L8.out)
          clear u5 f5 c8'
          go_wp2_with fail
          go_roundw
          case rel => exact ⟨j + 1, by go_num, by omega, by rw [SU.out]; exact S5⟩
          case measure => simp [intOf]; omega
      · obtain rfl : j = 6 := by omega
        obtain ⟨B, hB⟩ : ∃ B, prA mb bb (Kn.chP s.k n) = B := ⟨_, rfl⟩
        have HB := Hid.intro hB
        have RG : Hid (wr.rangeAt (rb + 1) 0 B.toList) := Hid.intro (by rw [← hB]; exact S.out.pb.range)
        have SL : Hid ((Tryz.prog.info? 65).map (·.size) = some B.toList.length) := Hid.intro (by rw [← hB, Array.length_toList, prA_size]; kernel_rfl)
        have SZ : Hid ((Tryz.prog.info? 65).map (·.size) = some B.size) := Hid.intro (by rw [← hB, prA_size]; kernel_rfl)
        have TH : Hid (wr.there rb 0 B.size) := Hid.intro (by rw [← hB, prA_size]; exact S.out.rs.there)
        have H1 : Hid (B.all (·.oneCell') = true) := Hid.intro (by rw [← hB]; exact prA_one _ _ _)
        have F6 : Hid (PB (wr.setCells rb 0 B.toList) rb mb bb (Kn.chP s.k n) ∧ KKt (wr.setCells rb 0 B.toList) base { s with k := Kn.copK s.k n } ∧ KF s w { s with k := Kn.copK s.k n } (wr.setCells rb 0 B.toList) ∧ UAt (wr.setCells rb 0 B.toList) mb (s.A 4) (s.k.p n).mem ∧ CX (wr.setCells rb 0 B.toList) bb (Sg.chiF (s.k.p n).box)) := Hid.intro (by
          have fr : Frm rb wr (wr.setCells rb 0 B.toList) := Frm.setCells _ _ (Frm.refl _ _)
          have e : Kn.shaK { s.k with bk := Mv.foK (s.k.p n).mem s.k.bk 16 } fd 6 = Kn.copK s.k n := by unfold Kn.copK; rw [HFD.out]
          have q := S.out
          rw [e] at q
          refine ⟨by rw [← hB]; exact S.out.rs.put _ _ _, q.kk.fresh fr (fun ⟨i, hi, e⟩ => ?_), q.kf.fresh fr (by have := q.ge; omega), q.um.same (fr.block _ q.um.lt (by have := q.ne; omega)), q.ub.same (fr.block _ q.ub.lt (by have := q.ne; omega))⟩
          have a := q.kf.sub rb ⟨i, hi, e⟩
          have g := q.ge
          rcases a with a | a
          · have := H.out.1.klt a; omega
          · have e2 : rb = s.A i := e
            have k0 : us s i := by
              have hi2 := hi
              obtain ⟨T, eT⟩ := Kn.shaK_same { s.k with bk := Mv.foK (s.k.p n).mem s.k.bk 16 } fd 6
              have e3 : Kn.copK s.k n = { s.k with bk := Mv.foK (s.k.p n).mem s.k.bk 16, fi := T } := by rw [← eT]; unfold Kn.copK; rw [HFD.out]
              rw [e3] at hi2
              exact hi2
            have := H.out.1.lt k0
            omega)
        have GE := Hid.intro (And.intro S.out.ge S.out.ne)
        clear hB S
        go_wp2_with (first | (refine wpList_load_mid rfl 65 _ rfl (rb + 1) 0 rfl B.toList _ RG.out Tryz.underlying65 rfl SL.out ?_; rw [Array.toArray_toList]) | (refine wpList_store_mid rfl 65 _ _ rfl rb 0 B rfl rfl TH.out SZ.out H1.out ?_))
        generalize wr.setCells rb 0 B.toList = WF at F6 ⊢
        have g0 := F6.out.1.cell 0 (by omega)
        have g1 := F6.out.1.cell 1 (by omega)
        have g2 := F6.out.1.cell 2 (by omega)
        have g3 := F6.out.1.cell 3 (by omega)
        have g4 := F6.out.1.cell 4 (by omega)
        have g5 := F6.out.1.cell 5 (by omega)
        have g6 := F6.out.1.cell 6 (by omega)
        have g7 := F6.out.1.cell 7 (by omega)
        have g8 := F6.out.1.cell 8 (by omega)
        have g9 := F6.out.1.cell 9 (by omega)
        have g10 := F6.out.1.cell 10 (by omega)
        have g11 := F6.out.1.cell 11 (by omega)
        (try simp only [Exit.then])
        refine bodyPost_ret (v := .agg #[Kn.pcx mb bb (Kn.chP s.k n) 0, Kn.pcx mb bb (Kn.chP s.k n) 1, Kn.pcx mb bb (Kn.chP s.k n) 2, Kn.pcx mb bb (Kn.chP s.k n) 3, Kn.pcx mb bb (Kn.chP s.k n) 4, Kn.pcx mb bb (Kn.chP s.k n) 5, Kn.pcx mb bb (Kn.chP s.k n) 6, Kn.pcx mb bb (Kn.chP s.k n) 7, Kn.pcx mb bb (Kn.chP s.k n) 8, Kn.pcx mb bb (Kn.chP s.k n) 9, Kn.pcx mb bb (Kn.chP s.k n) 10, Kn.pcx mb bb (Kn.chP s.k n) 11]) (by simp [results, Tryz.f35, go_sem, g0, g1, g2, g3, g4, g5, g6, g7, g8, g9, g10, g11]) rfl ?_
        exact ⟨mb, bb, rfl, F6.out.2.1, F6.out.2.2.1, F6.out.2.2.2.1, F6.out.2.2.2.2, GE.out.1.2.2.1, GE.out.1.2.2.2, GE.out.2.1⟩
end
end Go.Proofs.YtghogbngmcolmaaGreat

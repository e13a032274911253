import Derived.Deep.CutRange
import Derived.Deep.CutBlock
import Derived.Test.YtghogbngmcolmaaGreatQbf
namespace Go.Proofs.YtghogbngmcolmaaGreat
open Go.RowKit
open Tr (Fo Nd)
open Mv (Me Bk)
open Kn (Pr Kp St us KB KJ)
namespace Sp
variable {t : T} {d : Nat → Nat}
theorem Tree.lower (h : Tree t d) {z y : Nat} (hz : z < 6) (hh : t.here z = true) (hy : y ∈ W t (z : Int)) (n : y ≠ z) : d y < d z := by
  rw [h.step hz hh] at hy
  rcases List.mem_cons.1 hy with e | hy
  · exact absurd e n
  · rcases h.par_cases hz hh with ⟨_, e, _⟩ | ⟨p, h1, e, h2, h3⟩
    · rw [e, W_neg _ _ (by omega)] at hy; cases hy
    · rw [e] at hy
      have := (h.mem h1 h2 y hy).2.2
      omega
theorem Inv.zero (h : Inv t d) (hH : HDs t) {z n : Nat} (hz : z < 6) (hw : t.who z 1 = n + 1) (n0 : n ≠ 0) : ¬ mem t z 0 := fun c => by
  have a := (h.mem_of hz (by omega) c).2
  rw [hH.r0.1] at a
  rw [show ((1 - 1 : Nat) : Int) = ((0 : Nat) : Int) from rfl, h.tree.step (by omega) h.tree.root.1, h.tree.root.2.1, W_neg _ _ (by omega)] at a
  have : z = 0 := by simpa using a
  subst this
  have := hH.r0.2
  omega
theorem Inv.not_below (h : Inv t d) {z y n m : Nat} (hn : n < 20) (hm : m < 20) (ho : t.of n = z + 1) (hy : t.of m = y + 1) (k : mem t z m) (c : y ≠ z) : ¬ mem t y n := fun e => by
  obtain ⟨_, z6, zh⟩ := h.mem_self hn ho
  obtain ⟨_, y6, yh⟩ := h.mem_self hm hy
  have a := (h.mem_of z6 hm k).2
  rw [hy, show y + 1 - 1 = y by omega] at a
  have b := (h.mem_of y6 hn e).2
  rw [ho, show z + 1 - 1 = z by omega] at b
  have := h.tree.lower y6 yh a (Ne.symm c)
  have := h.tree.lower z6 zh b c
  omega
end Sp
namespace Kn
def VanOk (N : Nat) (d : Nat → Nat) (R : Kp → Nat → Kp → Prop) : Prop := ∀ (X : Nat → Prop) (k : Kp) (n : Nat) (k' : Kp) (z : Nat), VI X N d k → n < 20 → n ≠ 0 → ¬ X n → k.sp.of n = z + 1 → (hd k n = n → ∀ m, m < 20 → X m → ¬ Sp.mem k.sp z m) → R k n k' → VI X N d k' ∧ Gz k k' z ∧ k'.p n = Pr.no ∧ (hd k n ≠ n → ∀ x, x < 20 → x ≠ n → k'.p x = k.p x ∧ k'.sp.of x = k.sp.of x)
structure EI (X : Nat → Prop) (N : Nat) (d : Nat → Nat) (n z : Nat) (k : Kp) : Prop where
  vi : VI X N d k
  hn : n < 20
  n0 : n ≠ 0
  xn : X n
  ho : k.sp.of n = z + 1
  hw : k.sp.who z 1 = n + 1
  hx : ∀ m, m < 20 → X m → m ≠ n → ¬ Sp.mem k.sp z m
section
variable {X : Nat → Prop} {N : Nat} {d : Nat → Nat} {k k1 k2 k' : Kp} {n z m : Nat} {R : Kp → Nat → Kp → Prop}
theorem EI.z6 (h : EI X N d n z k) : z < 6 ∧ k.sp.here z = true := (h.vi.iv.mem_self h.hn h.ho).2
theorem EI.memb (h : EI X N d n z k) : membL k.sp (z : Int) = Sp.memb k.sp z := by
  unfold membL
  rw [Sp.isE_nat h.z6.1 h.z6.2, if_pos rfl, Int.toNat_natCast]
theorem EI.next (h : EI X N d n z k) (hm : (membL k.sp (z : Int))[1]? = some m) : m < 20 ∧ m ≠ 0 ∧ m ≠ n ∧ ¬ X m ∧ Sp.mem k.sp z m ∧ ∃ y, k.sp.of m = y + 1 ∧ (hd k m = m → ∀ x, x < 20 → X x → ¬ Sp.mem k.sp y x) := by
  rw [h.memb] at hm
  obtain ⟨m20, mz⟩ := Sp.memb_of hm (fun p hp => h.vi.iv.wle z p h.z6.1 hp)
  have mn := (h.vi.iv.second h.z6.1 h.hw).2 m hm
  have m0 : m ≠ 0 := fun e => by subst e; exact h.vi.iv.zero h.vi.hs h.z6.1 h.hw h.n0 mz
  have o := (h.vi.iv.mem_of h.z6.1 m20 mz).1
  refine ⟨m20, m0, mn, fun c => h.hx m m20 c mn mz, mz, k.sp.of m - 1, by omega, fun hd1 x x20 xx xm => ?_⟩
  have hy : k.sp.of m = (k.sp.of m - 1) + 1 := by omega
  by_cases e : x = n
  · subst e
    refine h.vi.iv.not_below h.hn m20 h.ho hy mz (fun c => ?_) xm
    have := (hd_eq h.vi.iv h.vi.hs m20 hy).1 hd1
    rw [c, h.hw] at this
    omega
  · exact h.hx x x20 xx e (h.vi.iv.mem_up h.z6.1 m20 x20 hy mz xm)
theorem EI.step (h : EI X N d n z k) (hm : (membL k.sp (z : Int))[1]? = some m) (hR : VanOk N d R) (r : R k m k1) : EI X N d n z k1 ∧ Gz k k1 z ∧ k1.p n = k.p n ∧ k1.p m = Pr.no := by
  obtain ⟨m20, m0, mn, mx, mz, y, hy, hx⟩ := h.next hm
  obtain ⟨v1, g1, e1, l1⟩ := hR X k m k1 y h.vi m20 m0 mx hy hx r
  have kn : k1.p n = k.p n ∧ k1.sp.of n = k.sp.of n := by
    by_cases c : hd k m = m
    · rcases g1.kp n h.hn with q | q
      · exact q
      · exact absurd q.2.2 (hx c n h.hn h.xn)
    · exact l1 c n h.hn (Ne.symm mn)
  have o1 : k1.sp.of n = z + 1 := kn.2.trans h.ho
  have g : Gz k k1 z := g1.up (fun x x20 xm => h.vi.iv.mem_up h.z6.1 m20 x20 hy mz xm)
  exact ⟨⟨v1, h.hn, h.n0, h.xn, o1, g.wk z 1 n h.z6.1 (by omega) h.hn h.hw (by omega), fun x x20 xx xn c => h.hx x x20 xx xn (g.back h.z6.1 c)⟩, g, kn.1, e1⟩
theorem EI.iter (hR : VanOk N d R) : ∀ (j : Nat) (k : Kp), EI X N d n z k → IterN R (z : Int) j k k' → EI X N d n z k' ∧ Gz k k' z ∧ k'.p n = k.p n ∧ (membL k'.sp (z : Int)).length ≤ 1
  | 0, k, h, r => by
    obtain ⟨rfl, hl⟩ := r
    exact ⟨h, Gz.refl _ _, rfl, hl⟩
  | j + 1, k, h, r => by
    obtain ⟨m, k1, hm, r1, r2⟩ := r
    obtain ⟨a, g, e, _⟩ := h.step hm hR r1
    obtain ⟨a2, g2, e2, l2⟩ := EI.iter hR j k1 a r2
    exact ⟨a2, g.trans h.z6.1 g2, e2.trans e, l2⟩
theorem EI.last (h : EI (fun m => X m ∨ m = n) N d n z k) (hX : ¬ X n) (hl : (membL k.sp (z : Int)).length ≤ 1) (hh : (k.p n).has = false) (s0 : (k.p n).st ≠ 0) :
    VI X N d (shuK (finK k n) z) ∧ Gz k (shuK (finK k n) z) z ∧ (shuK (finK k n) z).p n = Pr.no ∧ Sp.dropE (finK k n).sp (z : Int) = 0 := by
  have o : k.sp.of n ≠ 0 := by have := h.ho; omega
  have hn := h.hn
  rw [h.memb] at hl
  obtain ⟨de, hs⟩ := h.vi.hs.shut h.vi.iv hn h.n0 h.ho h.z6.1 h.z6.2 h.hw (Sp.memb_one h.hw hl)
  have kj := (h.vi.kj.fin hn s0 hh).mono (Y := X) (M := N) (fun m _ e => e.1.elim id (fun q => absurd q e.2)) (Nat.le_refl _)
  have hr : (finK k n).sp.here z = true := by show (Sp.leaT k.sp (n : Int)).here z = true; rw [(Sp.lea_here hn o).1]; exact h.z6.2
  have e1 : ∀ m, m ≠ n → (shuK (finK k n) z).p m = k.p m := fun m c => put_ne _ _ _ _ c
  have e2 : (shuK (finK k n) z).p n = Pr.no := put_same _ _ _
  have es : (shuK (finK k n) z).sp = { Sp.leaT k.sp (n : Int) with here := Sp.upB (Sp.leaT k.sp (n : Int)).here z false, par := Sp.upI (Sp.leaT k.sp (n : Int)).par z 0 } := by
    show Sp.dropT (Sp.leaT k.sp (n : Int)) (z : Int) = _
    unfold Sp.dropT
    rw [if_pos de, Int.toNat_natCast]
  refine ⟨⟨kj.shu h.z6.1 hr de, (h.vi.iv.leave _).drop _, hs⟩, ⟨fun m hm => ?_, fun s p hs hp => ?_, fun s p m hs hp hm e c => ?_, fun s hs e => ?_, fun s hs q r m hm mm => ?_⟩, e2, de⟩
  · rw [es]
    show (_ ∧ (Sp.leaT k.sp (n : Int)).of m = _) ∨ (_ ∧ (Sp.leaT k.sp (n : Int)).of m = 0 ∧ _)
    rw [Sp.lea_of hn o]
    by_cases c : m = n
    · subst c
      exact .inr ⟨e2, if_pos rfl, (h.vi.iv.mem_self hn h.ho).1⟩
    · exact .inl ⟨e1 m c, if_neg c⟩
  · rw [es]
    show (Sp.leaT k.sp (n : Int)).who s p = _ ∨ (Sp.leaT k.sp (n : Int)).who s p = 0
    rw [Sp.lea_who hn o hs]
    by_cases c : k.sp.who s p = n + 1
    · rw [if_pos c]; exact .inr rfl
    · rw [if_neg c]; exact .inl rfl
  · rw [es] at c ⊢
    have c2 : (Sp.leaT k.sp (n : Int)).of m ≠ 0 := c
    rw [Sp.lea_of hn o] at c2
    show (Sp.leaT k.sp (n : Int)).who s p = _
    by_cases q : m = n
    · rw [if_pos q] at c2; exact absurd rfl c2
    · rw [Sp.lea_who hn o hs, if_neg (by omega)]; exact e
  · rw [es] at e
    have e3 : (if s = z then false else (Sp.leaT k.sp (n : Int)).here s) = true := e
    by_cases c : s = z
    · rw [if_pos c] at e3; cases e3
    · rw [if_neg c, (Sp.lea_here hn o).1] at e3; exact e3
  · rw [es] at r ⊢
    have e3 : (if s = z then false else (Sp.leaT k.sp (n : Int)).here s) = false := r
    by_cases c : s = z
    · subst c
      obtain ⟨p, p21, pw⟩ := mm
      have p1 := Sp.memb_one h.hw hl p p21 (by omega)
      subst p1
      have : m = n := by have := h.hw; omega
      subst this
      show (Sp.leaT k.sp (m : Int)).of m = 0
      rw [Sp.lea_of hn o, if_pos rfl]
    · rw [if_neg c, (Sp.lea_here hn o).1, q] at e3; cases e3
theorem van_ok : ∀ f, VanOk N d (VanN f)
  | 0 => fun _ _ _ _ _ _ _ _ _ _ _ r => r.elim
  | f + 1 => fun X k n k' z h hn n0 hX ho hx r => by
    obtain ⟨k1, h1, h2, r⟩ := r
    rcases r with ⟨c, rfl⟩ | ⟨c, k2, j, ri, rfl⟩
    · obtain ⟨a, b, e, l⟩ := h.lone hn n0 hX ho c h1 h2
      exact ⟨a, b, e, fun _ => l⟩
    · obtain ⟨a, sp, tb, hh, s0, oth⟩ := h.first hn hX ho h1 h2
      have zi : Sp.inN k.sp (n : Int) = z := Sp.inN_of hn ho
      rw [zi] at ri ⊢
      have ei : EI (fun m => X m ∨ m = n) N d n z k1 := ⟨a, hn, n0, .inr rfl, by rw [sp]; exact ho, by rw [sp]; exact (hd_eq h.iv h.hs hn ho).1 c, fun m m20 xm mn mz => by
        rw [sp] at mz
        exact hx c m m20 (xm.elim id (fun q => absurd q mn)) mz⟩
      obtain ⟨b, g, e, l⟩ := EI.iter (van_ok f) j k1 ei ri
      obtain ⟨v, g2, e2, _⟩ := b.last hX l (by rw [e]; exact hh) (by rw [e]; exact s0)
      have gg := g.trans ei.z6.1 g2
      refine ⟨v, ⟨fun m hm => ?_, fun s p hs hp => ?_, fun s p m hs hp hm => ?_, fun s hs => ?_, fun s hs => ?_⟩, e2, fun q => absurd c q⟩
      · by_cases q : m = n
        · subst q
          rcases gg.kp m hm with w | w
          · rcases g2.kp m hm with y | y
            · exfalso
              have : (k2.p m) = Pr.no := y.1.symm.trans e2
              rw [← e, this] at s0
              exact s0 rfl
            · exact .inr ⟨e2, y.2.1, (h.iv.mem_self hm ho).1⟩
          · exact .inr ⟨w.1, w.2.1, by rw [← sp]; exact w.2.2⟩
        · have := gg.kp m hm
          rw [oth m q, sp] at this
          exact this
      · have := gg.wh s p hs hp; rw [sp] at this; exact this
      · have := gg.wk s p m hs hp hm; rw [sp] at this; exact this
      · have := gg.hr s hs; rw [sp] at this; exact this
      · have := gg.hk s hs; rw [sp] at this; exact this
end
end Kn
end Go.Proofs.YtghogbngmcolmaaGreat
namespace Go.Proofs.YtghogbngmcolmaaGreat
open Go.RowKit
open Tr (Fo Nd)
open Mo (Wh Mt)
open Mv (Me Bk)
open Kn (Pr Kp St us KB KJ)
def prA (a b : Nat) (x : Pr) : Array Value := ((List.range 12).map fun j => Kn.pcx a b x j).toArray
theorem prA_size (a b : Nat) (x : Pr) : (prA a b x).size = 12 := by simp [prA]
theorem prA_at (a b : Nat) (x : Pr) (j : Nat) (h : j < 12) : (prA a b x)[j]? = some (Kn.pcx a b x j) := by simp [prA, h]
theorem pcx_one (a b : Nat) (x : Pr) (j : Nat) : (Kn.pcx a b x j).oneCell' = true := by
  unfold Kn.pcx Kn.ptr
  repeat' split
  all_goals rfl
theorem prA_one (a b : Nat) (x : Pr) : (prA a b x).all (·.oneCell') = true := Array.all_eq_true_iff_forall_mem.2 (fun v hv => by
  unfold prA at hv
  rw [List.mem_toArray] at hv
  obtain ⟨j, _, rfl⟩ := List.mem_map.1 hv
  exact pcx_one a b x j)
theorem prA_no (a b : Nat) : prA a b Pr.no = #[.int .i64 0, .int .i64 0, .int .i64 0, .int .i64 0, .pointer none, .pointer none, .int .i64 0, .int .i64 0, .int .i64 0, .int .i64 0, .int .i64 0, .int .i64 0] := rfl
section
variable {w w' : World} {base : Nat} {s : St}
theorem KKt.there (h : KKt w base s) {n : Nat} (hn : n < 20) : w.there (s.A 0) (n * 12) 12 := fun j hj => ⟨by rw [h.cP n j hn hj]; rfl, h.frozen _⟩
theorem KKt.whole (h : KKt w base s) {n : Nat} (hn : n < 20) {x : Pr} (h1 : (s.k.p n).has = false) (h2 : x.has = false) (a b : Nat) :
    KKt (w.setCells (s.A 0) (n * 12) (prA a b x).toList) base { s with k := s.k.put n x } ∧ KF s w { s with k := s.k.put n x } (w.setCells (s.A 0) (n * 12) (prA a b x).toList) := by
  obtain ⟨C, e, sz⟩ := h.ker
  obtain ⟨C', e', sz'⟩ := heap_setCells_blk (s.A 0) (prA a b x).toList (n * 12) w C e
  have hl : (prA a b x).toList.length = 12 := by rw [Array.length_toList, prA_size]
  have f : Frm (s.A 0) w (w.setCells (s.A 0) (n * 12) (prA a b x).toList) := Frm.setCells _ _ (Frm.refl _ _)
  have pcn : ∀ c d j, Kn.pcx c d x j = Kn.pcx a b x j := fun c d j => by
    unfold Kn.pcx
    rw [h2]
    rfl
  have cel : ∀ o, o < 253 → (w.setCells (s.A 0) (n * 12) (prA a b x).toList).cell? ⟨s.A 0, o, none⟩ = some (Kn.kc { s with k := s.k.put n x } o) := fun o ho => by
    rw [Kn.kc_put]
    by_cases c : o < 240 ∧ o / 12 = n
    · rw [if_pos c, pcn]
      obtain ⟨j, rfl, hj⟩ : ∃ j, o = n * 12 + j ∧ j < 12 := ⟨o % 12, by omega, by omega⟩
      rw [World.cell?_setCells_in (s.A 0) (prA a b x).toList (n * 12) w (fun i hi => by rw [hl] at hi; rw [h.cP n i hn hi]; rfl) j (by omega), ← List.getElem?_eq_getElem (by omega), Array.getElem?_toList, prA_at a b x j hj, show (n * 12 + j) % 12 = j by omega]
    · rw [if_neg c, World.cell?_setCells_out (s.A 0) _ (n * 12) w ⟨s.A 0, o, none⟩ (fun _ _ => by rw [hl]; show o < _ ∨ _ ≤ o; omega)]
      exact h.cel o ho
  have o := h.others (us9 (by omega)) f
  have hp : ∀ j, ((s.k.put n x).p j).has = true → j ≠ n ∧ (s.k.put n x).p j = s.k.p j := fun j hj => by
    by_cases c : j = n
    · subst c; rw [Kn.put_same, h2] at hj; cases hj
    · exact ⟨c, Kn.put_ne _ _ _ _ c⟩
  have pu := Kn.us_put1 (s := s) (n := n) (x := x) (h2.trans h1.symm)
  refine ⟨⟨⟨C', e', by omega⟩, cel, h.sp.same (o 1 (us9 (by omega)) (by omega)), (o 2 (us9 (by omega)) (by omega)).trans h.gr, h.sc.same (o 3 (us9 (by omega)) (by omega)), h.bk.same (o 4 (us9 (by omega)) (by omega)) (o 5 (us9 (by omega)) (by omega)), h.fi.same (o 8 (us9 (by omega)) (by omega)), h.fo.same (o 6 (us9 (by omega)) (by omega)), h.pi.same (o 7 (us9 (by omega)) (by omega)),
    fun j hj jh => ?_, fun j hj jh => ?_,
    fun n hn hh => (h.tb n hn hh).same (o _ (Kn.us_t hn hh) (by omega)) (fun g eg => by have := o _ (Kn.us_r hn hh eg) (by omega); rwa [h.ro n hn hh g eg] at this), h.ro, fun i j hi hj => h.inj i j ((pu i).1 hi) ((pu j).1 hj), fun i hi => h.low i ((pu i).1 hi)⟩, KF.one _ (us9 (by omega)) f rfl (fun i hi => (pu i).1 hi)⟩
  · have q := hp j jh
    rw [q.2] at jh ⊢
    exact (h.me j hj jh).same (o _ (Kn.us_m hj jh) (by omega))
  · have q := hp j jh
    rw [q.2] at jh ⊢
    exact (h.bx j hj jh).same (o _ (Kn.us_b hj jh) (by omega))
theorem KKt.shutT (h : KKt w base s) {z : Nat} (hz : z < 6) (hh : s.k.ht z = true) {F : Fo} (u : FAt w' (s.A 6) F) (k : Onl (BF (s.A (49 + z)) (s.A 6)) w w') :
    KKt (w'.setCell ⟨s.A 0, 240 + z, none⟩ (.pointer none)) base { s with k := { s.k with fo := F, ht := fun x => if x = z then false else s.k.ht x } } ∧ KF s w { s with k := { s.k with fo := F, ht := fun x => if x = z then false else s.k.ht x } } (w'.setCell ⟨s.A 0, 240 + z, none⟩ (.pointer none)) := by
  have ut := Kn.us_t hz hh
  have o : ∀ i, us s i → i ≠ 49 + z → i ≠ 6 → w'.heap[s.A i]? = w.heap[s.A i]? := fun i hi a b => k.block _ (h.lt hi) (fun c => by
    rcases c with c | c
    · exact h.ne hi ut a c
    · exact h.ne hi (us9 (by omega)) b c)
  have sb : ∀ i, us s i → i ≠ 0 → (w'.setCell ⟨s.A 0, 240 + z, none⟩ (.pointer none)).heap[s.A i]? = w'.heap[s.A i]? := fun i hi a => setBlk _ _ _ _ (h.ne hi (us9 (by omega)) a)
  have oo : ∀ i, us s i → i ≠ 0 → i ≠ 49 + z → i ≠ 6 → (w'.setCell ⟨s.A 0, 240 + z, none⟩ (.pointer none)).heap[s.A i]? = w.heap[s.A i]? := fun i hi a b c => (sb i hi a).trans (o i hi b c)
  obtain ⟨C, e, sz⟩ := h.ker
  have e1 : w'.heap[s.A 0]? = some (.cells C 77 (0, 0)) := (o 0 (us9 (by omega)) (by omega) (by omega)).trans e
  have pu : ∀ i, us { s with k := { s.k with fo := F, ht := fun x => if x = z then false else s.k.ht x } } i → us s i ∧ i ≠ 49 + z ∧ i ≠ 55 + z := fun i hi => by
    rcases hi with hi | ⟨h1, h2, h3⟩ | ⟨h1, h2, h3⟩ | ⟨h1, h2, h3⟩ | ⟨h1, h2, h3, h4⟩
    · exact ⟨.inl hi, by omega, by omega⟩
    · exact ⟨.inr (.inl ⟨h1, h2, h3⟩), by omega, by omega⟩
    · exact ⟨.inr (.inr (.inl ⟨h1, h2, h3⟩)), by omega, by omega⟩
    · have h5 : (if i - 49 = z then false else s.k.ht (i - 49)) = true := h3
      by_cases c : i - 49 = z
      · rw [if_pos c] at h5; cases h5
      · rw [if_neg c] at h5; exact ⟨.inr (.inr (.inr (.inl ⟨h1, h2, h5⟩))), by omega, by omega⟩
    · have h5 : (if i - 55 = z then false else s.k.ht (i - 55)) = true := h3
      by_cases c : i - 55 = z
      · rw [if_pos c] at h5; cases h5
      · rw [if_neg c] at h5; exact ⟨.inr (.inr (.inr (.inr ⟨h1, h2, h5, h4⟩))), by omega, by omega⟩
  have hq : ∀ n, (if n = z then false else s.k.ht n) = true → n ≠ z ∧ s.k.ht n = true := fun n q => by
    by_cases c : n = z
    · rw [if_pos c] at q; cases q
    · rw [if_neg c] at q; exact ⟨c, q⟩
  refine ⟨⟨⟨_, blk_set e1 _ _, by simpa using sz⟩, fun x hx => ?_, h.sp.same (oo 1 (us9 (by omega)) (by omega) (by omega) (by omega)), (oo 2 (us9 (by omega)) (by omega) (by omega) (by omega)).trans h.gr, h.sc.same (oo 3 (us9 (by omega)) (by omega) (by omega) (by omega)), h.bk.same (oo 4 (us9 (by omega)) (by omega) (by omega) (by omega)) (oo 5 (us9 (by omega)) (by omega) (by omega) (by omega)), h.fi.same (oo 8 (us9 (by omega)) (by omega) (by omega) (by omega)), u.same (sb 6 (us9 (by omega)) (by omega)), h.pi.same (oo 7 (us9 (by omega)) (by omega) (by omega) (by omega)),
    fun n hn hh => (h.me n hn hh).same (oo _ (Kn.us_m hn hh) (by omega) (by omega) (by omega)), fun n hn hh => (h.bx n hn hh).same (oo _ (Kn.us_b hn hh) (by omega) (by omega) (by omega)),
    fun n hn q => ?_, fun n hn q => h.ro n hn (hq n q).2, fun i j hi hj => h.inj i j (pu i hi).1 (pu j hj).1, fun i hi => h.low i (pu i hi).1⟩,
    ⟨(k.mono (fun b _ c => by
      rcases c with c | c
      · exact ⟨_, ut, c⟩
      · exact ⟨6, us9 (by omega), c⟩)).setCell ⟨0, us9 (by omega), rfl⟩ _ _, fun b ⟨i, hi, eb⟩ => .inl ⟨i, (pu i hi).1, eb⟩, rfl⟩⟩
  · by_cases c : x = 240 + z
    · subst c
      rw [cell_set_same e1 _ _ (by omega)]
      unfold Kn.kc
      rw [if_neg (by omega), if_pos (by omega), show 240 + z - 240 = z by omega]
      show _ = some (Kn.ptr _ (if z = z then false else _))
      rw [if_pos rfl]; rfl
    · rw [cell_set_ne e1 _ _ _ (Ne.symm c), cell_blk e1, ← cell_blk e, h.cel x hx]
      unfold Kn.kc
      by_cases c1 : x < 240
      · rw [if_pos c1, if_pos c1]; rfl
      · rw [if_neg c1, if_neg c1]
        by_cases c2 : x < 246
        · rw [if_pos c2, if_pos c2]
          have hy : x - 240 ≠ z := by omega
          generalize x - 240 = y at hy ⊢
          show some (Kn.ptr (s.A (49 + y)) (s.k.ht y)) = some (Kn.ptr (s.A (49 + y)) (if y = z then false else s.k.ht y))
          rw [if_neg hy]
        · rw [if_neg c2, if_neg c2]
  · have q2 := hq n q
    exact (h.tb n hn q2.2).same (oo _ (Kn.us_t hn q2.2) (by omega) (by omega) (by omega)) (fun g eg => by have := oo _ (Kn.us_r hn q2.2 eg) (by omega) (by omega) (by omega); rwa [h.ro n hn q2.2 g eg] at this)
end
theorem filt_lt {P Q : Nat → Bool} (h : ∀ x, P x = true → Q x = true) {a : Nat} (hQ : Q a = true) (hP : P a = false) : ∀ n, a < n → ((List.range n).filter P).length < ((List.range n).filter Q).length := by
  have le : ∀ n, ((List.range n).filter P).length ≤ ((List.range n).filter Q).length := fun n => by
    induction n with
    | zero => exact Nat.le_refl _
    | succ n ih =>
      rw [List.range_succ, List.filter_append, List.filter_append, List.length_append, List.length_append]
      cases hp : P n
      · simp [hp]; omega
      · simp [hp, h n hp]; omega
  intro n
  induction n with
  | zero => intro c; omega
  | succ n ih =>
    intro c
    rw [List.range_succ, List.filter_append, List.filter_append, List.length_append, List.length_append]
    by_cases e : a = n
    · subst e
      have := le a
      simp [hP, hQ]; omega
    · have := ih (by omega)
      cases hp : P n
      · simp [hp]; omega
      · simp [hp, h n hp]; omega
namespace Kn
theorem EI.fewer {X : Nat → Prop} {N : Nat} {d : Nat → Nat} {k k1 : Kp} {n z m : Nat} (h : EI X N d n z k) (h1 : EI X N d n z k1) (g : Gz k k1 z) (m20 : m < 20) (mz : Sp.mem k.sp z m) (e : k1.p m = Pr.no) : (membL k1.sp (z : Int)).length < (membL k.sp (z : Int)).length := by
  rw [h.memb, h1.memb]
  unfold Sp.memb
  rw [List.length_map, List.length_map]
  obtain ⟨p, p21, pw⟩ := mz
  have o : k1.sp.of m = 0 := by
    cases q : k1.sp.of m with
    | zero => rfl
    | succ y => exact absurd (show (k1.p m).st = 0 by rw [e]; rfl) ((h1.vi.kj.of m m20).1 (by rw [q]; omega))
  have w0 : k1.sp.who z p = 0 := by
    rcases g.wh z p h.z6.1 p21 with c | c
    · exact absurd o (h1.vi.iv.mem_of h1.z6.1 m20 ⟨p, p21, by rw [c]; exact pw⟩).1
    · exact c
  have key : ∀ q, (Sp.memP k1.sp z q && decide (q < 21)) = true → (Sp.memP k.sp z q && decide (q < 21)) = true := fun q hq => by
    have hq2 : k1.sp.who z q ≠ 0 ∧ q < 21 := by simpa [Sp.memP] using hq
    rcases g.wh z q h.z6.1 hq2.2 with c | c
    · simp [Sp.memP, ← c, hq2]
    · exact absurd c hq2.1
  have eq : ∀ t : Sp.T, (List.range 21).filter (Sp.memP t z) = (List.range 21).filter (fun q => Sp.memP t z q && decide (q < 21)) := fun t => List.filter_congr (fun q hq => by
    have : q < 21 := by simpa using hq
    simp [this])
  rw [eq k1.sp, eq k.sp]
  exact filt_lt key (a := p) (by simp [Sp.memP, pw, p21]) (by simp [Sp.memP, w0]) 21 p21
end Kn
end Go.Proofs.YtghogbngmcolmaaGreat
namespace Go.Proofs.YtghogbngmcolmaaGreat
open Go.RowKit
open Tr (Fo Nd)
open Mo (Wh Mt)
open Mv (Me Bk)
open Kn (Pr Kp St us KB KJ VI EI)
def slen : Value → Nat
  | .slice _ n _ => n
  | _ => 0
def VanC (base N : Nat) (d : Nat → Nat) (r : Nat) : Prop := ∀ (X : Nat → Prop) (s : St) (w : World) (n z : Nat), KKt w base s → VI X N d s.k → n < 20 → n ≠ 0 → ¬ X n → s.k.sp.of n = z + 1 → (Kn.hd s.k n = n → 6 ≤ d z + r ∧ ∀ m, m < 20 → X m → ¬ Sp.mem s.k.sp z m) → 1 ≤ r →
  Calls Tryz.prog 41 #[.pointer (some ⟨s.A 0, 0, none⟩), .int .i64 n] w fun e w' => ∃ k', e = .returned (.tuple #[]) ∧ Kn.VanN r s.k n k' ∧ KKt w' base { s with k := k' } ∧ KF s w { s with k := k' } w'
theorem Kn.EI.deeper {X : Nat → Prop} {N : Nat} {d : Nat → Nat} {k : Kp} {n z m y : Nat} (h : EI X N d n z k) (m20 : m < 20) (mn : m ≠ n) (mz : Sp.mem k.sp z m) (hy : k.sp.of m = y + 1) (c : Kn.hd k m = m) : d z < d y := by
  obtain ⟨_, y6, yh⟩ := h.vi.iv.mem_self m20 hy
  have a := (h.vi.iv.mem_of h.z6.1 m20 mz).2
  rw [hy, show y + 1 - 1 = y by omega] at a
  refine h.vi.iv.tree.lower y6 yh a (fun e => ?_)
  have := (Kn.hd_eq h.vi.iv h.vi.hs m20 hy).1 c
  rw [← e, h.hw] at this
  omega
section
variable (base N : Nat) (d : Nat → Nat) (r : Nat) (X : Nat → Prop) (s : St) (w : World) (n z : Nat)
set_option maxRecDepth 100000 in
set_option maxHeartbeats 2000000 in
theorem kempty_any (hV : VanC base N d r) (hr : 1 ≤ r) (hz : 5 ≤ d z + r) (h : KKt w base s) (he : EI X N d n z s.k) :
    Calls Tryz.prog 79 #[.pointer (some ⟨s.A 0, 0, none⟩), .int .i64 n] w fun e w' => ∃ k' j, e = .returned (.tuple #[]) ∧ Kn.IterN (Kn.VanN r) (z : Int) j s.k k' ∧ KKt w' base { s with k := k' } ∧ KF s w { s with k := k' } w' := by
  have SP := Hid.intro (kspace_any base s w (n : Int) h)
  have zi : Sp.inN s.k.sp (n : Int) = z := Sp.inN_of he.hn he.ho
  rw [zi] at SP
  have MM := Hid.intro (kmembers_any base s w (z : Int) h)
  obtain ⟨kb, hkb⟩ : ∃ kb, s.A 0 = kb := ⟨_, rfl⟩
  have HK := Hid.intro hkb
  have H := Hid.intro (And.intro h he)
  have HV := Hid.intro (And.intro hV (And.intro hr hz))
  rw [hkb] at SP MM ⊢
  clear h he hV hr hz zi
  go_enter Tryz.func79, Tryz.ntmps79
  go_wp2_with fail
  refine SP.out.mono ?_
  rintro e w1 ⟨rfl, hw⟩
  subst w1
  go_wp2_with fail
  refine MM.out.mono ?_
  rintro e w1 ⟨v1, rfl, hL⟩
  have S1 : Hid (EI X N d n z s.k ∧ KKt w1 base { s with k := s.k } ∧ KF s w { s with k := s.k } w1 ∧ LO w (membL s.k.sp (z : Int)) v1 w1 ∧ ∀ k' j, Kn.IterN (Kn.VanN r) (z : Int) j s.k k' → ∃ j', Kn.IterN (Kn.VanN r) (z : Int) j' s.k k') := Hid.intro ⟨H.out.2, H.out.1.below hL.bel, KF.below hL.bel, hL, fun k' j q => ⟨j, q⟩⟩
  clear hL SP MM
  go_wp2_with fail
  go_loopw [5] (fun v wr => ∃ (k : Kp) (w0 : World), Hid (EI X N d n z k ∧ KKt wr base { s with k := k } ∧ KF s w { s with k := k } wr ∧ LO w0 (membL k.sp (z : Int)) v wr ∧ ∀ k' j, Kn.IterN (Kn.VanN r) (z : Int) j k k' → ∃ j', Kn.IterN (Kn.VanN r) (z : Int) j' s.k k')) (fun v _ => slen v)
  case atStart => exact ⟨s.k, w, S1⟩
  case round =>
    clear S1
    obtain ⟨k, w0, S⟩ := hrel
    by_cases hl : 1 < (membL k.sp (z : Int)).length
    · obtain ⟨gg, cap, hv, hg, hc⟩ := S.out.2.2.2.1.cells (by omega)
      have HVV := Hid.intro hv
      obtain ⟨m, hm⟩ : ∃ m, (membL k.sp (z : Int))[1]? = some m := ⟨_, List.getElem?_eq_getElem hl⟩
      have c1 := hc 1 hl
      have cm : wr.cell? ⟨gg, 1, none⟩ = some (.int .i64 (m : Int)) := by
        rw [show 0 + 1 = 1 from rfl] at c1
        rw [c1]
        simp [List.getD_eq_getElem?_getD, hm]
      obtain ⟨m20, m0, mn, mx, mz, y, hy, hx⟩ := S.out.1.next hm
      have DD : Hid (Kn.hd k m = m → 6 ≤ d y + r ∧ ∀ x, x < 20 → X x → ¬ Sp.mem k.sp y x) := Hid.intro (fun c => ⟨by have := S.out.1.deeper m20 mn mz hy c; have := HV.out.2.2; omega, hx c⟩)
      have VC := Hid.intro (HV.out.1 X { s with k := k } wr m y S.out.2.1 S.out.1.vi m20 m0 mx hy DD.out HV.out.2.1)
      rw [show ({ s with k := k } : St).A 0 = kb from HK.out] at VC
      have HM := Hid.intro (And.intro hm (And.intro m20 mz))
      obtain ⟨LL, hLL⟩ : ∃ LL, (membL k.sp (z : Int)).length = LL := ⟨_, rfl⟩
      have HLL := Hid.intro hLL
      rw [hLL] at hv hl
      subst hv
      have hlI : (1 : Int) < (LL : Int) := by omega
      clear hc c1 hm hy hx mx mz hLL hg m0 mn
      go_wp2_with fail
      refine VC.out.mono ?_
      rintro e w2 ⟨k1, rfl, hvan, ka, kf⟩
      have ST := Hid.intro (S.out.1.step HM.out.1 (Kn.van_ok r) hvan)
      have S2 : Hid (KKt w2 base { s with k := k1 } ∧ KF s w { s with k := k1 } w2 ∧ Kn.VanN r k m k1) := Hid.intro ⟨ka, S.out.2.2.1.trans kf, hvan⟩
      clear ka kf hvan cm
      have MM := Hid.intro (kmembers_any base { s with k := k1 } w2 (z : Int) S2.out.1)
      rw [show ({ s with k := k1 } : St).A 0 = kb from HK.out] at MM
      go_wp2_with fail
      refine MM.out.mono ?_
      rintro e w3 ⟨v3, rfl, hL3⟩
      have S3 : Hid (EI X N d n z k1 ∧ KKt w3 base { s with k := k1 } ∧ KF s w { s with k := k1 } w3 ∧ LO w2 (membL k1.sp (z : Int)) v3 w3 ∧ ∀ k' j, Kn.IterN (Kn.VanN r) (z : Int) j k1 k' → ∃ j', Kn.IterN (Kn.VanN r) (z : Int) j' s.k k') := Hid.intro ⟨ST.out.1, S2.out.1.below hL3.bel, S2.out.2.1.trans (KF.below hL3.bel), hL3, fun k' j q => S.out.2.2.2.2 k' (j + 1) ⟨m, k1, HM.out.1, S2.out.2.2, q⟩⟩
      obtain ⟨a3, c3, hv3⟩ := own_form hL3.own
      have FW : Hid ((membL k1.sp (z : Int)).length < LL) := Hid.intro (by rw [← HLL.out]; exact S.out.1.fewer ST.out.1 ST.out.2.1 HM.out.2.1 HM.out.2.2 ST.out.2.2.2)
      obtain ⟨L3, hL3e⟩ : ∃ L3, (membL k1.sp (z : Int)).length = L3 := ⟨_, rfl⟩
      rw [hL3e] at hv3 FW
      subst hv3
      clear hL3 hL3e
      go_wp2_with fail
      go_roundw
      case rel => exact ⟨k1, w2, S3⟩
      case measure => exact FW.out
    · obtain ⟨a3, c3, hv3⟩ := own_form S.out.2.2.2.1.own
      have FIN : Hid (∃ j, Kn.IterN (Kn.VanN r) (z : Int) j s.k k) := Hid.intro (S.out.2.2.2.2 k 0 ⟨rfl, by omega⟩)
      obtain ⟨LL, hLL⟩ : ∃ LL, (membL k.sp (z : Int)).length = LL := ⟨_, rfl⟩
      rw [hLL] at hv3 hl
      have hlI : ¬ (1 : Int) < (LL : Int) := by omega
      have S2 : Hid (KKt wr base { s with k := k } ∧ KF s w { s with k := k } wr) := Hid.intro ⟨S.out.2.1, S.out.2.2.1⟩
      clear S hLL
      subst hv3
      go_wp2_with fail
      go_end0
      obtain ⟨j, hj⟩ := FIN.out
      exact ⟨rfl, k, ⟨j, hj⟩, S2.out⟩
end
end Go.Proofs.YtghogbngmcolmaaGreat

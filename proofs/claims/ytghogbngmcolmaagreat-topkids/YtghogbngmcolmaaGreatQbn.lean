import Derived.Test.YtghogbngmcolmaaGreatQbk
namespace Go.Proofs.YtghogbngmcolmaaGreat
open Go.RowKit
open Tr (Fo Nd)
open Mo (Wh Mt)
open Mv (Me Bk)
open Kn (Pr Kp St us KB KJ VI EI)
namespace Sp
theorem mem_memb {t : T} {z m : Nat} (h : mem t z m) : m ∈ memb t z := by
  obtain ⟨p, p21, pw⟩ := h
  unfold memb
  exact List.mem_map.2 ⟨p, List.mem_filter.2 ⟨by simpa using p21, by unfold memP; apply decide_eq_true; omega⟩, by omega⟩
theorem mem_membL {t : T} {z m : Nat} (hz : z < 6) (hh : t.here z = true) (h : mem t z m) : m ∈ membL t (z : Int) := by
  unfold membL
  rw [isE_nat hz hh, if_pos rfl, Int.toNat_natCast]
  exact mem_memb h
theorem membL_mem {t : T} {d : Nat → Nat} (hI : Inv t d) {z m : Nat} (hz : z < 6) (hh : t.here z = true) (h : m ∈ membL t (z : Int)) : m < 20 ∧ mem t z m := by
  unfold membL at h
  rw [isE_nat hz hh, if_pos rfl, Int.toNat_natCast] at h
  obtain ⟨i, hi⟩ := List.getElem?_of_mem h
  exact memb_of hi (fun p hp => hI.wle z p hz hp)
end Sp
namespace Kn
theorem lv1 {k : Kp} {n : Nat} : lv k n = true ↔ (k.p n).st = 1 := by unfold lv; simp
structure PI (k : Kp) (m q : Nat) : Prop where
  q20 : q < 20
  qm : q ≠ m
  pq : (k.p m).par = (q : Int)
  lq : lv k q = true
  oq : ∃ y, k.sp.of q = y + 1 ∧ Sp.mem k.sp y m ∧ (hd k m = m → k.sp.of m ≠ y + 1)
structure KH (N : Nat) (d : Nat → Nat) (k : Kp) : Prop where
  ki : KI N d k
  pp : ∀ m, m < 20 → m ≠ 0 → (k.p m).st ≠ 0 → ∃ q, PI k m q
  l0 : lv k 0 = true
  p0 : (k.p 0).par = -1
  ge : ∀ m z, m < 20 → (k.p m).st = 2 → hd k m = m → k.sp.of m = z + 1 → ∀ x, x < 20 → Sp.mem k.sp z x → x = m
section
variable {N : Nat} {d : Nat → Nat} {k k1 k2 k3 k' : Kp} {n z : Nat}
theorem KH.of (h : KH N d k) {m : Nat} (hm : m < 20) (s : (k.p m).st ≠ 0) : ∃ y, k.sp.of m = y + 1 := ⟨k.sp.of m - 1, by have := (h.ki.vi.kj.of m hm).2 s; omega⟩
theorem KH.like (h : KH N d k) (hi : KI N d k') (sp : k'.sp = k.sp) (hp : ∀ m, (k'.p m).st = (k.p m).st ∧ (k'.p m).par = (k.p m).par) : KH N d k' := by
  have e : ∀ m, hd k' m = hd k m := fun m => by unfold hd; rw [sp]
  have l : ∀ m, lv k' m = lv k m := fun m => by unfold lv; rw [(hp m).1]
  refine ⟨hi, fun m hm m0 s => ?_, by rw [l]; exact h.l0, by rw [(hp 0).2]; exact h.p0, fun m z hm s hd1 o x hx xm => ?_⟩
  · rw [(hp m).1] at s
    obtain ⟨q, a⟩ := h.pp m hm m0 s
    refine ⟨q, a.q20, a.qm, by rw [(hp m).2]; exact a.pq, by rw [l]; exact a.lq, ?_⟩
    rw [sp, e]; exact a.oq
  · rw [(hp m).1] at s
    rw [e] at hd1
    rw [sp] at o xm
    exact h.ge m z hm s hd1 o x hx xm
structure MQ (k : Kp) (n z : Nat) (k3 : Kp) : Prop where
  ot : ∀ q, q < 20 → q ≠ n → (k3.p q = k.p q ∧ k3.sp.of q = k.sp.of q) ∨ (k3.p q = Pr.no ∧ k3.sp.of q = 0 ∧ Sp.mem k.sp z q ∧ hd k n = n)
  wh : ∀ s p, s < 6 → p < 21 → k3.sp.who s p = k.sp.who s p ∨ k3.sp.who s p = 0
  wk : ∀ s p m, s < 6 → p < 21 → m < 20 → k.sp.who s p = m + 1 → k3.sp.of m ≠ 0 → k3.sp.who s p = m + 1
  al : hd k n = n → ∀ x, x < 20 → Sp.mem k3.sp z x → x = n
  sa : hd k n ≠ n → k3.sp = k.sp
theorem VI.mq (hv : VI (fun _ => False) N d k) (hn : n < 20) (n0 : n ≠ 0) (l : lv k n = true) (ho : k.sp.of n = z + 1) {c : Int} (s1 : StrTo k n k1) (mt : MidTo 6 (goneK k1 n c) n z k3) : MQ k n z k3 := by
  obtain ⟨a, sp, tb, hh, s0, oth⟩ := hv.first hn (fun x => x) ho (fun _ => s1) (fun x => by rw [l] at x; cases x)
  have oth2 : ∀ q, q ≠ n → (goneK k1 n c).p q = k.p q := fun q e => (put_ne _ _ _ _ e).trans (oth q e)
  have hd2 : ∀ q, hd (goneK k1 n c) q = hd k q := fun q => by
    show hd k1 q = hd k q
    unfold hd; rw [sp]
  have gs : (goneK k1 n c).sp = k.sp := sp
  rcases mt with ⟨c1, rfl⟩ | ⟨ih, j, it⟩
  · rw [hd2 n] at c1
    exact ⟨fun q _ e => .inl ⟨oth2 q e, by rw [gs]⟩, fun _ _ _ _ => .inl (by rw [gs]), fun _ _ _ _ _ _ e _ => by rw [gs]; exact e, fun e => absurd e c1, fun _ => gs⟩
  · rw [hd2 n] at ih
    have ei : EI (fun m => False ∨ m = n) N d n z k1 := hv.ei hn n0 (fun x => x) ho ih (fun _ _ x => absurd x (fun x => x)) (fun _ => s1) (fun x => by rw [l] at x; cases x)
    obtain ⟨b, g, e, len⟩ := EI.iter (van_ok 6) j _ (ei.gone s0 hh c) it
    refine ⟨fun q hq e => ?_, fun s p hs hp => by have := g.wh s p hs hp; rw [gs] at this; exact this, fun s p m hs hp hm => by have := g.wk s p m hs hp hm; rw [gs] at this; exact this, fun _ x hx xm => ?_, fun e => absurd ih e⟩
    · rcases g.kp q hq with w | w
      · rw [oth2 q e, gs] at w; exact .inl w
      · rw [gs] at w; exact .inr ⟨w.1, w.2.1, w.2.2, ih⟩
    · obtain ⟨p, p21, pw⟩ := xm
      rw [b.memb] at len
      have p1 := Sp.memb_one b.hw len p p21 (by omega)
      subst p1
      have := b.hw
      omega
theorem MQ.head (g : MQ k n z k3) {d' : Nat → Nat} (h : VI (fun _ => False) N d k) {X : Nat → Prop} (h3 : VI X N d' k3) {m : Nat} (hm : m < 20) (o : k3.sp.of m = k.sp.of m) (o0 : k.sp.of m ≠ 0) : hd k3 m = m ↔ hd k m = m := by
  obtain ⟨y, hy⟩ : ∃ y, k.sp.of m = y + 1 := ⟨k.sp.of m - 1, by omega⟩
  have y6 := (h.iv.mem_self hm hy).2.1
  rw [hd_eq h.iv h.hs hm hy, hd_eq h3.iv h3.hs hm (by rw [o]; exact hy)]
  constructor
  · intro e
    rcases g.wh y 1 y6 (by omega) with w | w
    · rw [← w]; exact e
    · rw [w] at e; omega
  · intro e
    exact g.wk y 1 m y6 (by omega) hm e (by rw [o]; exact o0)
theorem MQ.mem (g : MQ k n z k3) {s m : Nat} (hs : s < 6) (hm : m < 20) (e : Sp.mem k.sp s m) (o : k3.sp.of m ≠ 0) : Sp.mem k3.sp s m := by
  obtain ⟨p, p21, pw⟩ := e
  exact ⟨p, p21, g.wk s p m hs p21 hm pw o⟩
theorem MQ.back (g : MQ k n z k3) {s m : Nat} (hs : s < 6) (e : Sp.mem k3.sp s m) : Sp.mem k.sp s m := by
  obtain ⟨p, p21, pw⟩ := e
  rcases g.wh s p hs p21 with c | c
  · exact ⟨p, p21, by rw [← c]; exact pw⟩
  · rw [c] at pw; omega
theorem KH.end (h : KH N d k) (hn : n < 20) (n0 : n ≠ 0) (l : lv k n = true) (ho : k.sp.of n = z + 1) {q : Nat} (hq : (k.p n).par = (q : Int)) {c : Int} (et : EndTo k n c z q k') : KH N d k' := by
  obtain ⟨k1, k3, s1, mt, rfl⟩ := et
  have hv := h.ki.vi
  have md := hv.end_mid hn n0 l ho s1 mt
  have mq := hv.mq hn n0 l ho s1 mt
  have z6 := (hv.iv.mem_self hn ho).2
  obtain ⟨q', pn⟩ := h.pp n hn n0 (by rw [lv1.1 l]; omega)
  obtain rfl : q = q' := by have := pn.pq; omega
  have q20 := pn.q20
  have qn := pn.qm
  have vi3 : VI (fun _ => False) N d k3 := ⟨⟨md.vi.kj.sp, md.vi.kj.gr, md.vi.kj.si, md.vi.kj.sy, md.vi.kj.nw, md.vi.kj.me, md.vi.kj.wx, md.vi.kj.rf, md.vi.kj.ok, md.vi.kj.tb, md.vi.kj.st, md.vi.kj.hs, fun m hm _ s => md.vi.kj.lv m hm (fun x => x.elim id (fun e => by subst e; rw [md.pn.1] at s; omega)) s, md.vi.kj.of, md.vi.kj.ht, md.vi.kj.nm⟩, md.vi.iv, md.vi.hs⟩
  have left : ∀ m, m < 20 → (k3.p m).st ≠ 0 → m ≠ n → k3.p m = k.p m ∧ k3.sp.of m = k.sp.of m ∧ k.sp.of m ≠ 0 := fun m hm s mn => by
    rcases mq.ot m hm mn with ⟨a, b⟩ | ⟨a, _⟩
    · exact ⟨a, b, (hv.kj.of m hm).2 (by rw [← a]; exact s)⟩
    · rw [a] at s; exact absurd rfl s
  have outs : ∀ m, m < 20 → (k3.p m).st ≠ 0 → m ≠ n → hd k n = n → ¬ Sp.mem k.sp z m := fun m hm s mn e c1 => by
    have := left m hm s mn
    exact mn (mq.al e m hm (mq.mem z6.1 hm c1 (by rw [this.2.1]; exact this.2.2)))
  have stay : ∀ m x, m < 20 → (k3.p m).st ≠ 0 → PI k m x → x ≠ n → k3.p x = k.p x ∧ k3.sp.of x = k.sp.of x := fun m x hm s a xn => by
    rcases mq.ot x a.q20 xn with b | ⟨_, _, b, e⟩
    · exact b
    · exfalso
      obtain ⟨y, oy, my, hy⟩ := a.oq
      by_cases mn : m = n
      · subst mn
        exact hv.iv.not_below hn a.q20 ho oy b (fun e2 => hy e (by rw [ho, e2])) my
      · exact outs m hm s mn e (hv.iv.mem_up z6.1 a.q20 hm oy b my)
  have hdn : ∀ m, m < 20 → (k3.p m).st ≠ 0 → (hd k3 m = m ↔ hd k m = m) := fun m hm s => by
    by_cases mn : m = n
    · subst mn
      exact mq.head hv vi3 hm (by rw [md.ho, ho]) (by omega)
    · have := left m hm s mn
      exact mq.head hv vi3 hm this.2.1 this.2.2
  have pi3 : ∀ m x, m < 20 → (k3.p m).st ≠ 0 → PI k m x → x ≠ n → (k3.p m).par = (x : Int) → PI k3 m x := fun m x hm s a xn pe => by
    have b := stay m x hm s a xn
    obtain ⟨y, oy, my, hy⟩ := a.oq
    have om : k3.sp.of m = k.sp.of m ∧ k.sp.of m ≠ 0 := by
      by_cases mn : m = n
      · subst mn; rw [md.ho, ho]; exact ⟨rfl, by omega⟩
      · exact (left m hm s mn).2
    refine ⟨a.q20, a.qm, pe, lv1.2 (by rw [b.1]; exact lv1.1 a.lq), y, by rw [b.2]; exact oy, mq.mem (hv.iv.mem_self a.q20 oy).2.1 hm my (by rw [om.1]; exact om.2), fun e => ?_⟩
    rw [om.1]; exact hy ((hdn m hm s).1 e)
  have ini : Sp.inN k3.sp (n : Int) = z := Sp.inN_of hn md.ho
  have z63 := (vi3.iv.mem_self hn md.ho).2
  have inC : ∀ m, m ∈ chL k3 n → m < 20 ∧ Sp.mem k3.sp z m ∧ (k3.p m).par = (n : Int) := fun m hm => by
    have a := hm
    unfold chL chK at a
    rw [ini] at a
    have b := Sp.membL_mem vi3.iv z63.1 z63.2 (List.mem_filter.1 a).1
    exact ⟨b.1, b.2, chL_par m hm⟩
  obtain ⟨hh, h20, hw, hof⟩ := vi3.hs.hd z z63.1 z63.2
  have fh : Sp.findN k3.sp (z : Int) 1 = hh := Sp.find1 z63.1 z63.2 hw
  rw [fh]
  have pp4 : ∀ m, m < 20 → m ≠ 0 → (k3.p m).st ≠ 0 → ∃ x, PI (adK k3 (chL k3 n) (hh : Nat)) m x := fun m hm m0 s => by
    have sk : (k.p m).st ≠ 0 := by
      by_cases mn : m = n
      · subst mn; rw [lv1.1 l]; omega
      · rw [← (left m hm s mn).1]; exact s
    obtain ⟨x, a⟩ := h.pp m hm m0 sk
    have p3 : (k3.p m).par = (x : Int) := by
      by_cases mn : m = n
      · subst mn; rw [md.pn.2.2.1]; exact a.pq
      · rw [(left m hm s mn).1]; exact a.pq
    by_cases xn : x = n
    · subst xn
      have mn : m ≠ x := fun e => a.qm e.symm
      have lm := left m hm s mn
      obtain ⟨y, oy, my, hy⟩ := a.oq
      obtain rfl : y = z := by omega
      have nh : hd k x ≠ x := fun e => outs m hm s mn e my
      have mm : Sp.mem k3.sp y m := mq.mem z6.1 hm my (by rw [lm.2.1]; exact lm.2.2)
      have mC : m ∈ chL k3 x := by
        unfold chL chK
        rw [ini]
        exact List.mem_filter.2 ⟨Sp.mem_membL z63.1 z63.2 mm, decide_eq_true p3⟩
      have hx : hh ≠ x := fun e => by
        subst e
        exact nh ((hdn hh hn (by rw [md.pn.1]; omega)).1 ((hd_eq vi3.iv vi3.hs h20 hof).2 hw))
      have sh : (k3.p hh).st ≠ 0 := (vi3.kj.of hh h20).1 (by omega)
      have lh := left hh h20 sh hx
      have hhd : hd k3 hh = hh := (hd_eq vi3.iv vi3.hs h20 hof).2 hw
      have lvh : lv k3 hh = true := lv1.2 (by
        have le := vi3.kj.st hh h20
        by_cases e2 : (k3.p hh).st = 2
        · exfalso
          have oh : k.sp.of hh = y + 1 := by rw [← lh.2.1]; exact hof
          exact hx (h.ge hh y h20 (by rw [← lh.1]; exact e2) ((hdn hh h20 sh).1 hhd) oh x hn (hv.iv.mem_self hn ho).1).symm
        · omega)
      refine ⟨hh, h20, fun e => ?_, ?_, lvh, y, hof, mm, fun e => ?_⟩
      · subst e
        exact hy ((hdn hh hm s).1 hhd) (by rw [← lm.2.1]; exact hof)
      · show (if m ∈ chL k3 x then ((hh : Nat) : Int) else _) = _
        rw [if_pos mC]
      · show k3.sp.of m ≠ y + 1
        rw [lm.2.1]; exact hy ((hdn m hm s).1 e)
    · have b := pi3 m x hm s a xn p3
      refine ⟨x, b.q20, b.qm, ?_, b.lq, b.oq⟩
      show (if m ∈ chL k3 n then _ else (k3.p m).par) = _
      rw [if_neg (fun e => xn (by have := (inC m e).2.2; omega))]
      exact p3
  have ki4 : KI N d (adK k3 (chL k3 n) (hh : Nat)) := by
    refine ⟨⟨vi3.kj.ad _ _, vi3.iv, vi3.hs⟩, fun m hm lm hd1 => ?_, fun m hm m0 s => ?_, vi3.h0⟩
    · have t1 : (k3.p m).st = 1 := lv1.1 lm
      have mn : m ≠ n := fun e => by subst e; rw [md.pn.1] at t1; omega
      have lm2 := left m hm (by omega) mn
      show Sg.FirTo (k3.p m).box 0 0
      rw [lm2.1]
      refine h.ki.fi m hm (lv1.2 (by rw [← lm2.1]; exact t1)) (fun e => hd1 ((hdn m hm (by omega)).2 e))
    · obtain ⟨x, a⟩ := pp4 m hm m0 s
      exact ⟨x, a.q20, a.qm, a.pq⟩
  have kh4 : KH N d (adK k3 (chL k3 n) (hh : Nat)) := by
    have e0 : k3.p 0 = k.p 0 := by
      rcases mq.ot 0 (by omega) (Ne.symm n0) with ⟨a, _⟩ | ⟨_, _, b, e⟩
      · exact a
      · exact absurd b (hv.iv.zero hv.hs z6.1 ((hd_eq hv.iv hv.hs hn ho).1 e) n0)
    refine ⟨ki4, pp4, lv1.2 ?_, ?_, fun m y hm s hd1 o x hx xm => ?_⟩
    · show (k3.p 0).st = 1
      rw [e0]; exact lv1.1 h.l0
    · show (if 0 ∈ chL k3 n then _ else (k3.p 0).par) = -1
      rw [if_neg (fun c => by have := (inC 0 c).2.2; rw [e0, h.p0] at this; omega), e0]; exact h.p0
    · have s2 : (k3.p m).st = 2 := s
      have o2 : k3.sp.of m = y + 1 := o
      have y6 := (vi3.iv.mem_self hm o2).2.1
      by_cases mn : m = n
      · subst mn
        obtain rfl : y = z := by have := md.ho; omega
        exact mq.al ((hdn m hm (by omega)).1 hd1) x hx xm
      · have lm2 := left m hm (by omega) mn
        exact h.ge m y hm (by rw [← lm2.1]; exact s2) ((hdn m hm (by omega)).1 hd1) (by rw [← lm2.2.1]; exact o2) x hx (mq.back y6 xm)
  unfold kidK
  split
  · refine kh4.like (kh4.ki.box q (fun _ lq hq1 => ?_)) rfl (fun m => ?_)
    · exact Sg.kid_none (kh4.ki.fi q q20 lq hq1)
    · unfold senK
      by_cases e : m = q
      · subst e; rw [put_same]; exact ⟨rfl, rfl⟩
      · rw [put_ne _ _ _ _ e]; exact ⟨rfl, rfl⟩
  · exact kh4
theorem KH.van (h : KH N d k) (hn : n < 20) (n0 : n ≠ 0) (g2 : (k.p n).st = 2) (ho : k.sp.of n = z + 1) (v : VanN 6 k n k') : KH N d k' ∧ k'.p n = Pr.no ∧ k'.sp.of n = 0 ∧ (∀ x, x < 20 → x ≠ n → k'.p x = k.p x ∧ k'.sp.of x = k.sp.of x) ∧ (∀ s p, s < 6 → p < 21 → k'.sp.who s p = if k.sp.who s p = n + 1 then 0 else k.sp.who s p) := by
  have hv := h.ki.vi
  have z6 := (hv.iv.mem_self hn ho).2
  obtain ⟨v', g, e, ot⟩ := van_ok 6 (fun _ => False) k n k' z hv hn n0 (fun x => x) ho (fun _ _ _ x => x.elim) v
  have o0 : k'.sp.of n = 0 := by
    by_cases c : k'.sp.of n = 0
    · exact c
    · have := (v'.kj.of n hn).1 c; rw [e] at this; exact absurd rfl this
  have oth : ∀ x, x < 20 → x ≠ n → k'.p x = k.p x ∧ k'.sp.of x = k.sp.of x := fun x hx xn => by
    by_cases c : hd k n = n
    · rcases g.kp x hx with w | w
      · exact w
      · exact absurd (h.ge n z hn g2 c ho x hx w.2.2) xn
    · exact ot c x hx xn
  have whs : ∀ s p, s < 6 → p < 21 → k'.sp.who s p = if k.sp.who s p = n + 1 then 0 else k.sp.who s p := fun s p hs hp => by
    by_cases c : k.sp.who s p = n + 1
    · rw [if_pos c]
      rcases g.wh s p hs hp with w | w
      · have := (v'.iv.has s n hs hn).1 ⟨p, hp, by rw [w]; exact c⟩
        exact absurd o0 this.1
      · exact w
    · rw [if_neg c]
      by_cases c0 : k.sp.who s p = 0
      · rcases g.wh s p hs hp with w | w
        · exact w
        · rw [w, c0]
      · have le := hv.iv.wle s p hs hp
        have x20 : k.sp.who s p - 1 < 20 := by omega
        have xn : k.sp.who s p - 1 ≠ n := by omega
        have hx := (hv.iv.has s (k.sp.who s p - 1) hs x20).1 ⟨p, hp, by omega⟩
        have := g.wk s p (k.sp.who s p - 1) hs hp x20 (by omega) (by rw [(oth _ x20 xn).2]; exact hx.1)
        omega
  have hdn : ∀ m, m < 20 → m ≠ n → k.sp.of m ≠ 0 → (hd k' m = m ↔ hd k m = m) := fun m hm mn om => by
    obtain ⟨y, hy⟩ : ∃ y, k.sp.of m = y + 1 := ⟨k.sp.of m - 1, by omega⟩
    have y6 := (hv.iv.mem_self hm hy).2.1
    rw [hd_eq hv.iv hv.hs hm hy, hd_eq v'.iv v'.hs hm (by rw [(oth m hm mn).2]; exact hy), whs y 1 y6 (by omega)]
    by_cases c : k.sp.who y 1 = n + 1
    · rw [if_pos c]; omega
    · rw [if_neg c]
  have mem' : ∀ s m, s < 6 → m < 20 → m ≠ n → (Sp.mem k'.sp s m ↔ Sp.mem k.sp s m) := fun s m hs hm mn => by
    constructor
    · rintro ⟨p, p21, pw⟩
      rw [whs s p hs p21] at pw
      by_cases c : k.sp.who s p = n + 1
      · rw [if_pos c] at pw; omega
      · rw [if_neg c] at pw; exact ⟨p, p21, pw⟩
    · rintro ⟨p, p21, pw⟩
      exact ⟨p, p21, by rw [whs s p hs p21, if_neg (by omega)]; exact pw⟩
  have st0 : ∀ m, m < 20 → (k'.p m).st ≠ 0 → m ≠ n := fun m _ s c => by subst c; rw [e] at s; exact s rfl
  have pp : ∀ m, m < 20 → m ≠ 0 → (k'.p m).st ≠ 0 → ∃ q, PI k' m q := fun m hm m0 s => by
    have mn := st0 m hm s
    rw [(oth m hm mn).1] at s
    obtain ⟨q, a⟩ := h.pp m hm m0 s
    have qn : q ≠ n := fun c => by subst c; have := lv1.1 a.lq; omega
    have oq := oth q a.q20 qn
    obtain ⟨y, oy, my, hy⟩ := a.oq
    refine ⟨q, a.q20, a.qm, by rw [(oth m hm mn).1]; exact a.pq, lv1.2 (by rw [oq.1]; exact lv1.1 a.lq), y, by rw [oq.2]; exact oy, (mem' y m (hv.iv.mem_self a.q20 oy).2.1 hm mn).2 my, fun c => ?_⟩
    rw [(oth m hm mn).2]
    exact hy ((hdn m hm mn ((hv.kj.of m hm).2 s)).1 c)
  refine ⟨⟨⟨v', fun m hm lm hd1 => ?_, fun m hm m0 s => ?_, v'.h0⟩, pp, ?_, ?_, fun m y hm s hd1 o x hx xm => ?_⟩, e, o0, oth, whs⟩
  · have mn := st0 m hm (by rw [lv1.1 lm]; omega)
    have om := oth m hm mn
    rw [om.1]
    have lk : lv k m = true := lv1.2 (by rw [← om.1]; exact lv1.1 lm)
    exact h.ki.fi m hm lk (fun c => hd1 ((hdn m hm mn ((hv.kj.of m hm).2 (by rw [lv1.1 lk]; omega))).2 c))
  · obtain ⟨q, a⟩ := pp m hm m0 s
    exact ⟨q, a.q20, a.qm, a.pq⟩
  · exact lv1.2 (by rw [(oth 0 (by omega) (Ne.symm n0)).1]; exact lv1.1 h.l0)
  · rw [(oth 0 (by omega) (Ne.symm n0)).1]; exact h.p0
  · have mn := st0 m hm (by omega)
    have om := oth m hm mn
    have xn : x ≠ n := fun c => by
      subst c
      have := (v'.iv.has y x (v'.iv.mem_self hm o).2.1 hx).1 xm
      exact this.1 o0
    rw [om.1] at s
    rw [om.2] at o
    exact h.ge m y hm s ((hdn m hm mn (by omega)).1 hd1) o x hx ((mem' y x (hv.iv.mem_self hm o).2.1 hx xn).1 xm)
end
end Kn
end Go.Proofs.YtghogbngmcolmaaGreat
namespace Go.Proofs.YtghogbngmcolmaaGreat
open Go.RowKit
open Tr (Fo Nd)
open Mo (Wh Mt)
open Mv (Me Bk)
open Kn (Pr Kp St us KB KJ VI EI)
namespace Kn
section
variable {N : Nat} {d : Nat → Nat} {k k2 : Kp} {n c z : Nat}
theorem chi_none (X : Nat → Sg.S1) : Sg.FirTo (Sg.chiF X) 0 0 := .inl ⟨rfl, fun j _ _ => by unfold Sg.ok Sg.chiF; simp⟩
theorem KH.gr (h : KH N d k) {t : Nat → Gr.Gp} {M : Nat} (hM : N ≤ M) (g : ∃ Wy, Gr.Tree t Wy M) : KH M d { k with gr := t } := by
  have kj : KJ (fun _ => False) M { k with gr := t } := (h.ki.vi.kj.mono (fun _ _ e => e) hM).setGr g
  exact ⟨⟨⟨kj, h.ki.vi.iv, h.ki.vi.hs⟩, h.ki.fi, h.ki.pr, h.ki.h0⟩, fun m hm m0 s => by
    obtain ⟨q, a⟩ := h.pp m hm m0 s
    exact ⟨q, a.q20, a.qm, a.pq, a.lq, a.oq⟩, h.l0, h.p0, h.ge⟩
theorem KH.born (h : KH N d k) {d2 : Nat → Nat} (kj : KJ (fun _ => False) N k2) (iv : Sp.Inv k2.sp d2) (ep : k2.p = k.p) (eo : k2.sp.of = k.sp.of) (ew : k2.sp.who = k.sp.who) (hn : n < 20) (l : lv k n = true) (hc : c < 20) (c0 : (k.p c).st = 0) (z6 : z < 6) (zh : k2.sp.here z = true)
    {y : Nat} (oy : k.sp.of n = y + 1) (hz : (z = y ∧ ∀ s, s < 6 → k2.sp.here s = true → k.sp.here s = true) ∨ (z ≠ y ∧ k2.sp.par z = (y : Int) ∧ k.sp.here z = false ∧ ∀ s, s < 6 → k2.sp.here s = true → s = z ∨ k.sp.here s = true)) {m' : Fa.Fr.M} (wk : Fa.Fr.WakeTo (Fa.Fr.addTaskM k2.sc (c : Int) (k2.p n).grp 100) (c : Int) true m') : KH (N + 1) d2 (staK (copK k2 n) c (chP k2 n) (z : Int) m') := by
  have hv := h.ki.vi
  have l2 : lv k2 n = true := by unfold lv; rw [ep]; exact l
  have n1 : (k.p n).st = 1 := lv1.1 l
  have nc : n ≠ c := fun e => by subst e; omega
  have hh2 : (k2.p n).has = true := by rw [ep]; exact hv.kj.lv n hn (fun x => x) n1
  have kj2 := kj.sta (n := n) (c := c) (z := z) (fun x => x) hn hc l2 hh2 (by rw [ep]; exact c0) z6 zh wk
  have o0 : k2.sp.of c = 0 := by
    by_cases e : k2.sp.of c = 0
    · exact e
    · exact absurd (by rw [ep]; exact c0) ((kj.of c hc).1 e)
  have o0k : k.sp.of c = 0 := by rw [← eo]; exact o0
  obtain ⟨T, eT⟩ := shaK_same { k2 with bk := Mv.foK (k2.p n).mem k2.bk 16 } (k2.p n).fd 6
  have cop : copK k2 n = { k2 with bk := Mv.foK (k2.p n).mem k2.bk 16, fi := T } := eT
  have esp : (staK (copK k2 n) c (chP k2 n) (z : Int) m').sp = Sp.entT k2.sp (z : Int) (c : Int) := by rw [cop]; rfl
  have e1 : ∀ m, m ≠ c → (staK (copK k2 n) c (chP k2 n) (z : Int) m').p m = k.p m := fun m q => by rw [cop]; exact (put_ne _ _ _ _ q).trans (by show k2.p m = k.p m; rw [ep])
  have e2 : (staK (copK k2 n) c (chP k2 n) (z : Int) m').p c = chP k2 n := put_same _ _ _
  have iv' : Sp.Inv (staK (copK k2 n) c (chP k2 n) (z : Int) m').sp d2 := by rw [esp]; exact iv.enter _ _
  have hs' : Sp.HDs (staK (copK k2 n) c (chP k2 n) (z : Int) m').sp := by
    rw [esp]
    refine Sp.HDs.enter iv z6 zh hc o0 (fun s s6 sh => ?_) (by rw [eo, ew]; exact hv.hs.r0)
    rw [eo, ew]
    rcases hz with ⟨_, q⟩ | ⟨_, _, q, r⟩
    · exact .inl (hv.hs.hd s s6 (q s s6 sh))
    · rcases r s s6 sh with e | e
      · subst e
        exact .inr ⟨rfl, fun p hp => hv.iv.dead s6 hp q⟩
      · exact .inl (hv.hs.hd s s6 e)
  have vi' : VI (fun _ => False) (N + 1) d2 (staK (copK k2 n) c (chP k2 n) (z : Int) m') := ⟨kj2, iv', hs'⟩
  generalize hk' : staK (copK k2 n) c (chP k2 n) (z : Int) m' = k' at *
  have of' : ∀ m, k'.sp.of m = if m = c then z + 1 else k.sp.of m := fun m => by rw [esp, Sp.ent_of z6 zh hc o0, eo]
  have keep : ∀ s p, s < 6 → k.sp.who s p ≠ 0 → k'.sp.who s p = k.sp.who s p := fun s p hs hw => by rw [esp, Sp.ent_keep iv z6 zh hc o0 hs (by rw [ew]; exact hw), ew]
  have memk : ∀ s m, s < 6 → Sp.mem k.sp s m → Sp.mem k'.sp s m := fun s m hs ⟨p, p21, pw⟩ => ⟨p, p21, by rw [keep s p hs (by omega)]; exact pw⟩
  have memb : ∀ s m, s < 6 → m ≠ c → Sp.mem k'.sp s m → Sp.mem k.sp s m := fun s m hs mc ⟨p, p21, pw⟩ => by
    rw [esp, Sp.ent_who z6 zh hc o0] at pw
    by_cases q : s ∈ Sp.W k2.sp (z : Int) ∧ p = Sp.low k2.sp s
    · rw [if_pos q] at pw; omega
    · rw [if_neg q, ew] at pw; exact ⟨p, p21, pw⟩
  have hdn : ∀ m, m < 20 → m ≠ c → k.sp.of m ≠ 0 → (hd k' m = m ↔ hd k m = m) := fun m hm mc om => by
    obtain ⟨x, hx⟩ : ∃ x, k.sp.of m = x + 1 := ⟨k.sp.of m - 1, by omega⟩
    have x6 := (hv.iv.mem_self hm hx).2
    obtain ⟨hh, h20, hw, hof⟩ := hv.hs.hd x x6.1 x6.2
    rw [hd_eq hv.iv hv.hs hm hx, hd_eq vi'.iv vi'.hs hm (by rw [of', if_neg mc]; exact hx), keep x 1 x6.1 (by omega)]
  have y6 := (hv.iv.mem_self hn oy).2
  have piC : PI k' c n := by
    refine ⟨hn, nc, by rw [e2]; rfl, lv1.2 (by rw [e1 n nc]; exact n1), y, by rw [of', if_neg nc]; exact oy, ?_, fun e => ?_⟩
    · refine (vi'.iv.has y c y6.1 hc).2 ⟨by rw [of', if_pos rfl]; omega, ?_⟩
      rw [of', if_pos rfl, show z + 1 - 1 = z by omega]
      have wz : Sp.W k'.sp (z : Int) = z :: Sp.W k'.sp (k'.sp.par z) := vi'.iv.tree.step z6 (by rw [esp, (Sp.ent_here z6 zh hc o0).1]; exact zh)
      rw [wz]
      rcases hz with ⟨e, _⟩ | ⟨_, e, _, _⟩
      · rw [e]; simp
      · have pe : k'.sp.par z = (y : Int) := by rw [esp, (Sp.ent_here z6 zh hc o0).2]; exact e
        rw [pe]
        have yh : k'.sp.here y = true := by
          have := (vi'.iv.mem_self hn (z := y) (by rw [of', if_neg nc]; exact oy)).2.2
          exact this
        rw [vi'.iv.tree.step y6.1 yh]
        simp
    · rw [of', if_pos rfl]
      intro q
      obtain rfl : z = y := by omega
      have wc := (hd_eq vi'.iv vi'.hs hc (z := z) (by rw [of', if_pos rfl])).1 e
      obtain ⟨hh, h20, hw, hof⟩ := hv.hs.hd z y6.1 y6.2
      rw [keep z 1 z6 (by omega), hw] at wc
      have : hh = c := by omega
      subst this
      omega
  have ppo : ∀ m, m < 20 → m ≠ 0 → (k'.p m).st ≠ 0 → ∃ q, PI k' m q := fun m hm m0 s => by
    by_cases mc : m = c
    · subst mc; exact ⟨n, piC⟩
    · rw [e1 m mc] at s
      obtain ⟨q, a⟩ := h.pp m hm m0 s
      have qc : q ≠ c := fun e => by subst e; have := lv1.1 a.lq; omega
      obtain ⟨x, ox, mx, hx⟩ := a.oq
      refine ⟨q, a.q20, a.qm, by rw [e1 m mc]; exact a.pq, lv1.2 (by rw [e1 q qc]; exact lv1.1 a.lq), x, by rw [of', if_neg qc]; exact ox, memk x m (hv.iv.mem_self a.q20 ox).2.1 mx, fun e => ?_⟩
      rw [of', if_neg mc]
      exact hx ((hdn m hm mc ((hv.kj.of m hm).2 s)).1 e)
  have c0' : (0 : Nat) ≠ c := fun e => by subst e; have := lv1.1 h.l0; omega
  refine ⟨⟨vi', fun m hm lm hd1 => ?_, fun m hm m0 s => ?_, vi'.h0⟩, ppo, lv1.2 (by rw [e1 0 c0']; exact lv1.1 h.l0), by rw [e1 0 c0']; exact h.p0, fun m x hm s hd1 o u hu um => ?_⟩
  · by_cases mc : m = c
    · subst mc; rw [e2]; exact chi_none _
    · rw [e1 m mc]
      have lk : lv k m = true := lv1.2 (by rw [← e1 m mc]; exact lv1.1 lm)
      exact h.ki.fi m hm lk (fun e => hd1 ((hdn m hm mc ((hv.kj.of m hm).2 (by rw [lv1.1 lk]; omega))).2 e))
  · obtain ⟨q, a⟩ := ppo m hm m0 s
    exact ⟨q, a.q20, a.qm, a.pq⟩
  · have mc : m ≠ c := fun e => by
      subst e; rw [e2] at s
      have : (k2.p n).st = 2 := s
      rw [ep] at this; omega
    rw [e1 m mc] at s
    rw [of', if_neg mc] at o
    have x6 := (hv.iv.mem_self hm o).2
    have hdm := (hdn m hm mc (by omega)).1 hd1
    by_cases uc : u = c
    · exfalso
      subst uc
      have a := (vi'.iv.mem_of x6.1 hu um).2
      rw [of', if_pos rfl, show z + 1 - 1 = z by omega] at a
      have yx : Sp.mem k.sp x n := by
        refine memb x n x6.1 nc ((vi'.iv.has x n x6.1 hn).2 ⟨by rw [of', if_neg nc]; omega, ?_⟩)
        rw [of', if_neg nc, oy, show y + 1 - 1 = y by omega]
        rcases hz with ⟨e, _⟩ | ⟨ne, e, hf, _⟩
        · rw [← e]; exact a
        · rw [vi'.iv.tree.step z6 (by rw [esp, (Sp.ent_here z6 zh hc o0).1]; exact zh)] at a
          rcases List.mem_cons.1 a with e3 | a
          · subst e3; rw [x6.2] at hf; cases hf
          · rw [esp, (Sp.ent_here z6 zh hc o0).2, e] at a
            rw [esp]; exact a
      have := h.ge m x hm s hdm o n hn yx
      subst this
      omega
    · exact h.ge m x hm s hdm o u hu (memb x u x6.1 uc um)
end
end Kn
end Go.Proofs.YtghogbngmcolmaaGreat

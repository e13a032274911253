import Derived.Test.YtghogbngmcolmaaGreatSbf
import Derived.Test.YtghogbngmcolmaaGreatSbg
namespace Go.Proofs.YtghogbngmcolmaaGreat
open Go.RowKit
open Tr (Fo Nd)
open Mo (Wh Mt)
open Mv (Me Bk)
open Kn (Pr Kp St us KB KJ VI EI)
namespace Sp
theorem mem_memb {t : T} {z m : Nat} (h : mem t z m) : m ∈ memb t z := by
  obtain ⟨p, p21, pw⟩ := h
  unfold memb
  exact List.mem_map.2 ⟨p, List.mem_filter.2 ⟨by simpa using p21, by unfold memP; apply decide_eq_true; omega⟩, by omega⟩
theorem mem_membL {t : T} {z m : Nat} (hz : z < 6) (hh : t.here z = true) (h : mem t z m) : m ∈ membL t (z : Int) := by
  unfold membL
  rw [isE_nat hz hh, if_pos rfl, Int.toNat_natCast]
  exact mem_memb h
theorem membL_mem {t : T} {d : Nat → Nat} (hI : Inv t d) {z m : Nat} (hz : z < 6) (hh : t.here z = true) (h : m ∈ membL t (z : Int)) : m < 20 ∧ mem t z m := by
  unfold membL at h
  rw [isE_nat hz hh, if_pos rfl, Int.toNat_natCast] at h
  obtain ⟨i, hi⟩ := List.getElem?_of_mem h
  exact memb_of hi (fun p hp => hI.wle z p hz hp)
end Sp
namespace Kn
theorem lv1 {k : Kp} {n : Nat} : lv k n = true ↔ (k.p n).st = 1 := by unfold lv; simp
structure PI (k : Kp) (m q : Nat) : Prop where
  q20 : q < 20
  qm : q ≠ m
  pq : (k.p m).par = (q : Int)
  lq : lv k q = true
  oq : ∃ y, k.sp.of q = y + 1 ∧ Sp.mem k.sp y m ∧ (hd k m = m → k.sp.of m ≠ y + 1)
structure KH (N : Nat) (d : Nat → Nat) (k : Kp) : Prop where
  ki : KI N d k
  pp : ∀ m, m < 20 → m ≠ 0 → (k.p m).st ≠ 0 → ∃ q, PI k m q
  l0 : lv k 0 = true
  p0 : (k.p 0).par = -1
  ge : ∀ m z, m < 20 → (k.p m).st = 2 → hd k m = m → k.sp.of m = z + 1 → ∀ x, x < 20 → Sp.mem k.sp z x → x = m
section
variable {N : Nat} {d : Nat → Nat} {k k1 k2 k3 k' : Kp} {n z : Nat}
theorem KH.of (h : KH N d k) {m : Nat} (hm : m < 20) (s : (k.p m).st ≠ 0) : ∃ y, k.sp.of m = y + 1 := ⟨k.sp.of m - 1, by have := (h.ki.vi.kj.of m hm).2 s; omega⟩
theorem KH.like (h : KH N d k) (hi : KI N d k') (sp : k'.sp = k.sp) (hp : ∀ m, (k'.p m).st = (k.p m).st ∧ (k'.p m).par = (k.p m).par) : KH N d k' := by
  have e : ∀ m, hd k' m = hd k m := fun m => by unfold hd; rw [sp]
  have l : ∀ m, lv k' m = lv k m := fun m => by unfold lv; rw [(hp m).1]
  refine ⟨hi, fun m hm m0 s => ?_, by rw [l]; exact h.l0, by rw [(hp 0).2]; exact h.p0, fun m z hm s hd1 o x hx xm => ?_⟩
  · rw [(hp m).1] at s
    obtain ⟨q, a⟩ := h.pp m hm m0 s
    refine ⟨q, a.q20, a.qm, by rw [(hp m).2]; exact a.pq, by rw [l]; exact a.lq, ?_⟩
    rw [sp, e]; exact a.oq
  · rw [(hp m).1] at s
    rw [e] at hd1
    rw [sp] at o xm
    exact h.ge m z hm s hd1 o x hx xm
structure MQ (k : Kp) (n z : Nat) (k3 : Kp) : Prop where
  ot : ∀ q, q < 20 → q ≠ n → (k3.p q = k.p q ∧ k3.sp.of q = k.sp.of q) ∨ (k3.p q = Pr.no ∧ k3.sp.of q = 0 ∧ Sp.mem k.sp z q ∧ hd k n = n)
  wh : ∀ s p, s < 6 → p < 21 → k3.sp.who s p = k.sp.who s p ∨ k3.sp.who s p = 0
  wk : ∀ s p m, s < 6 → p < 21 → m < 20 → k.sp.who s p = m + 1 → k3.sp.of m ≠ 0 → k3.sp.who s p = m + 1
  al : hd k n = n → ∀ x, x < 20 → Sp.mem k3.sp z x → x = n
  sa : hd k n ≠ n → k3.sp = k.sp
theorem VI.mq (hv : VI (fun _ => False) N d k) (hn : n < 20) (n0 : n ≠ 0) (l : lv k n = true) (ho : k.sp.of n = z + 1) {c : Int} (s1 : StrTo k n k1) (mt : MidTo 6 (goneK k1 n c) n z k3) : MQ k n z k3 := by
  obtain ⟨a, sp, tb, hh, s0, oth⟩ := hv.first hn (fun x => x) ho (fun _ => s1) (fun x => by rw [l] at x; cases x)
  have oth2 : ∀ q, q ≠ n → (goneK k1 n c).p q = k.p q := fun q e => (put_ne _ _ _ _ e).trans (oth q e)
  have hd2 : ∀ q, hd (goneK k1 n c) q = hd k q := fun q => by
    show hd k1 q = hd k q
    unfold hd; rw [sp]
  have gs : (goneK k1 n c).sp = k.sp := sp
  rcases mt with ⟨c1, rfl⟩ | ⟨ih, j, it⟩
  · rw [hd2 n] at c1
    exact ⟨fun q _ e => .inl ⟨oth2 q e, by rw [gs]⟩, fun _ _ _ _ => .inl (by rw [gs]), fun _ _ _ _ _ _ e _ => by rw [gs]; exact e, fun e => absurd e c1, fun _ => gs⟩
  · rw [hd2 n] at ih
    have ei : EI (fun m => False ∨ m = n) N d n z k1 := hv.ei hn n0 (fun x => x) ho ih (fun _ _ x => absurd x (fun x => x)) (fun _ => s1) (fun x => by rw [l] at x; cases x)
    obtain ⟨b, g, e, len⟩ := EI.iter (van_ok 6) j _ (ei.gone s0 hh c) it
    refine ⟨fun q hq e => ?_, fun s p hs hp => by have := g.wh s p hs hp; rw [gs] at this; exact this, fun s p m hs hp hm => by have := g.wk s p m hs hp hm; rw [gs] at this; exact this, fun _ x hx xm => ?_, fun e => absurd ih e⟩
    · rcases g.kp q hq with w | w
      · rw [oth2 q e, gs] at w; exact .inl w
      · rw [gs] at w; exact .inr ⟨w.1, w.2.1, w.2.2, ih⟩
    · obtain ⟨p, p21, pw⟩ := xm
      rw [b.memb] at len
      have p1 := Sp.memb_one b.hw len p p21 (by omega)
      subst p1
      have := b.hw
      omega
theorem MQ.head (g : MQ k n z k3) {d' : Nat → Nat} (h : VI (fun _ => False) N d k) {X : Nat → Prop} (h3 : VI X N d' k3) {m : Nat} (hm : m < 20) (o : k3.sp.of m = k.sp.of m) (o0 : k.sp.of m ≠ 0) : hd k3 m = m ↔ hd k m = m := by
  obtain ⟨y, hy⟩ : ∃ y, k.sp.of m = y + 1 := ⟨k.sp.of m - 1, by omega⟩
  have y6 := (h.iv.mem_self hm hy).2.1
  rw [hd_eq h.iv h.hs hm hy, hd_eq h3.iv h3.hs hm (by rw [o]; exact hy)]
  constructor
  · intro e
    rcases g.wh y 1 y6 (by omega) with w | w
    · rw [← w]; exact e
    · rw [w] at e; omega
  · intro e
    exact g.wk y 1 m y6 (by omega) hm e (by rw [o]; exact o0)
theorem MQ.mem (g : MQ k n z k3) {s m : Nat} (hs : s < 6) (hm : m < 20) (e : Sp.mem k.sp s m) (o : k3.sp.of m ≠ 0) : Sp.mem k3.sp s m := by
  obtain ⟨p, p21, pw⟩ := e
  exact ⟨p, p21, g.wk s p m hs p21 hm pw o⟩
theorem MQ.back (g : MQ k n z k3) {s m : Nat} (hs : s < 6) (e : Sp.mem k3.sp s m) : Sp.mem k.sp s m := by
  obtain ⟨p, p21, pw⟩ := e
  rcases g.wh s p hs p21 with c | c
  · exact ⟨p, p21, by rw [← c]; exact pw⟩
  · rw [c] at pw; omega
theorem KH.end (h : KH N d k) (hn : n < 20) (n0 : n ≠ 0) (l : lv k n = true) (ho : k.sp.of n = z + 1) {q : Nat} (hq : (k.p n).par = (q : Int)) {c : Int} (et : EndTo k n c z q k') : KH N d k' := by
  obtain ⟨k1, k3, s1, mt, rfl⟩ := et
  have hv := h.ki.vi
  have md := hv.end_mid hn n0 l ho s1 mt
  have mq := hv.mq hn n0 l ho s1 mt
  have z6 := (hv.iv.mem_self hn ho).2
  obtain ⟨q', pn⟩ := h.pp n hn n0 (by rw [lv1.1 l]; omega)
  obtain rfl : q = q' := by have := pn.pq; omega
  have q20 := pn.q20
  have qn := pn.qm
  have vi3 : VI (fun _ => False) N d k3 := ⟨⟨md.vi.kj.sp, md.vi.kj.gr, md.vi.kj.si, md.vi.kj.sy, md.vi.kj.nw, md.vi.kj.me, md.vi.kj.wx, md.vi.kj.rf, md.vi.kj.ok, md.vi.kj.tb, md.vi.kj.st, md.vi.kj.hs, fun m hm _ s => md.vi.kj.lv m hm (fun x => x.elim id (fun e => by subst e; rw [md.pn.1] at s; omega)) s, md.vi.kj.of, md.vi.kj.ht, md.vi.kj.nm⟩, md.vi.iv, md.vi.hs⟩
  have left : ∀ m, m < 20 → (k3.p m).st ≠ 0 → m ≠ n → k3.p m = k.p m ∧ k3.sp.of m = k.sp.of m ∧ k.sp.of m ≠ 0 := fun m hm s mn => by
    rcases mq.ot m hm mn with ⟨a, b⟩ | ⟨a, _⟩
    · exact ⟨a, b, (hv.kj.of m hm).2 (by rw [← a]; exact s)⟩
    · rw [a] at s; exact absurd rfl s
  have outs : ∀ m, m < 20 → (k3.p m).st ≠ 0 → m ≠ n → hd k n = n → ¬ Sp.mem k.sp z m := fun m hm s mn e c1 => by
    have := left m hm s mn
    exact mn (mq.al e m hm (mq.mem z6.1 hm c1 (by rw [this.2.1]; exact this.2.2)))
  have stay : ∀ m x, m < 20 → (k3.p m).st ≠ 0 → PI k m x → x ≠ n → k3.p x = k.p x ∧ k3.sp.of x = k.sp.of x := fun m x hm s a xn => by
    rcases mq.ot x a.q20 xn with b | ⟨_, _, b, e⟩
    · exact b
    · exfalso
      obtain ⟨y, oy, my, hy⟩ := a.oq
      by_cases mn : m = n
      · subst mn
        exact hv.iv.not_below hn a.q20 ho oy b (fun e2 => hy e (by rw [ho, e2])) my
      · exact outs m hm s mn e (hv.iv.mem_up z6.1 a.q20 hm oy b my)
  have hdn : ∀ m, m < 20 → (k3.p m).st ≠ 0 → (hd k3 m = m ↔ hd k m = m) := fun m hm s => by
    by_cases mn : m = n
    · subst mn
      exact mq.head hv vi3 hm (by rw [md.ho, ho]) (by omega)
    · have := left m hm s mn
      exact mq.head hv vi3 hm this.2.1 this.2.2
  have pi3 : ∀ m x, m < 20 → (k3.p m).st ≠ 0 → PI k m x → x ≠ n → (k3.p m).par = (x : Int) → PI k3 m x := fun m x hm s a xn pe => by
    have b := stay m x hm s a xn
    obtain ⟨y, oy, my, hy⟩ := a.oq
    have om : k3.sp.of m = k.sp.of m ∧ k.sp.of m ≠ 0 := by
      by_cases mn : m = n
      · subst mn; rw [md.ho, ho]; exact ⟨rfl, by omega⟩
      · exact (left m hm s mn).2
    refine ⟨a.q20, a.qm, pe, lv1.2 (by rw [b.1]; exact lv1.1 a.lq), y, by rw [b.2]; exact oy, mq.mem (hv.iv.mem_self a.q20 oy).2.1 hm my (by rw [om.1]; exact om.2), fun e => ?_⟩
    rw [om.1]; exact hy ((hdn m hm s).1 e)
  have ini : Sp.inN k3.sp (n : Int) = z := Sp.inN_of hn md.ho
  have z63 := (vi3.iv.mem_self hn md.ho).2
  have inC : ∀ m, m ∈ chL k3 n → m < 20 ∧ Sp.mem k3.sp z m ∧ (k3.p m).par = (n : Int) := fun m hm => by
    have a := hm
    unfold chL chK at a
    rw [ini] at a
    have b := Sp.membL_mem vi3.iv z63.1 z63.2 (List.mem_filter.1 a).1
    exact ⟨b.1, b.2, chL_par m hm⟩
  obtain ⟨hh, h20, hw, hof⟩ := vi3.hs.hd z z63.1 z63.2
  have fh : Sp.findN k3.sp (z : Int) 1 = hh := Sp.find1 z63.1 z63.2 hw
  rw [fh]
  have pp4 : ∀ m, m < 20 → m ≠ 0 → (k3.p m).st ≠ 0 → ∃ x, PI (adK k3 (chL k3 n) (hh : Nat)) m x := fun m hm m0 s => by
    have sk : (k.p m).st ≠ 0 := by
      by_cases mn : m = n
      · subst mn; rw [lv1.1 l]; omega
      · rw [← (left m hm s mn).1]; exact s
    obtain ⟨x, a⟩ := h.pp m hm m0 sk
    have p3 : (k3.p m).par = (x : Int) := by
      by_cases mn : m = n
      · subst mn; rw [md.pn.2.2.1]; exact a.pq
      · rw [(left m hm s mn).1]; exact a.pq
    by_cases xn : x = n
    · subst xn
      have mn : m ≠ x := fun e => a.qm e.symm
      have lm := left m hm s mn
      obtain ⟨y, oy, my, hy⟩ := a.oq
      obtain rfl : y = z := by omega
      have nh : hd k x ≠ x := fun e => outs m hm s mn e my
      have mm : Sp.mem k3.sp y m := mq.mem z6.1 hm my (by rw [lm.2.1]; exact lm.2.2)
      have mC : m ∈ chL k3 x := by
        unfold chL chK
        rw [ini]
        exact List.mem_filter.2 ⟨Sp.mem_membL z63.1 z63.2 mm, decide_eq_true p3⟩
      have hx : hh ≠ x := fun e => by
        subst e
        exact nh ((hdn hh hn (by rw [md.pn.1]; omega)).1 ((hd_eq vi3.iv vi3.hs h20 hof).2 hw))
      have sh : (k3.p hh).st ≠ 0 := (vi3.kj.of hh h20).1 (by omega)
      have lh := left hh h20 sh hx
      have hhd : hd k3 hh = hh := (hd_eq vi3.iv vi3.hs h20 hof).2 hw
      have lvh : lv k3 hh = true := lv1.2 (by
        have le := vi3.kj.st hh h20
        by_cases e2 : (k3.p hh).st = 2
        · exfalso
          have oh : k.sp.of hh = y + 1 := by rw [← lh.2.1]; exact hof
          exact hx (h.ge hh y h20 (by rw [← lh.1]; exact e2) ((hdn hh h20 sh).1 hhd) oh x hn (hv.iv.mem_self hn ho).1).symm
        · omega)
      refine ⟨hh, h20, fun e => ?_, ?_, lvh, y, hof, mm, fun e => ?_⟩
      · subst e
        exact hy ((hdn hh hm s).1 hhd) (by rw [← lm.2.1]; exact hof)
      · show (if m ∈ chL k3 x then ((hh : Nat) : Int) else _) = _
        rw [if_pos mC]
      · show k3.sp.of m ≠ y + 1
        rw [lm.2.1]; exact hy ((hdn m hm s).1 e)
    · have b := pi3 m x hm s a xn p3
      refine ⟨x, b.q20, b.qm, ?_, b.lq, b.oq⟩
      show (if m ∈ chL k3 n then _ else (k3.p m).par) = _
      rw [if_neg (fun e => xn (by have := (inC m e).2.2; omega))]
      exact p3
  have ki4 : KI N d (adK k3 (chL k3 n) (hh : Nat)) := by
    refine ⟨⟨vi3.kj.ad _ _, vi3.iv, vi3.hs⟩, fun m hm lm hd1 => ?_, fun m hm m0 s => ?_, vi3.h0⟩
    · have t1 : (k3.p m).st = 1 := lv1.1 lm
      have mn : m ≠ n := fun e => by subst e; rw [md.pn.1] at t1; omega
      have lm2 := left m hm (by omega) mn
      show Sg.FirTo (k3.p m).box 0 0
      rw [lm2.1]
      refine h.ki.fi m hm (lv1.2 (by rw [← lm2.1]; exact t1)) (fun e => hd1 ((hdn m hm (by omega)).2 e))
    · obtain ⟨x, a⟩ := pp4 m hm m0 s
      exact ⟨x, a.q20, a.qm, a.pq⟩
  have kh4 : KH N d (adK k3 (chL k3 n) (hh : Nat)) := by
    have e0 : k3.p 0 = k.p 0 := by
      rcases mq.ot 0 (by omega) (Ne.symm n0) with ⟨a, _⟩ | ⟨_, _, b, e⟩
      · exact a
      · exact absurd b (hv.iv.zero hv.hs z6.1 ((hd_eq hv.iv hv.hs hn ho).1 e) n0)
    refine ⟨ki4, pp4, lv1.2 ?_, ?_, fun m y hm s hd1 o x hx xm => ?_⟩
    · show (k3.p 0).st = 1
      rw [e0]; exact lv1.1 h.l0
    · show (if 0 ∈ chL k3 n then _ else (k3.p 0).par) = -1
      rw [if_neg (fun c => by have := (inC 0 c).2.2; rw [e0, h.p0] at this; omega), e0]; exact h.p0
    · have s2 : (k3.p m).st = 2 := s
      have o2 : k3.sp.of m = y + 1 := o
      have y6 := (vi3.iv.mem_self hm o2).2.1
      by_cases mn : m = n
      · subst mn
        obtain rfl : y = z := by have := md.ho; omega
        exact mq.al ((hdn m hm (by omega)).1 hd1) x hx xm
      · have lm2 := left m hm (by omega) mn
        exact h.ge m y hm (by rw [← lm2.1]; exact s2) ((hdn m hm (by omega)).1 hd1) (by rw [← lm2.2.1]; exact o2) x hx (mq.back y6 xm)
  unfold kidK
  split
  · refine kh4.like (kh4.ki.box q (fun _ lq hq1 => ?_)) rfl (fun m => ?_)
    · exact Sg.kid_none (kh4.ki.fi q q20 lq hq1)
    · unfold senK
      by_cases e : m = q
      · subst e; rw [put_same]; exact ⟨rfl, rfl⟩
      · rw [put_ne _ _ _ _ e]; exact ⟨rfl, rfl⟩
  · exact kh4
theorem KH.van (h : KH N d k) (hn : n < 20) (n0 : n ≠ 0) (g2 : (k.p n).st = 2) (ho : k.sp.of n = z + 1) (v : VanN 6 k n k') : KH N d k' ∧ k'.p n = Pr.no ∧ k'.sp.of n = 0 ∧ (∀ x, x < 20 → x ≠ n → k'.p x = k.p x ∧ k'.sp.of x = k.sp.of x) ∧ (∀ s p, s < 6 → p < 21 → k'.sp.who s p = if k.sp.who s p = n + 1 then 0 else k.sp.who s p) := by
  have hv := h.ki.vi
  have z6 := (hv.iv.mem_self hn ho).2
  obtain ⟨v', g, e, ot⟩ := van_ok 6 (fun _ => False) k n k' z hv hn n0 (fun x => x) ho (fun _ _ _ x => x.elim) v
  have o0 : k'.sp.of n = 0 := by
    by_cases c : k'.sp.of n = 0
    · exact c
    · have := (v'.kj.of n hn).1 c; rw [e] at this; exact absurd rfl this
  have oth : ∀ x, x < 20 → x ≠ n → k'.p x = k.p x ∧ k'.sp.of x = k.sp.of x := fun x hx xn => by
    by_cases c : hd k n = n
    · rcases g.kp x hx with w | w
      · exact w
      · exact absurd (h.ge n z hn g2 c ho x hx w.2.2) xn
    · exact ot c x hx xn
  have whs : ∀ s p, s < 6 → p < 21 → k'.sp.who s p = if k.sp.who s p = n + 1 then 0 else k.sp.who s p := fun s p hs hp => by
    by_cases c : k.sp.who s p = n + 1
    · rw [if_pos c]
      rcases g.wh s p hs hp with w | w
      · have := (v'.iv.has s n hs hn).1 ⟨p, hp, by rw [w]; exact c⟩
        exact absurd o0 this.1
      · exact w
    · rw [if_neg c]
      by_cases c0 : k.sp.who s p = 0
      · rcases g.wh s p hs hp with w | w
        · exact w
        · rw [w, c0]
      · have le := hv.iv.wle s p hs hp
        have x20 : k.sp.who s p - 1 < 20 := by omega
        have xn : k.sp.who s p - 1 ≠ n := by omega
        have hx := (hv.iv.has s (k.sp.who s p - 1) hs x20).1 ⟨p, hp, by omega⟩
        have := g.wk s p (k.sp.who s p - 1) hs hp x20 (by omega) (by rw [(oth _ x20 xn).2]; exact hx.1)
        omega
  have hdn : ∀ m, m < 20 → m ≠ n → k.sp.of m ≠ 0 → (hd k' m = m ↔ hd k m = m) := fun m hm mn om => by
    obtain ⟨y, hy⟩ : ∃ y, k.sp.of m = y + 1 := ⟨k.sp.of m - 1, by omega⟩
    have y6 := (hv.iv.mem_self hm hy).2.1
    rw [hd_eq hv.iv hv.hs hm hy, hd_eq v'.iv v'.hs hm (by rw [(oth m hm mn).2]; exact hy), whs y 1 y6 (by omega)]
    by_cases c : k.sp.who y 1 = n + 1
    · rw [if_pos c]; omega
    · rw [if_neg c]
  have mem' : ∀ s m, s < 6 → m < 20 → m ≠ n → (Sp.mem k'.sp s m ↔ Sp.mem k.sp s m) := fun s m hs hm mn => by
    constructor
    · rintro ⟨p, p21, pw⟩
      rw [whs s p hs p21] at pw
      by_cases c : k.sp.who s p = n + 1
      · rw [if_pos c] at pw; omega
      · rw [if_neg c] at pw; exact ⟨p, p21, pw⟩
    · rintro ⟨p, p21, pw⟩
      exact ⟨p, p21, by rw [whs s p hs p21, if_neg (by omega)]; exact pw⟩
  have st0 : ∀ m, m < 20 → (k'.p m).st ≠ 0 → m ≠ n := fun m _ s c => by subst c; rw [e] at s; exact s rfl
  have pp : ∀ m, m < 20 → m ≠ 0 → (k'.p m).st ≠ 0 → ∃ q, PI k' m q := fun m hm m0 s => by
    have mn := st0 m hm s
    rw [(oth m hm mn).1] at s
    obtain ⟨q, a⟩ := h.pp m hm m0 s
    have qn : q ≠ n := fun c => by subst c; have := lv1.1 a.lq; omega
    have oq := oth q a.q20 qn
    obtain ⟨y, oy, my, hy⟩ := a.oq
    refine ⟨q, a.q20, a.qm, by rw [(oth m hm mn).1]; exact a.pq, lv1.2 (by rw [oq.1]; exact lv1.1 a.lq), y, by rw [oq.2]; exact oy, (mem' y m (hv.iv.mem_self a.q20 oy).2.1 hm mn).2 my, fun c => ?_⟩
    rw [(oth m hm mn).2]
    exact hy ((hdn m hm mn ((hv.kj.of m hm).2 s)).1 c)
  refine ⟨⟨⟨v', fun m hm lm hd1 => ?_, fun m hm m0 s => ?_, v'.h0⟩, pp, ?_, ?_, fun m y hm s hd1 o x hx xm => ?_⟩, e, o0, oth, whs⟩
  · have mn := st0 m hm (by rw [lv1.1 lm]; omega)
    have om := oth m hm mn
    rw [om.1]
    have lk : lv k m = true := lv1.2 (by rw [← om.1]; exact lv1.1 lm)
    exact h.ki.fi m hm lk (fun c => hd1 ((hdn m hm mn ((hv.kj.of m hm).2 (by rw [lv1.1 lk]; omega))).2 c))
  · obtain ⟨q, a⟩ := pp m hm m0 s
    exact ⟨q, a.q20, a.qm, a.pq⟩
  · exact lv1.2 (by rw [(oth 0 (by omega) (Ne.symm n0)).1]; exact lv1.1 h.l0)
  · rw [(oth 0 (by omega) (Ne.symm n0)).1]; exact h.p0
  · have mn := st0 m hm (by omega)
    have om := oth m hm mn
    have xn : x ≠ n := fun c => by
      subst c
      have := (v'.iv.has y x (v'.iv.mem_self hm o).2.1 hx).1 xm
      exact this.1 o0
    rw [om.1] at s
    rw [om.2] at o
    exact h.ge m y hm s ((hdn m hm mn (by omega)).1 hd1) o x hx ((mem' y x (hv.iv.mem_self hm o).2.1 hx xn).1 xm)
end
end Kn
end Go.Proofs.YtghogbngmcolmaaGreat
namespace Go.Proofs.YtghogbngmcolmaaGreat
open Go.RowKit
open Tr (Fo Nd)
open Mo (Wh Mt)
open Mv (Me Bk)
open Kn (Pr Kp St us KB KJ VI EI)
namespace Kn
section
variable {N : Nat} {d : Nat → Nat} {k k2 : Kp} {n c z : Nat}
theorem chi_none (X : Nat → Sg.S1) : Sg.FirTo (Sg.chiF X) 0 0 := .inl ⟨rfl, fun j _ _ => by unfold Sg.ok Sg.chiF; simp⟩
theorem KH.gr (h : KH N d k) {t : Nat → Gr.Gp} {M : Nat} (hM : N ≤ M) (g : ∃ Wy, Gr.Tree t Wy M) : KH M d { k with gr := t } := by
  have kj : KJ (fun _ => False) M { k with gr := t } := (h.ki.vi.kj.mono (fun _ _ e => e) hM).setGr g
  exact ⟨⟨⟨kj, h.ki.vi.iv, h.ki.vi.hs⟩, h.ki.fi, h.ki.pr, h.ki.h0⟩, fun m hm m0 s => by
    obtain ⟨q, a⟩ := h.pp m hm m0 s
    exact ⟨q, a.q20, a.qm, a.pq, a.lq, a.oq⟩, h.l0, h.p0, h.ge⟩
theorem KH.born (h : KH N d k) {d2 : Nat → Nat} (kj : KJ (fun _ => False) N k2) (iv : Sp.Inv k2.sp d2) (ep : k2.p = k.p) (eo : k2.sp.of = k.sp.of) (ew : k2.sp.who = k.sp.who) (hn : n < 20) (l : lv k n = true) (hc : c < 20) (c0 : (k.p c).st = 0) (z6 : z < 6) (zh : k2.sp.here z = true)
    {y : Nat} (oy : k.sp.of n = y + 1) (hz : (z = y ∧ ∀ s, s < 6 → k2.sp.here s = true → k.sp.here s = true) ∨ (z ≠ y ∧ k2.sp.par z = (y : Int) ∧ k.sp.here z = false ∧ ∀ s, s < 6 → k2.sp.here s = true → s = z ∨ k.sp.here s = true)) {m' : Fa.Fr.M} (wk : Fa.Fr.WakeTo (Fa.Fr.addTaskM k2.sc (c : Int) (k2.p n).grp 100) (c : Int) true m') : KH (N + 1) d2 (staK (copK k2 n) c (chP k2 n) (z : Int) m') := by
  have hv := h.ki.vi
  have l2 : lv k2 n = true := by unfold lv; rw [ep]; exact l
  have n1 : (k.p n).st = 1 := lv1.1 l
  have nc : n ≠ c := fun e => by subst e; omega
  have hh2 : (k2.p n).has = true := by rw [ep]; exact hv.kj.lv n hn (fun x => x) n1
  have kj2 := kj.sta (n := n) (c := c) (z := z) (fun x => x) hn hc l2 hh2 (by rw [ep]; exact c0) z6 zh wk
  have o0 : k2.sp.of c = 0 := by
    by_cases e : k2.sp.of c = 0
    · exact e
    · exact absurd (by rw [ep]; exact c0) ((kj.of c hc).1 e)
  have o0k : k.sp.of c = 0 := by rw [← eo]; exact o0
  obtain ⟨T, eT⟩ := shaK_same { k2 with bk := Mv.foK (k2.p n).mem k2.bk 16 } (k2.p n).fd 6
  have cop : copK k2 n = { k2 with bk := Mv.foK (k2.p n).mem k2.bk 16, fi := T } := eT
  have esp : (staK (copK k2 n) c (chP k2 n) (z : Int) m').sp = Sp.entT k2.sp (z : Int) (c : Int) := by rw [cop]; rfl
  have e1 : ∀ m, m ≠ c → (staK (copK k2 n) c (chP k2 n) (z : Int) m').p m = k.p m := fun m q => by rw [cop]; exact (put_ne _ _ _ _ q).trans (by show k2.p m = k.p m; rw [ep])
  have e2 : (staK (copK k2 n) c (chP k2 n) (z : Int) m').p c = chP k2 n := put_same _ _ _
  have iv' : Sp.Inv (staK (copK k2 n) c (chP k2 n) (z : Int) m').sp d2 := by rw [esp]; exact iv.enter _ _
  have hs' : Sp.HDs (staK (copK k2 n) c (chP k2 n) (z : Int) m').sp := by
    rw [esp]
    refine Sp.HDs.enter iv z6 zh hc o0 (fun s s6 sh => ?_) (by rw [eo, ew]; exact hv.hs.r0)
    rw [eo, ew]
    rcases hz with ⟨_, q⟩ | ⟨_, _, q, r⟩
    · exact .inl (hv.hs.hd s s6 (q s s6 sh))
    · rcases r s s6 sh with e | e
      · subst e
        exact .inr ⟨rfl, fun p hp => hv.iv.dead s6 hp q⟩
      · exact .inl (hv.hs.hd s s6 e)
  have vi' : VI (fun _ => False) (N + 1) d2 (staK (copK k2 n) c (chP k2 n) (z : Int) m') := ⟨kj2, iv', hs'⟩
  generalize hk' : staK (copK k2 n) c (chP k2 n) (z : Int) m' = k' at *
  have of' : ∀ m, k'.sp.of m = if m = c then z + 1 else k.sp.of m := fun m => by rw [esp, Sp.ent_of z6 zh hc o0, eo]
  have keep : ∀ s p, s < 6 → k.sp.who s p ≠ 0 → k'.sp.who s p = k.sp.who s p := fun s p hs hw => by rw [esp, Sp.ent_keep iv z6 zh hc o0 hs (by rw [ew]; exact hw), ew]
  have memk : ∀ s m, s < 6 → Sp.mem k.sp s m → Sp.mem k'.sp s m := fun s m hs ⟨p, p21, pw⟩ => ⟨p, p21, by rw [keep s p hs (by omega)]; exact pw⟩
  have memb : ∀ s m, s < 6 → m ≠ c → Sp.mem k'.sp s m → Sp.mem k.sp s m := fun s m hs mc ⟨p, p21, pw⟩ => by
    rw [esp, Sp.ent_who z6 zh hc o0] at pw
    by_cases q : s ∈ Sp.W k2.sp (z : Int) ∧ p = Sp.low k2.sp s
    · rw [if_pos q] at pw; omega
    · rw [if_neg q, ew] at pw; exact ⟨p, p21, pw⟩
  have hdn : ∀ m, m < 20 → m ≠ c → k.sp.of m ≠ 0 → (hd k' m = m ↔ hd k m = m) := fun m hm mc om => by
    obtain ⟨x, hx⟩ : ∃ x, k.sp.of m = x + 1 := ⟨k.sp.of m - 1, by omega⟩
    have x6 := (hv.iv.mem_self hm hx).2
    obtain ⟨hh, h20, hw, hof⟩ := hv.hs.hd x x6.1 x6.2
    rw [hd_eq hv.iv hv.hs hm hx, hd_eq vi'.iv vi'.hs hm (by rw [of', if_neg mc]; exact hx), keep x 1 x6.1 (by omega)]
  have y6 := (hv.iv.mem_self hn oy).2
  have piC : PI k' c n := by
    refine ⟨hn, nc, by rw [e2]; rfl, lv1.2 (by rw [e1 n nc]; exact n1), y, by rw [of', if_neg nc]; exact oy, ?_, fun e => ?_⟩
    · refine (vi'.iv.has y c y6.1 hc).2 ⟨by rw [of', if_pos rfl]; omega, ?_⟩
      rw [of', if_pos rfl, show z + 1 - 1 = z by omega]
      have wz : Sp.W k'.sp (z : Int) = z :: Sp.W k'.sp (k'.sp.par z) := vi'.iv.tree.step z6 (by rw [esp, (Sp.ent_here z6 zh hc o0).1]; exact zh)
      rw [wz]
      rcases hz with ⟨e, _⟩ | ⟨_, e, _, _⟩
      · rw [e]; simp
      · have pe : k'.sp.par z = (y : Int) := by rw [esp, (Sp.ent_here z6 zh hc o0).2]; exact e
        rw [pe]
        have yh : k'.sp.here y = true := by
          have := (vi'.iv.mem_self hn (z := y) (by rw [of', if_neg nc]; exact oy)).2.2
          exact this
        rw [vi'.iv.tree.step y6.1 yh]
        simp
    · rw [of', if_pos rfl]
      intro q
      obtain rfl : z = y := by omega
      have wc := (hd_eq vi'.iv vi'.hs hc (z := z) (by rw [of', if_pos rfl])).1 e
      obtain ⟨hh, h20, hw, hof⟩ := hv.hs.hd z y6.1 y6.2
      rw [keep z 1 z6 (by omega), hw] at wc
      have : hh = c := by omega
      subst this
      omega
  have ppo : ∀ m, m < 20 → m ≠ 0 → (k'.p m).st ≠ 0 → ∃ q, PI k' m q := fun m hm m0 s => by
    by_cases mc : m = c
    · subst mc; exact ⟨n, piC⟩
    · rw [e1 m mc] at s
      obtain ⟨q, a⟩ := h.pp m hm m0 s
      have qc : q ≠ c := fun e => by subst e; have := lv1.1 a.lq; omega
      obtain ⟨x, ox, mx, hx⟩ := a.oq
      refine ⟨q, a.q20, a.qm, by rw [e1 m mc]; exact a.pq, lv1.2 (by rw [e1 q qc]; exact lv1.1 a.lq), x, by rw [of', if_neg qc]; exact ox, memk x m (hv.iv.mem_self a.q20 ox).2.1 mx, fun e => ?_⟩
      rw [of', if_neg mc]
      exact hx ((hdn m hm mc ((hv.kj.of m hm).2 s)).1 e)
  have c0' : (0 : Nat) ≠ c := fun e => by subst e; have := lv1.1 h.l0; omega
  refine ⟨⟨vi', fun m hm lm hd1 => ?_, fun m hm m0 s => ?_, vi'.h0⟩, ppo, lv1.2 (by rw [e1 0 c0']; exact lv1.1 h.l0), by rw [e1 0 c0']; exact h.p0, fun m x hm s hd1 o u hu um => ?_⟩
  · by_cases mc : m = c
    · subst mc; rw [e2]; exact chi_none _
    · rw [e1 m mc]
      have lk : lv k m = true := lv1.2 (by rw [← e1 m mc]; exact lv1.1 lm)
      exact h.ki.fi m hm lk (fun e => hd1 ((hdn m hm mc ((hv.kj.of m hm).2 (by rw [lv1.1 lk]; omega))).2 e))
  · obtain ⟨q, a⟩ := ppo m hm m0 s
    exact ⟨q, a.q20, a.qm, a.pq⟩
  · have mc : m ≠ c := fun e => by
      subst e; rw [e2] at s
      have : (k2.p n).st = 2 := s
      rw [ep] at this; omega
    rw [e1 m mc] at s
    rw [of', if_neg mc] at o
    have x6 := (hv.iv.mem_self hm o).2
    have hdm := (hdn m hm mc (by omega)).1 hd1
    by_cases uc : u = c
    · exfalso
      subst uc
      have a := (vi'.iv.mem_of x6.1 hu um).2
      rw [of', if_pos rfl, show z + 1 - 1 = z by omega] at a
      have yx : Sp.mem k.sp x n := by
        refine memb x n x6.1 nc ((vi'.iv.has x n x6.1 hn).2 ⟨by rw [of', if_neg nc]; omega, ?_⟩)
        rw [of', if_neg nc, oy, show y + 1 - 1 = y by omega]
        rcases hz with ⟨e, _⟩ | ⟨ne, e, hf, _⟩
        · rw [← e]; exact a
        · rw [vi'.iv.tree.step z6 (by rw [esp, (Sp.ent_here z6 zh hc o0).1]; exact zh)] at a
          rcases List.mem_cons.1 a with e3 | a
          · subst e3; rw [x6.2] at hf; cases hf
          · rw [esp, (Sp.ent_here z6 zh hc o0).2, e] at a
            rw [esp]; exact a
      have := h.ge m x hm s hdm o n hn yx
      subst this
      omega
    · exact h.ge m x hm s hdm o u hu (memb x u x6.1 uc um)
end
end Kn
end Go.Proofs.YtghogbngmcolmaaGreat
namespace Go.Proofs.YtghogbngmcolmaaGreat
open Go.RowKit
open Tr (Fo Nd)
open Mo (Wh Mt)
open Mv (Me Bk)
open Kn (Pr Kp St us KB KJ VI EI)
namespace Kn
theorem us_cop {s : St} {n i : Nat} (h : us { s with k := copK s.k n } i) : us s i := by
  obtain ⟨T, eT⟩ := shaK_same { s.k with bk := Mv.foK (s.k.p n).mem s.k.bk 16 } (s.k.p n).fd 6
  have e3 : copK s.k n = { s.k with bk := Mv.foK (s.k.p n).mem s.k.bk 16, fi := T } := eT
  rw [e3] at h
  exact h
theorem cop_same (k : Kp) (n : Nat) : (copK k n).sp = k.sp ∧ (copK k n).sc = k.sc ∧ (copK k n).p = k.p := by
  obtain ⟨T, eT⟩ := shaK_same { k with bk := Mv.foK (k.p n).mem k.bk 16 } (k.p n).fd 6
  have e3 : copK k n = { k with bk := Mv.foK (k.p n).mem k.bk 16, fi := T } := eT
  rw [e3]
  exact ⟨rfl, rfl, rfl⟩
theorem chgK_no {k : Kp} {Wy : Nat → List (Fin 10)} {n : Nat} (h : Gr.chgE k.gr Wy (k.p n).grp 1 (Mv.resK (k.p n).mem 16 : Int) ≠ 0) : ({ k with gr := Gr.chgT k.gr Wy (k.p n).grp 1 (Mv.resK (k.p n).mem 16 : Int) } : Kp) = k := by
  unfold Gr.chgT
  rw [if_neg h]
theorem chg_tree {t : Nat → Gr.Gp} {Wy : Nat → List (Fin 10)} {N : Nat} (h : Gr.Tree t Wy N) (g p q : Int) (hp : p ≤ 64) (hq : q ≤ 64) : Gr.Tree (Gr.chgT t Wy g p q) Wy (N + 1) := by
  unfold Gr.chgT
  by_cases e : Gr.chgE t Wy g p q = 0
  · rw [if_pos e]
    have hr : Gr.refE t g p q = 0 := by
      unfold Gr.chgE at e
      by_cases r : Gr.refE t g p q = 0
      · exact r
      · rw [if_neg r] at e; exact absurd e r
    obtain ⟨n, rfl, hn, hh, _, _⟩ := Gr.refE_zero hr
    rw [Int.toNat_natCast]
    have o := h.own n hn
    obtain ⟨hp, hq⟩ := Gr.refE_pq hr
    exact h.addO (by omega) ⟨by omega, by omega⟩ ⟨by omega, by omega⟩
  · rw [if_neg e]; exact h.mono (by omega)
def chgK (k : Kp) (Wy : Nat → List (Fin 10)) (n : Nat) : Kp := { k with gr := Gr.chgT k.gr Wy (k.p n).grp 1 (Mv.resK (k.p n).mem 16 : Int) }
def chgN (k : Kp) (Wy : Nat → List (Fin 10)) (n : Nat) : Int := Gr.chgE k.gr Wy (k.p n).grp 1 (Mv.resK (k.p n).mem 16 : Int)
def ForTo (k : Kp) (z : Int) (own : Bool) (p : Nat) (E : Int) (k' : Kp) : Prop :=
  (actE k z ≠ 0 ∧ E = actE k z ∧ p = 0 ∧ k' = k) ∨
  (actE k z = 0 ∧ ∃ n c F Wy, z = ((n : Nat) : Int) ∧ n < 20 ∧ FreeTo k c F ∧ Gr.Ways k.gr Wy ∧
    ((F ≠ 0 ∧ E = F ∧ p = 0 ∧ k' = k) ∨ (F = 0 ∧ chgN k Wy n ≠ 0 ∧ E = chgN k Wy n ∧ p = 0 ∧ k' = k) ∨
     (F = 0 ∧ chgN k Wy n = 0 ∧ homE (chgK k Wy n) n own ≠ 0 ∧ E = homE (chgK k Wy n) n own ∧ p = 0 ∧ k' = { chgK k Wy n with gr := Gr.uncT (chgK k Wy n).gr (k.p n).grp 1 (Mv.resK (k.p n).mem 16 : Int) }) ∨
     (F = 0 ∧ chgN k Wy n = 0 ∧ homE (chgK k Wy n) n own = 0 ∧ E = 0 ∧ ∃ m', Fa.Fr.WakeTo (Fa.Fr.addTaskM (homK (chgK k Wy n) n own).sc (c : Int) (k.p n).grp 100) (c : Int) true m' ∧
        k' = staK (copK (homK (chgK k Wy n) n own) n) c (chP (homK (chgK k Wy n) n own) n) (homN (chgK k Wy n) n own : Int) m' ∧ p = Sp.pidN k'.sp (c : Int) (Sp.inN k'.sp (n : Int) : Nat))))
theorem homK_p (k : Kp) (n : Nat) (own : Bool) : (homK k n own).p = k.p ∧ (homK k n own).bk = k.bk ∧ (homK k n own).fi = k.fi ∧ (homK k n own).sc = k.sc := by
  unfold homK
  split <;> exact ⟨rfl, rfl, rfl, rfl⟩
end Kn
section
variable (base N : Nat) (d : Nat → Nat) (s : St) (w : World)
set_option maxRecDepth 100000 in
set_option maxHeartbeats 4000000 in
theorem kfork_any (hN : N ≤ 900) (z : Int) (own : Bool) (h : KKt w base s) (hb : base ≤ w.heap.size) (hv : VI (fun _ => False) N d s.k) :
    Calls Tryz.prog 9 #[.pointer (some ⟨s.A 0, 0, none⟩), .int .i64 z, .bool own] w fun e w' => ∃ (p : Nat) (E : Int) (s' : St), e = .returned (.tuple #[.int .i64 (p : Int), errV E]) ∧ Kn.ForTo s.k z own p E s'.k ∧ KKt w' base s' ∧ KF s w s' w' := by
  have AC := Hid.intro (kacting_any base s w z h)
  have H := Hid.intro (And.intro h (And.intro hv (And.intro hb hN)))
  obtain ⟨kb, hkb⟩ : ∃ kb, s.A 0 = kb := ⟨_, rfl⟩
  have HK := Hid.intro hkb
  by_cases a : Kn.actE s.k z = 0
  · obtain ⟨n, rfl, hn, hl⟩ := Kn.actE_ok a
    have HA := Hid.intro (And.intro a hl)
    have st1 : (s.k.p n).st = 1 := by unfold Kn.lv at hl; simpa using hl
    have hh := hv.kj.lv n hn (fun x => x) st1
    obtain ⟨y, hy⟩ : ∃ y, s.k.sp.of n = y + 1 := ⟨s.k.sp.of n - 1, by have := (hv.kj.of n hn).2 (by omega); omega⟩
    have HH := Hid.intro (And.intro hh hy)
    obtain ⟨Wy, hWy⟩ := hv.kj.gr
    have HW := Hid.intro hWy
    rw [a, errV_zero, aptE_ok] at AC
    have FRE := Hid.intro (knfree_any base s w h)
    have c4 := h.cMem n hn hh
    have RS := Hid.intro (vresident_any (s.A (9 + n)) (s.A 4) (s.k.p n).mem w (h.me n hn hh))
    have RL := Hid.intro (YtghogbngmcolmaaGreat.resK_le (s.k.p n).mem 16)
    rw [hkb] at AC FRE c4 ⊢
    generalize s.A (9 + n) = m9 at c4 RS
    clear h hv hb a hl st1 hh hy hWy hkb
    go_enter Tryz.func9, Tryz.ntmps9
    go_wp2_with fail
    refine AC.out.mono ?_
    rintro e w1 ⟨rfl, hw⟩
    subst w1
    go_wp2_with fail
    refine FRE.out.mono ?_
    rintro e w1 ⟨c, F, rfl, hF, hw⟩
    subst w1
    have HF := Hid.intro hF
    clear AC FRE hF
    by_cases f0 : F = 0
    · subst f0
      rw [errV_zero]
      have c20 : c < 20 := by
        rcases HF.out with q | q
        · exact q.2.1
        · omega
      have c20I : (c : Int) < 20 := by omega
      go_wp2_with fail
      refine RS.out.mono ?_
      rintro e w1 ⟨rfl, b1⟩
      have S1 : Hid (KKt w1 base s ∧ KF s w s w1 ∧ base ≤ w1.heap.size) := Hid.intro ⟨H.out.1.below b1, KF.below b1, Nat.le_trans H.out.2.2.1 b1.size⟩
      clear b1 RS c4
      obtain ⟨rr, hrr⟩ : ∃ rr, Mv.resK (s.k.p n).mem 16 = rr := ⟨_, rfl⟩
      have HRR := Hid.intro hrr
      rw [hrr] at RL ⊢
      have rl := RL.out
      clear hrr
      go_upto_region 8 with fail
      have K0 : Hid (w1.cell? ⟨kb, 247, none⟩ = some (.pointer (some ⟨s.A 2, 0, none⟩)) ∧ w1.cell? ⟨kb, n * 12 + 2, none⟩ = some (.int .i64 (s.k.p n).grp)) := Hid.intro (by rw [← HK.out]; exact ⟨S1.out.1.cGr, S1.out.1.cGrp n hn⟩)
      have CG := Hid.intro (Gr.charge_any (s.A 2) (s.k.p n).grp 1 (rr : Int) s.k.gr Wy w1.drew S1.out.1.drew.gr HW.out.ways (HW.out.small (by have := H.out.2.2.2; omega)))
      have A4 : Hid (∀ w4, Gr.TAt w4 (s.A 2) (Gr.chgT s.k.gr Wy (s.k.p n).grp 1 (rr : Int)) → Gr.Frm (s.A 2) w1.drew w4 → KKt w4 base { s with k := Kn.chgK s.k Wy n } ∧ KF s w { s with k := Kn.chgK s.k Wy n } w4 ∧ base ≤ w4.heap.size ∧ w4.cell? ⟨kb, 247, none⟩ = some (.pointer (some ⟨s.A 2, 0, none⟩)) ∧ w4.cell? ⟨kb, n * 12 + 2, none⟩ = some (.int .i64 (s.k.p n).grp)) := Hid.intro (fun w4 t4 f4 => by
        have q := S1.out.1.drew.setGr t4 f4.std
        have e : ({ s.k with gr := Gr.chgT s.k.gr Wy (s.k.p n).grp 1 (rr : Int) } : Kp) = Kn.chgK s.k Wy n := by unfold Kn.chgK; rw [HRR.out]
        rw [e] at q
        refine ⟨q.1, S1.out.2.1.trans ((KF.drew _ _).trans q.2), Nat.le_trans S1.out.2.2 q.2.onl.size, ?_⟩
        rw [← HK.out]; exact ⟨q.1.cGr, q.1.cGrp n hn⟩)
      have HE : Hid (Kn.chgN s.k Wy n = Gr.chgE s.k.gr Wy (s.k.p n).grp 1 (rr : Int)) := Hid.intro (by unfold Kn.chgN; rw [HRR.out])
      obtain ⟨gz, hgz⟩ : ∃ gz, (s.k.p n).grp = gz := ⟨_, rfl⟩
      obtain ⟨g2, hg2⟩ : ∃ g2, s.A 2 = g2 := ⟨_, rfl⟩
      have HG := Hid.intro (And.intro hgz hg2)
      rw [hgz, hg2] at CG K0 A4
      rw [hgz] at HE
      obtain ⟨ce, hce⟩ : ∃ ce, Gr.chgE s.k.gr Wy gz 1 (rr : Int) = ce := ⟨_, rfl⟩
      rw [hce] at CG HE
      rw [show Gr.errV ce = errV ce from rfl] at CG
      clear hgz hg2 hce
      obtain ⟨y1, y2⟩ := K0.out
      go_region_held3 (fun w' => w'.cell? ⟨kb, 247, none⟩ = some (.pointer (some ⟨g2, 0, none⟩)) ∧ w'.cell? ⟨kb, n * 12 + 2, none⟩ = some (.int .i64 gz)) (first | exact K0.out | exact S4.out.2.2.2) (
        (go_at_call 31; refine CG.out.mono ?_; rintro e w4 ⟨rfl, t4, f4⟩; have S4 := Hid.intro (A4.out w4 t4 f4); clear t4 f4))
      clear K0 CG A4 y1 y2 S1
      by_cases e0 : ce = 0
      · subst e0
        rw [errV_zero]
        have VI1 : Hid (VI (fun _ => False) (N + 1) d (Kn.chgK s.k Wy n)) := Hid.intro ⟨(H.out.2.1.kj.mono (fun _ _ e => e) (Nat.le_succ N)).setGr ⟨Wy, Kn.chg_tree HW.out _ _ _ (by omega) (by have := RL.out; rw [HRR.out]; omega)⟩, H.out.2.1.iv, H.out.2.1.hs⟩
        have HM := Hid.intro (khome_any base (N + 1) d { s with k := Kn.chgK s.k Wy n } w4 n y own S4.out.1 S4.out.2.2.1 VI1.out hn HH.out.2)
        rw [show ({ s with k := Kn.chgK s.k Wy n } : St).A 0 = kb from HK.out] at HM
        go_wp2_with fail
        refine HM.out.mono ?_
        rintro e w5 ⟨s2, rfl, e2, k2, f2⟩
        have S5 : Hid (s2.k = Kn.homK (Kn.chgK s.k Wy n) n own ∧ KKt w5 base s2 ∧ KF s w s2 w5 ∧ base ≤ w5.heap.size ∧ s2.A 0 = kb) := Hid.intro ⟨e2, k2, S4.out.2.1.trans f2, Nat.le_trans S4.out.2.2.1 f2.onl.size, f2.a0.trans HK.out⟩
        clear e2 k2 f2 HM
        have HE2 : Hid (Kn.homE ({ s with k := Kn.chgK s.k Wy n } : St).k n own = Kn.homE (Kn.chgK s.k Wy n) n own) := Hid.intro rfl
        obtain ⟨he, hhe⟩ : ∃ he, Kn.homE ({ s with k := Kn.chgK s.k Wy n } : St).k n own = he := ⟨_, rfl⟩
        obtain ⟨hz, hhz⟩ : ∃ hz, Kn.homN ({ s with k := Kn.chgK s.k Wy n } : St).k n own = hz := ⟨_, rfl⟩
        have HHE : Hid (Kn.homE (Kn.chgK s.k Wy n) n own = he ∧ Kn.homN (Kn.chgK s.k Wy n) n own = hz) := Hid.intro ⟨hhe, hhz⟩
        rw [hhe, hhz]
        clear hhe hhz HE2
        by_cases h0 : he = 0
        · subst h0
          rw [errV_zero]
          have P2 : Hid (s2.k.p = s.k.p ∧ s2.k.bk = s.k.bk ∧ s2.k.fi = s.k.fi ∧ s2.k.sc = s.k.sc) := Hid.intro (by rw [S5.out.1]; exact Kn.homK_p _ n own)
          have CH := Hid.intro (kchild_any base s2 w5 n S5.out.2.1 hn (by rw [P2.out.1]; exact HH.out.1) (by rw [P2.out.1, P2.out.2.1]; exact H.out.2.1.kj.me) (fun f hf => by
            rw [P2.out.2.2.1]
            have := H.out.2.1.kj.rf f hf
            have := H.out.2.2.2
            have e1 : (2 : Nat) ^ 50 = 1125899906842624 := by decide
            omega))
          rw [S5.out.2.2.2.2] at CH
          have INV : Hid (∃ d2, Sp.Inv s2.k.sp d2) := Hid.intro (by
            rw [S5.out.1]
            cases own
            · rw [(Kn.homK_no _ n).1]; exact ⟨d, VI1.out.iv⟩
            · have iz : Sp.inN (Kn.chgK s.k Wy n).sp (n : Int) = y := Sp.inN_of hn HH.out.2
              have ea : Sp.addE (Kn.chgK s.k Wy n).sp (y : Int) = 0 := by have := HHE.out.1; unfold Kn.homE at this; rw [if_pos rfl, iz] at this; exact this
              rw [(Kn.homK_own iz ea rfl).1]
              exact (VI1.out.kj.opn ea rfl).sp)
          go_wp2_with fail
          refine CH.out.mono ?_
          rintro e w6 ⟨mb, bb, rfl, k6, f6, um, ub, lm, lb, mn⟩
          obtain ⟨d2, hd2⟩ := INV.out
          have LT : Hid (∀ i, us { s2 with k := Kn.copK s2.k n } i → s2.A i < w5.heap.size) := Hid.intro (fun i hi => S5.out.2.1.lt (Kn.us_cop hi))
          have ST := Hid.intro (kstart_any base { s2 with k := Kn.copK s2.k n } w6 c mb bb (Kn.chP s2.k n) (hz : Int) d2 k6 c20 (by rw [(Kn.cop_same s2.k n).1]; exact hd2) (by rw [(Kn.cop_same s2.k n).2.1, P2.out.2.2.2]; exact H.out.2.1.kj.si) um ub (fun i hi => by have := LT.out i hi; show s2.A i ≠ mb; omega) (fun i hi => by have := LT.out i hi; show s2.A i ≠ bb; omega) mn (by have := S5.out.2.2.2.1; omega) (by have := S5.out.2.2.2.1; omega))
          rw [show ({ s2 with k := Kn.copK s2.k n } : St).A 0 = kb from S5.out.2.2.2.2] at ST
          have S6 : Hid (KF s w { s2 with k := Kn.copK s2.k n } w6 ∧ w5.heap.size ≤ mb ∧ w5.heap.size ≤ bb ∧ w.heap.size ≤ w5.heap.size) := Hid.intro ⟨S5.out.2.2.1.trans f6, lm, lb, S5.out.2.2.1.onl.size⟩
          obtain ⟨PA, hPA⟩ : ∃ PA, prA mb bb (Kn.chP s2.k n) = PA := ⟨_, rfl⟩
          rw [hPA] at ST ⊢
          clear k6 f6 um ub lm lb mn hPA CH
          go_wp2_with fail
          refine ST.out.mono ?_
          rintro e w7 ⟨m', rfl, wk, k7, o7⟩
          have S7 : Hid (Fa.Fr.WakeTo (Fa.Fr.addTaskM (Kn.homK (Kn.chgK s.k Wy n) n own).sc (c : Int) (s.k.p n).grp 100) (c : Int) true m' ∧ KKt w7 base { Kn.bornA { s2 with k := Kn.copK s2.k n } c mb bb (Kn.chP s2.k n) with k := Kn.staK (Kn.copK (Kn.homK (Kn.chgK s.k Wy n) n own) n) c (Kn.chP (Kn.homK (Kn.chgK s.k Wy n) n own) n) (hz : Int) m' } ∧ KF s w { Kn.bornA { s2 with k := Kn.copK s2.k n } c mb bb (Kn.chP s2.k n) with k := Kn.staK (Kn.copK (Kn.homK (Kn.chgK s.k Wy n) n own) n) c (Kn.chP (Kn.homK (Kn.chgK s.k Wy n) n own) n) (hz : Int) m' } w7) := Hid.intro (by
            have w2 : Fa.Fr.WakeTo (Fa.Fr.addTaskM (Kn.copK s2.k n).sc (c : Int) (s2.k.p n).grp 100) (c : Int) true m' := wk
            rw [(Kn.cop_same s2.k n).2.1, P2.out.1, S5.out.1] at w2
            have k8 : KKt w7 base { Kn.bornA { s2 with k := Kn.copK s2.k n } c mb bb (Kn.chP s2.k n) with k := Kn.staK (Kn.copK s2.k n) c (Kn.chP s2.k n) (hz : Int) m' } := k7
            have f8 : KF s w { Kn.bornA { s2 with k := Kn.copK s2.k n } c mb bb (Kn.chP s2.k n) with k := Kn.staK (Kn.copK s2.k n) c (Kn.chP s2.k n) (hz : Int) m' } w7 := by
              refine ⟨⟨o7.os.trans S6.out.1.onl.os, o7.tape.trans S6.out.1.onl.tape, o7.output.trans S6.out.1.onl.output, Nat.le_trans S6.out.1.onl.size o7.size, fun b hb hc => (o7.block b (Nat.lt_of_lt_of_le hb S6.out.1.onl.size) (fun q => (S6.out.1.sub b q).elim hc (fun q => by omega))).trans (S6.out.1.onl.block b hb hc)⟩, fun b ⟨i, hi, eb⟩ => ?_, (Kn.bornA_o { s2 with k := Kn.copK s2.k n } c mb bb (Kn.chP s2.k n) (i := 0) (by omega) (by omega)).trans S6.out.1.a0⟩
              have hi2 : us (Kn.bornA { s2 with k := Kn.copK s2.k n } c mb bb (Kn.chP s2.k n)) i := hi
              rcases Kn.us_born hi2 with rfl | rfl | ⟨ui, i1, i2⟩
              · exact .inr (by rw [eb, show ({ Kn.bornA { s2 with k := Kn.copK s2.k n } c mb bb (Kn.chP s2.k n) with k := Kn.staK (Kn.copK s2.k n) c (Kn.chP s2.k n) (hz : Int) m' } : St).A (9 + c) = mb from Kn.bornA_m { s2 with k := Kn.copK s2.k n } c mb bb (Kn.chP s2.k n)]; have := S6.out.2; omega)
              · exact .inr (by rw [eb, show ({ Kn.bornA { s2 with k := Kn.copK s2.k n } c mb bb (Kn.chP s2.k n) with k := Kn.staK (Kn.copK s2.k n) c (Kn.chP s2.k n) (hz : Int) m' } : St).A (29 + c) = bb from Kn.bornA_b { s2 with k := Kn.copK s2.k n } c mb bb (Kn.chP s2.k n)]; have := S6.out.2; omega)
              · exact S6.out.1.sub b ⟨i, ui, eb.trans (Kn.bornA_o { s2 with k := Kn.copK s2.k n } c mb bb (Kn.chP s2.k n) i1 i2)⟩
            rw [S5.out.1] at k8 f8
            rw [S5.out.1]
            exact ⟨w2, k8, f8⟩)
          obtain ⟨s3, hs3⟩ : ∃ s3 : St, ({ Kn.bornA { s2 with k := Kn.copK s2.k n } c mb bb (Kn.chP s2.k n) with k := Kn.staK (Kn.copK (Kn.homK (Kn.chgK s.k Wy n) n own) n) c (Kn.chP (Kn.homK (Kn.chgK s.k Wy n) n own) n) (hz : Int) m' } : St) = s3 := ⟨_, rfl⟩
          have HS3 : Hid (s3.k = Kn.staK (Kn.copK (Kn.homK (Kn.chgK s.k Wy n) n own) n) c (Kn.chP (Kn.homK (Kn.chgK s.k Wy n) n own) n) (hz : Int) m' ∧ s3.A 0 = kb) := Hid.intro (by
            rw [← hs3]
            exact ⟨rfl, (Kn.bornA_o { s2 with k := Kn.copK s2.k n } c mb bb (Kn.chP s2.k n) (i := 0) (by omega) (by omega)).trans S5.out.2.2.2.2⟩)
          rw [hs3] at S7
          clear hs3 wk k7 o7 ST S6 LT
          have W0 : Hid (∀ q, q < 6 → s3.k.sp.who q 0 = 0) := Hid.intro (by
            rw [HS3.out.1]
            have q : Sp.Inv (Sp.entT (Kn.copK (Kn.homK (Kn.chgK s.k Wy n) n own) n).sp (hz : Int) (c : Int)) d2 := by
              rw [(Kn.cop_same _ n).1, ← S5.out.1]; exact hd2.enter _ _
            exact q.who0)
          have SP := Hid.intro (kspace_any base s3 w7 (n : Int) S7.out.2.1)
          have PI := Hid.intro (kpid_any base s3 w7 (c : Int) ((Sp.inN s3.k.sp (n : Int) : Nat) : Int) S7.out.2.1 W0.out)
          rw [HS3.out.2] at SP PI
          obtain ⟨pp, hpp⟩ : ∃ pp, Sp.pidN s3.k.sp (c : Int) ((Sp.inN s3.k.sp (n : Int) : Nat) : Int) = pp := ⟨_, rfl⟩
          have HPP := Hid.intro hpp
          rw [hpp] at PI
          generalize Sp.inN s3.k.sp (n : Int) = ss at SP PI
          clear hpp hd2
          go_wp2_with fail
          refine SP.out.mono ?_
          rintro e w8 ⟨rfl, hw⟩
          subst w8
          go_wp2_with fail
          refine PI.out.mono ?_
          rintro e w8 ⟨rfl, hw⟩
          subst w8
          go_wp2_with fail
          go_ret2
          refine ⟨pp, 0, s3, by rw [errV_zero]; rfl, .inr ⟨HA.out.1, n, c, 0, Wy, rfl, hn, HF.out, HW.out.ways, .inr (.inr (.inr ⟨rfl, HE.out, HHE.out.1, rfl, m', S7.out.1, by rw [HHE.out.2]; exact HS3.out.1, HPP.out.symm⟩))⟩, S7.out.2⟩
        · have E2 : Hid (s2.k = Kn.chgK s.k Wy n) := Hid.intro (by
            rw [S5.out.1]
            unfold Kn.homK
            rw [if_neg (fun q => h0 (by rw [← HHE.out.1]; exact q.2))])
          have HEV := Hid.intro (And.intro h0 (errV_ne h0))
          rw [errV_ne h0]
          clear h0
          go_upto_region 13 with fail
          have K0 : Hid (w5.cell? ⟨kb, 247, none⟩ = some (.pointer (some ⟨s2.A 2, 0, none⟩)) ∧ w5.cell? ⟨kb, n * 12 + 2, none⟩ = some (.int .i64 gz)) := Hid.intro (by
            have q := S5.out.2.1.cGrp n hn
            rw [E2.out] at q
            have q2 : w5.cell? ⟨s2.A 0, n * 12 + 2, none⟩ = some (.int .i64 (s.k.p n).grp) := q
            rw [← S5.out.2.2.2.2, ← HG.out.1]; exact ⟨S5.out.2.1.cGr, q2⟩)
          have CG := Hid.intro (Gr.uncharge_any (s2.A 2) gz 1 (rr : Int) s2.k.gr w5.drew S5.out.2.1.drew.gr (by rw [E2.out]; obtain ⟨Wy2, g⟩ := VI1.out.kj.gr; exact g.small (by have := H.out.2.2.2; omega)))
          have A4 : Hid (∀ w6, Gr.TAt w6 (s2.A 2) (Gr.uncT s2.k.gr gz 1 (rr : Int)) → Gr.Frm (s2.A 2) w5.drew w6 → KKt w6 base { s2 with k := { s2.k with gr := Gr.uncT s2.k.gr gz 1 (rr : Int) } } ∧ KF s w { s2 with k := { s2.k with gr := Gr.uncT s2.k.gr gz 1 (rr : Int) } } w6 ∧ w6.cell? ⟨kb, 247, none⟩ = some (.pointer (some ⟨s2.A 2, 0, none⟩)) ∧ w6.cell? ⟨kb, n * 12 + 2, none⟩ = some (.int .i64 gz)) := Hid.intro (fun w6 t4 f4 => by
            have q := S5.out.2.1.drew.setGr t4 f4.std
            have q3 := q.1.cGrp n hn
            have q2 : w6.cell? ⟨s2.A 0, n * 12 + 2, none⟩ = some (.int .i64 (s2.k.p n).grp) := q3
            rw [E2.out] at q2
            have q4 : w6.cell? ⟨s2.A 0, n * 12 + 2, none⟩ = some (.int .i64 (s.k.p n).grp) := q2
            refine ⟨q.1, S5.out.2.2.1.trans ((KF.drew _ _).trans q.2), ?_⟩
            rw [← S5.out.2.2.2.2, ← HG.out.1]; exact ⟨q.1.cGr, q4⟩)
          obtain ⟨g3, hg3⟩ : ∃ g3, s2.A 2 = g3 := ⟨_, rfl⟩
          rw [hg3] at CG K0 A4
          generalize Gr.errV (Gr.uncE s2.k.gr gz 1 (rr : Int)) = uv at CG
          clear hg3
          obtain ⟨y1, y2⟩ := K0.out
          go_region_held3 (fun w' => w'.cell? ⟨kb, 247, none⟩ = some (.pointer (some ⟨g3, 0, none⟩)) ∧ w'.cell? ⟨kb, n * 12 + 2, none⟩ = some (.int .i64 gz)) (first | exact K0.out | exact S6.out.2.2) (
            (go_at_call 33; refine CG.out.mono ?_; rintro e w6 ⟨rfl, t4, f4⟩; have S6 := Hid.intro (A4.out w6 t4 f4); clear t4 f4))
          clear K0 CG A4 y1 y2
          go_wp2_with fail
          go_ret2
          refine ⟨0, he, _, by rw [HEV.out.2]; rfl, .inr ⟨HA.out.1, n, c, 0, Wy, rfl, hn, HF.out, HW.out.ways, .inr (.inr (.inl ⟨rfl, HE.out, by rw [HHE.out.1]; exact HEV.out.1, HHE.out.1.symm, rfl, ?_⟩))⟩, S6.out.1, S6.out.2.1⟩
          show ({ s2.k with gr := Gr.uncT s2.k.gr gz 1 (rr : Int) } : Kp) = _
          rw [E2.out, HRR.out, HG.out.1]
      · have E0 : Hid (Kn.chgK s.k Wy n = s.k) := Hid.intro (by
          have q : Gr.chgE s.k.gr Wy (s.k.p n).grp 1 (Mv.resK (s.k.p n).mem 16 : Int) ≠ 0 := by have := HE.out; unfold Kn.chgN at this; rw [this]; exact e0
          exact Kn.chgK_no q)
        have HEV := Hid.intro (And.intro e0 (errV_ne e0))
        rw [errV_ne e0]
        clear e0
        go_wp2_with fail
        go_ret2
        refine ⟨0, ce, s, by rw [HEV.out.2]; rfl, .inr ⟨HA.out.1, n, c, 0, Wy, rfl, hn, HF.out, HW.out.ways, .inr (.inl ⟨rfl, by rw [HE.out]; exact HEV.out.1, HE.out.symm, rfl, rfl⟩)⟩, ?_⟩
        have q := And.intro S4.out.1 S4.out.2.1
        rw [E0.out] at q
        exact q
    · have HEV := Hid.intro (And.intro f0 (errV_ne f0))
      rw [errV_ne f0]
      clear f0
      go_wp2_with fail
      go_ret2
      exact ⟨0, F, s, by rw [HEV.out.2]; rfl, .inr ⟨HA.out.1, n, c, F, Wy, rfl, hn, HF.out, HW.out.ways, .inl ⟨HEV.out.1, rfl, rfl, rfl⟩⟩, H.out.1, KF.refl _ _⟩
  · have FIN : Hid (Kn.ForTo s.k z own 0 (Kn.actE s.k z) s.k) := Hid.intro (.inl ⟨a, rfl, rfl, rfl⟩)
    have HE := Hid.intro (errV_ne a)
    rw [errV_ne a] at AC
    clear h hv hb a
    generalize aptE (s.A 0) z (Kn.actE s.k z) = ap at *
    rw [hkb] at AC ⊢
    clear hkb
    go_enter Tryz.func9, Tryz.ntmps9
    go_wp2_with fail
    refine AC.out.mono ?_
    rintro e w1 ⟨rfl, hw⟩
    subst w1
    go_wp2_with fail
    go_ret2
    exact ⟨0, Kn.actE s.k z, s, by rw [HE.out]; rfl, FIN.out, H.out.1, KF.refl _ _⟩
end
end Go.Proofs.YtghogbngmcolmaaGreat
namespace Go.Proofs.YtghogbngmcolmaaGreat
open Go.RowKit
open Tr (Fo Nd)
open Mo (Wh Mt)
open Mv (Me Bk)
open Kn (Pr Kp St us KB KJ VI EI)
theorem PB.setFd {w : World} {c a b : Nat} {x : Pr} (h : PB w c a b x) {f : Nat} (hf : f < 6) (v : Int) : PB (w.setCell ⟨c, 6 + f, none⟩ (.int .i64 v)) c a b { x with fd := fun i => if i = f then v else x.fd i } := h.set (by omega) (fun j hj => by
  unfold Kn.pcx
  by_cases e : j = 6 + f
  · rw [if_pos e, if_neg (by omega), if_neg (by omega), if_neg (by omega), if_neg (by omega), if_neg (by omega), if_neg (by omega)]
    simp [show j - 6 = f by omega]
  · rw [if_neg e]
    by_cases d : j < 6
    · have q : j = 0 ∨ j = 1 ∨ j = 2 ∨ j = 3 ∨ j = 4 ∨ j = 5 := by omega
      rcases q with rfl | rfl | rfl | rfl | rfl | rfl <;> rfl
    · rw [if_neg (by omega), if_neg (by omega), if_neg (by omega), if_neg (by omega), if_neg (by omega), if_neg (by omega)]
      simp [show j - 6 ≠ f by omega, show j ≠ 0 by omega, show j ≠ 1 by omega, show j ≠ 2 by omega, show j ≠ 3 by omega, show j ≠ 4 by omega, show j ≠ 5 by omega])
def Kn.frP (j : Nat) : Pr := ⟨1, -1, 0, 0, fun i => if i < j then -1 else 0, true, Mv.me0, Sg.nul⟩
theorem Kn.frP_next (j : Nat) : ({ Kn.frP j with fd := fun i => if i = j then -1 else (Kn.frP j).fd i } : Pr) = Kn.frP (j + 1) := by
  have key : (fun i => if i = j then (-1 : Int) else (Kn.frP j).fd i) = (Kn.frP (j + 1)).fd := funext fun i => by
    show _ = if i < j + 1 then (-1 : Int) else 0
    by_cases e : i = j
    · rw [if_pos e, if_pos (by omega)]
    · rw [if_neg e]
      show (if i < j then (-1 : Int) else 0) = _
      by_cases c : i < j
      · rw [if_pos c, if_pos (by omega)]
      · rw [if_neg c, if_neg (by omega)]
  rw [key]
  rfl
theorem prA_fr (a b : Nat) : prA a b (Kn.frP 0) = #[.int .i64 1, .int .i64 (-1), .int .i64 0, .int .i64 0, .pointer (some ⟨a, 0, none⟩), .pointer (some ⟨b, 0, none⟩), .int .i64 0, .int .i64 0, .int .i64 0, .int .i64 0, .int .i64 0, .int .i64 0] := rfl
structure FO (w : World) (r rb c mb bb j : Nat) (W : World) : Prop where
  pb : PB W c mb bb (Kn.frP j)
  rs : PB W rb 0 0 Pr.no
  um : UAt W mb r Mv.me0
  ub : CX W bb Sg.nul
  bl : Below w.heap.size w W
  ge : w.heap.size ≤ rb ∧ w.heap.size ≤ c ∧ w.heap.size ≤ mb ∧ w.heap.size ≤ bb
  ne : mb ≠ bb ∧ rb ≠ c ∧ rb ≠ mb ∧ rb ≠ bb ∧ c ≠ mb ∧ c ≠ bb
theorem FO.next {w : World} {r rb c mb bb j : Nat} {W : World} (h : FO w r rb c mb bb j W) (hj : j < 6) : FO w r rb c mb bb (j + 1) (W.setCell ⟨c, 6 + j, none⟩ (.int .i64 (-1))) := by
  have fr : Frm c W (W.setCell ⟨c, 6 + j, none⟩ (.int .i64 (-1))) := (Frm.refl _ _).setCell _ _
  have n := h.ne
  have g := h.ge
  refine ⟨by rw [← Kn.frP_next]; exact h.pb.setFd hj _, h.rs.same (fr.block _ h.rs.lt (by omega)), h.um.same (fr.block _ h.um.lt (by omega)), h.ub.same (fr.block _ h.ub.lt (by omega)), fr.below h.bl g.2.1 (by have := h.bl.size; omega), g, n⟩
theorem boxF_new (w : World) : CX (w.alloc (.cells (boxA Sg.nul) 157)) w.heap.size Sg.nul ∧ Below w.heap.size w (w.alloc (.cells (boxA Sg.nul) 157)) :=
  ⟨CX.of_blk (heap_alloc_new w _), (Below.refl _ _).alloc (Nat.le_refl _) _⟩
set_option maxRecDepth 100000 in
set_option maxHeartbeats 2000000 in
theorem kfirst_any (kb r : Nat) (w : World) (hc : w.cell? ⟨kb, 249, none⟩ = some (.pointer (some ⟨r, 0, none⟩))) (hk : kb < w.heap.size) :
    Calls Tryz.prog 60 #[.pointer (some ⟨kb, 0, none⟩)] w fun e w' => ∃ mb bb, e = .returned (.agg (prA mb bb (Kn.frP 6))) ∧ UAt w' mb r Mv.me0 ∧ CX w' bb Sg.nul ∧ Below w.heap.size w w' ∧ w.heap.size ≤ mb ∧ w.heap.size ≤ bb ∧ mb ≠ bb := by
  have b0 : Below w.heap.size w (w.alloc (.cells #[.int .i64 0, .int .i64 0, .int .i64 0, .int .i64 0, .pointer none, .pointer none, .int .i64 0, .int .i64 0, .int .i64 0, .int .i64 0, .int .i64 0, .int .i64 0] 65)) := (Below.refl _ _).alloc (Nat.le_refl _) _
  have c0 : (w.alloc (.cells #[.int .i64 0, .int .i64 0, .int .i64 0, .int .i64 0, .pointer none, .pointer none, .int .i64 0, .int .i64 0, .int .i64 0, .int .i64 0, .int .i64 0, .int .i64 0] 65)).cell? ⟨kb, 249, none⟩ = some (.pointer (some ⟨r, 0, none⟩)) := (World.cell?_of_block (b0.block kb hk)).trans hc
  have R0 : Hid (PB (w.alloc (.cells #[.int .i64 0, .int .i64 0, .int .i64 0, .int .i64 0, .pointer none, .pointer none, .int .i64 0, .int .i64 0, .int .i64 0, .int .i64 0, .int .i64 0, .int .i64 0] 65)) w.heap.size 0 0 Pr.no ∧ Below w.heap.size w (w.alloc (.cells #[.int .i64 0, .int .i64 0, .int .i64 0, .int .i64 0, .pointer none, .pointer none, .int .i64 0, .int .i64 0, .int .i64 0, .int .i64 0, .int .i64 0, .int .i64 0] 65))) := Hid.intro ⟨by unfold PB; rw [prA_no]; exact heap_alloc_new w _, b0⟩
  clear b0 hc
  go_enter Tryz.func60, Tryz.ntmps60
  go_wp2_with fail
  refine (vnew_any r _).mono ?_
  rintro e w1 ⟨rfl, u1, b1⟩
  rw [show (w.alloc (.cells #[.int .i64 0, .int .i64 0, .int .i64 0, .int .i64 0, .pointer none, .pointer none, .int .i64 0, .int .i64 0, .int .i64 0, .int .i64 0, .int .i64 0, .int .i64 0] 65)).heap.size = w.heap.size + 1 by simp] at u1 b1 ⊢
  have S1 : Hid (PB w1 w.heap.size 0 0 Pr.no ∧ UAt w1 (w.heap.size + 1) r Mv.me0 ∧ Below w.heap.size w w1) := Hid.intro ⟨R0.out.1.same (b1.block _ (by omega)), u1, R0.out.2.trans (b1.mono (by omega))⟩
  clear u1 b1 R0 c0
  obtain ⟨rb, hrb⟩ : ∃ rb, w.heap.size = rb := ⟨_, rfl⟩
  have HR := Hid.intro hrb
  rw [hrb] at S1 ⊢
  clear hrb
  go_upto_region 2 with (refine wp_buildBox0 rfl rfl ?_)
  have F0 : Hid (FO w r rb (w1.heap.size + 1) (rb + 1) w1.heap.size 0 ((w1.alloc (.cells (boxA Sg.nul) 157)).alloc (.cells #[.int .i64 1, .int .i64 (-1), .int .i64 0, .int .i64 0, .pointer (some ⟨rb + 1, 0, none⟩), .pointer (some ⟨w1.heap.size, 0, none⟩), .int .i64 0, .int .i64 0, .int .i64 0, .int .i64 0, .int .i64 0, .int .i64 0] 65))) := Hid.intro (by
    have l1 := S1.out.2.1.lt
    have bx := boxF_new w1
    have bz : (w1.alloc (.cells (boxA Sg.nul) 157)).heap.size = w1.heap.size + 1 := by simp
    have b2 : Below (w1.alloc (.cells (boxA Sg.nul) 157)).heap.size (w1.alloc (.cells (boxA Sg.nul) 157)) ((w1.alloc (.cells (boxA Sg.nul) 157)).alloc (.cells #[.int .i64 1, .int .i64 (-1), .int .i64 0, .int .i64 0, .pointer (some ⟨rb + 1, 0, none⟩), .pointer (some ⟨w1.heap.size, 0, none⟩), .int .i64 0, .int .i64 0, .int .i64 0, .int .i64 0, .int .i64 0, .int .i64 0] 65)) := (Below.refl _ _).alloc (Nat.le_refl _) _
    have b3 := bx.2.trans (b2.mono (by omega))
    have N := heap_alloc_new (w1.alloc (.cells (boxA Sg.nul) 157)) (.cells #[.int .i64 1, .int .i64 (-1), .int .i64 0, .int .i64 0, .pointer (some ⟨rb + 1, 0, none⟩), .pointer (some ⟨w1.heap.size, 0, none⟩), .int .i64 0, .int .i64 0, .int .i64 0, .int .i64 0, .int .i64 0, .int .i64 0] 65)
    rw [bz] at N
    have bb0 : Below w.heap.size w w1 := by rw [HR.out]; exact S1.out.2.2
    exact ⟨by unfold PB; rw [prA_fr]; exact N, S1.out.1.same (b3.block _ S1.out.1.lt), S1.out.2.1.below b3, bx.1.below b2 (by omega), bb0.trans (b3.mono bb0.size), by rw [HR.out]; omega, by omega⟩)
  generalize (w1.alloc (.cells (boxA Sg.nul) 157)).alloc (.cells #[.int .i64 1, .int .i64 (-1), .int .i64 0, .int .i64 0, .pointer (some ⟨rb + 1, 0, none⟩), .pointer (some ⟨w1.heap.size, 0, none⟩), .int .i64 0, .int .i64 0, .int .i64 0, .int .i64 0, .int .i64 0, .int .i64 0] 65) = W2 at F0 ⊢
  obtain ⟨mb, hmb⟩ : ∃ mb, rb + 1 = mb := ⟨_, rfl⟩
  obtain ⟨c, hcc⟩ : ∃ c, w1.heap.size + 1 = c := ⟨_, rfl⟩
  obtain ⟨bb, hbb⟩ : ∃ bb, w1.heap.size = bb := ⟨_, rfl⟩
  rw [hmb, hcc, hbb] at F0 ⊢
  clear S1 hmb hcc hbb
  go_wp2_with fail
  go_loopw [4, 13] (fun _ i wr => ∃ (j : Nat), i = .int .i64 j ∧ j ≤ 6 ∧ Hid (FO w r rb c mb bb j wr)) (fun _ i _ => 6 - (intOf i).toNat)
  case atStart => exact ⟨0, rfl, by omega, F0⟩
  case round =>
    clear F0
    obtain ⟨j, rfl, hj6, S⟩ := hrel
    by_cases hlt : j < 6
    · have hltI : (j : Int) < 6 := by omega
      have y1 := S.out.pb.cell (6 + j) (by omega)
      have yf := S.out.pb.frozen
      generalize Kn.pcx mb bb (Kn.frP j) (6 + j) = pv at y1
      have S1 := Hid.intro (S.out.next hlt)
      go_wp2_with fail
      go_roundw
      case rel => exact ⟨j + 1, by go_num, by omega, S1⟩
      case measure => simp [intOf]; omega
    · obtain rfl : j = 6 := by omega
      obtain ⟨B, hB⟩ : ∃ B, prA mb bb (Kn.frP 6) = B := ⟨_, rfl⟩
      have RG : Hid (wr.rangeAt c 0 B.toList) := Hid.intro (by rw [← hB]; exact S.out.pb.range)
      have SL : Hid ((Tryz.prog.info? 65).map (·.size) = some B.toList.length) := Hid.intro (by rw [← hB, Array.length_toList, prA_size]; kernel_rfl)
      have SZ : Hid ((Tryz.prog.info? 65).map (·.size) = some B.size) := Hid.intro (by rw [← hB, prA_size]; kernel_rfl)
      have TH : Hid (wr.there rb 0 B.size) := Hid.intro (by rw [← hB, prA_size]; exact S.out.rs.there)
      have H1 : Hid (B.all (·.oneCell') = true) := Hid.intro (by rw [← hB]; exact prA_one _ _ _)
      have F6 : Hid (PB (wr.setCells rb 0 B.toList) rb mb bb (Kn.frP 6) ∧ UAt (wr.setCells rb 0 B.toList) mb r Mv.me0 ∧ CX (wr.setCells rb 0 B.toList) bb Sg.nul ∧ Below w.heap.size w (wr.setCells rb 0 B.toList)) := Hid.intro (by
        have fr : Frm rb wr (wr.setCells rb 0 B.toList) := Frm.setCells _ _ (Frm.refl _ _)
        have q := S.out
        exact ⟨by rw [← hB]; exact q.rs.put _ _ _, q.um.same (fr.block _ q.um.lt (by have := q.ne; omega)), q.ub.same (fr.block _ q.ub.lt (by have := q.ne; omega)), fr.below q.bl q.ge.1 q.bl.size⟩)
      have GE := Hid.intro (And.intro S.out.ge S.out.ne)
      clear hB S
      go_wp2_with (first | (refine wpList_load_mid rfl 65 _ rfl c 0 rfl B.toList _ RG.out Tryz.underlying65 rfl SL.out ?_; rw [Array.toArray_toList]) | (refine wpList_store_mid rfl 65 _ _ rfl rb 0 B rfl rfl TH.out SZ.out H1.out ?_))
      generalize wr.setCells rb 0 B.toList = WF at F6 ⊢
      have g0 := F6.out.1.cell 0 (by omega)
      have g1 := F6.out.1.cell 1 (by omega)
      have g2 := F6.out.1.cell 2 (by omega)
      have g3 := F6.out.1.cell 3 (by omega)
      have g4 := F6.out.1.cell 4 (by omega)
      have g5 := F6.out.1.cell 5 (by omega)
      have g6 := F6.out.1.cell 6 (by omega)
      have g7 := F6.out.1.cell 7 (by omega)
      have g8 := F6.out.1.cell 8 (by omega)
      have g9 := F6.out.1.cell 9 (by omega)
      have g10 := F6.out.1.cell 10 (by omega)
      have g11 := F6.out.1.cell 11 (by omega)
      (try simp only [Exit.then])
      refine bodyPost_ret (v := .agg #[Kn.pcx mb bb (Kn.frP 6) 0, Kn.pcx mb bb (Kn.frP 6) 1, Kn.pcx mb bb (Kn.frP 6) 2, Kn.pcx mb bb (Kn.frP 6) 3, Kn.pcx mb bb (Kn.frP 6) 4, Kn.pcx mb bb (Kn.frP 6) 5, Kn.pcx mb bb (Kn.frP 6) 6, Kn.pcx mb bb (Kn.frP 6) 7, Kn.pcx mb bb (Kn.frP 6) 8, Kn.pcx mb bb (Kn.frP 6) 9, Kn.pcx mb bb (Kn.frP 6) 10, Kn.pcx mb bb (Kn.frP 6) 11]) (by simp [results, Tryz.f60, go_sem, g0, g1, g2, g3, g4, g5, g6, g7, g8, g9, g10, g11]) rfl ?_
      exact ⟨mb, bb, rfl, F6.out.2.1, F6.out.2.2.1, F6.out.2.2.2, GE.out.1.2.2.1, GE.out.1.2.2.2, GE.out.2.1⟩
end Go.Proofs.YtghogbngmcolmaaGreat

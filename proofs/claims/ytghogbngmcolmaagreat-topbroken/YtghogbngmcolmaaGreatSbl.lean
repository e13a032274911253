import Derived.Test.YtghogbngmcolmaaGreatSbk
namespace Go.Proofs.YtghogbngmcolmaaGreat
open Go.RowKit
open Fx (Fi)
open Tr (Fo Nd)
open Pp (Pi)
open Mo (Wh Mt)
open Mv (Me Bk)
open Kn (Pr Kp St us KB KJ VI EI KH TT)
namespace Kn
def GL (k k' : Kp) : Prop := ∀ g, (k'.gr g).lp = (k.gr g).lp ∧ (k'.gr g).lq = (k.gr g).lq
theorem addO_l (t : Nat → Gr.Gp) (n : Nat) (p q : Int) (g : Nat) : (Gr.addO t n p q g).lp = (t g).lp ∧ (Gr.addO t n p q g).lq = (t g).lq := by
  unfold Gr.addO
  by_cases c : g = n
  · subst c; rw [Gr.updT_same]; exact ⟨rfl, rfl⟩
  · rw [Gr.updT_ne _ _ _ _ c]; exact ⟨rfl, rfl⟩
theorem uncT_l (t : Nat → Gr.Gp) (n p q : Int) (g : Nat) : (Gr.uncT t n p q g).lp = (t g).lp ∧ (Gr.uncT t n p q g).lq = (t g).lq := by
  unfold Gr.uncT
  split
  · exact addO_l _ _ _ _ _
  · exact ⟨rfl, rfl⟩
theorem chgT_l (t : Nat → Gr.Gp) (Wy : Nat → List (Fin 10)) (n p q : Int) (g : Nat) : (Gr.chgT t Wy n p q g).lp = (t g).lp ∧ (Gr.chgT t Wy n p q g).lq = (t g).lq := by
  unfold Gr.chgT
  split
  · exact addO_l _ _ _ _ _
  · exact ⟨rfl, rfl⟩
section
variable {N : Nat} {d : Nat → Nat} {k k' k1 : Kp} {n : Nat}
theorem strF_gr (k : Kp) (n : Nat) (fd : Nat → Int) : ∀ j, (strF k n fd j).gr = k.gr
  | 0 => rfl
  | j + 1 => by
    show (if fd j = -1 then strF k n fd j else fdK (cloK (strF k n fd j) (fd j)) n j (-1) : Kp).gr = _
    split
    · exact strF_gr k n fd j
    · exact strF_gr k n fd j
theorem StrTo.gl (h : StrTo k n k1) : GL k k1 := by
  obtain ⟨m', _, rfl⟩ := h
  intro g
  show ((strF (unmK k n 0 16) n (k.p n).fd 6).gr g).lp = _ ∧ ((strF (unmK k n 0 16) n (k.p n).fd 6).gr g).lq = _
  rw [strF_gr]
  unfold unmK
  split
  · exact uncT_l _ _ _ _ _
  · exact ⟨rfl, rfl⟩
structure EN (k : Kp) (n : Nat) (c : Int) (k' : Kp) : Prop where
  sp : k'.sp = k.sp
  gl : GL k k'
  ot : ∀ m, m ≠ n → (k'.p m).st = (k.p m).st ∧ (k'.p m).has = (k.p m).has ∧ (k'.p m).grp = (k.p m).grp ∧ (k'.p m).code = (k.p m).code ∧ (m ≠ 0 → (k'.p m).box = (k.p m).box) ∧ ((k'.p m).par = (k.p m).par ∨ (k'.p m).par = 0)
  me : (k'.p n).st = 2 ∧ (k'.p n).code = c ∧ (k'.p n).grp = (k.p n).grp ∧ ((k'.p n).par = (k.p n).par ∨ (k'.p n).par = 0)
theorem EndTo.plain (iv : Sp.Inv k.sp d) (hs : Sp.HDs k.sp) (hn : n < 20) (n0 : n ≠ 0) (o : k.sp.of n = 1) {c : Int} {z : Nat} (hz : z = 0) {q : Nat} (q0 : q = 0) (e : EndTo k n c z q k') : EN k n c k' := by
  subst hz q0
  obtain ⟨k1, k3, s1, mt, rfl⟩ := e
  have sp := s1.sp.1
  have here0 : k.sp.here 0 = true := iv.tree.root.1
  have w1 := hs.r0.2
  have hd0 : hd k n ≠ n := by
    have e := (hd_eq iv hs hn o)
    intro x
    have := e.1 x
    rw [w1] at this; omega
  have hd1 : hd (goneK k1 n c) n = hd k n := by show hd k1 n = hd k n; unfold hd; rw [sp]
  rcases mt with ⟨_, rfl⟩ | ⟨x, _⟩
  · have f1 : Sp.findN (goneK k1 n c).sp ((0 : Nat) : Int) 1 = 0 := by
      show Sp.findN k1.sp ((0 : Nat) : Int) 1 = 0
      rw [sp]
      exact Sp.find1 (by omega) here0 w1
    rw [f1]
    generalize chL (goneK k1 n c) n = L
    have key : EN k n c (adK (goneK k1 n c) L ((0 : Nat) : Int)) := by
      refine ⟨sp, s1.gl, fun m mn => ?_, ?_⟩
      · have e1 : (goneK k1 n c).p m = k1.p m := put_ne _ _ _ _ mn
        have e2 := s1.p m
        have e3 := e2.2.2.2.2 mn
        refine ⟨?_, ?_, ?_, ?_, fun _ => ?_, ?_⟩
        · show ((goneK k1 n c).p m).st = _; rw [e1]; exact e2.1
        · show ((goneK k1 n c).p m).has = _; rw [e1]; exact e3.1
        · show ((goneK k1 n c).p m).grp = _; rw [e1]; exact e2.2.2.1
        · show ((goneK k1 n c).p m).code = _; rw [e1]; exact e2.2.2.2.1
        · show ((goneK k1 n c).p m).box = _; rw [e1]; exact e3.2.2
        · show (if m ∈ L then ((0 : Nat) : Int) else ((goneK k1 n c).p m).par) = _ ∨ (if m ∈ L then ((0 : Nat) : Int) else ((goneK k1 n c).p m).par) = 0
          split
          · exact .inr rfl
          · rw [e1]; exact .inl e2.2.1
      · have e1 : (goneK k1 n c).p n = { k1.p n with st := 2, code := c } := put_same _ _ _
        have e2 := s1.p n
        refine ⟨?_, ?_, ?_, ?_⟩
        · show ((goneK k1 n c).p n).st = _; rw [e1]
        · show ((goneK k1 n c).p n).code = _; rw [e1]
        · show ((goneK k1 n c).p n).grp = _; rw [e1]; exact e2.2.2.1
        · show (if n ∈ L then ((0 : Nat) : Int) else ((goneK k1 n c).p n).par) = _ ∨ (if n ∈ L then ((0 : Nat) : Int) else ((goneK k1 n c).p n).par) = 0
          split
          · exact .inr rfl
          · rw [e1]; exact .inl e2.2.1
    unfold kidK
    split
    · have e0 : ∀ m, m ≠ 0 → (senK (adK (goneK k1 n c) L ((0 : Nat) : Int)) 0 3).p m = (adK (goneK k1 n c) L ((0 : Nat) : Int)).p m := fun m m0 => put_ne _ _ _ _ m0
      have e1 : (senK (adK (goneK k1 n c) L ((0 : Nat) : Int)) 0 3).p 0 = { (adK (goneK k1 n c) L ((0 : Nat) : Int)).p 0 with box := Sg.senF ((adK (goneK k1 n c) L ((0 : Nat) : Int)).p 0).box 3 } := put_same _ _ _
      refine ⟨key.sp, key.gl, fun m mn => ?_, ?_⟩
      · by_cases m0 : m = 0
        · subst m0
          have a := key.ot 0 mn
          rw [e1]
          exact ⟨a.1, a.2.1, a.2.2.1, a.2.2.2.1, fun x => absurd rfl x, a.2.2.2.2.2⟩
        · rw [e0 m m0]; exact key.ot m mn
      · rw [e0 n n0]; exact key.me
    · exact key
  · exact absurd x (by rw [hd1]; exact hd0)
theorem rcn_zero {p : Nat → Pr} {f : Nat} : ∀ M, (∀ m, m < M → (p m).has = true → ∀ j, j < 6 → (p m).fd j ≠ (f : Int)) → rcn p f M = 0
  | 0, _ => rfl
  | M + 1, h => by
    show rcn p f M + pcn (p M) f = 0
    rw [rcn_zero M (fun m hm => h m (by omega))]
    unfold pcn
    split
    · rename_i hh
      have a := h M (by omega) hh
      have z : ∀ J, J ≤ 6 → fc (p M).fd f J = 0 := fun J => by
        induction J with
        | zero => intro _; rfl
        | succ J ih =>
          intro hJ
          show fc (p M).fd f J + (if (p M).fd J = (f : Int) then 1 else 0) = 0
          rw [ih (by omega), if_neg (a J (by omega))]
      rw [z 6 (Nat.le_refl _)]
    · rfl
structure BK (k : Kp) (L : Nat → Nat) (rd : Nat → Bool) : Prop where
  rc : RC k
  st : ∀ m, m < 20 → (k.p m).st = L m
  of : ∀ m, m < 20 → L m ≠ 0 → k.sp.of m = 1
  w2 : k.sp.who 0 2 = if L 1 = 0 then 0 else 2
  pa : ∀ m, m < 20 → m ≠ 0 → L m ≠ 0 → (k.p m).par = 0
  gp : ∀ m, m < 20 → L m ≠ 0 → (k.p m).grp = 0
  gl : (k.gr 0).lp = -1 ∧ (k.gr 0).lq = -1
  fd : ∀ m, m < 20 → (k.p m).has = true → (k.p m).fd 0 = (if rd m = true then 0 else -1) ∧ (k.p m).fd 1 = 1 ∧ ∀ j, 2 ≤ j → j < 6 → (k.p m).fd j = -1
  f0 : (k.fi 0).refs ≠ 0 → (k.fi 0).kind = 2 ∧ (k.fi 0).num = 0
  f1 : (k.fi 1).kind = 3 ∧ (k.fi 1).num = 0
section
variable {L : Nat → Nat} {rd : Nat → Bool}
theorem BK.has (h : BK k L rd) (kh : KH N d k) {m : Nat} (hm : m < 20) (l : L m = 1) : (k.p m).has = true := kh.ki.vi.kj.lv m hm (fun x => x) (by rw [h.st m hm]; exact l)
theorem BK.r1 (h : BK k L rd) (kh : KH N d k) : (k.fi 1).refs ≠ 0 := h.rc.refs (m := 0) (j := 1) (by omega) (by omega) (by omega) kh.has0 (h.fd 0 (by omega) kh.has0).2.1
theorem BK.wr (h : BK k L rd) (kh : KH N d k) : (k.pi 0).writes ≠ 0 := by
  have b := kh.ki.vi.kj.wx.wt 0 (by omega)
  have e := Fx.cK_ge (T := k.fi) (k := 3) (m := 0) (N := 24) (n := 1) (by omega)
  have e1 : Fx.hit (k.fi 1) 3 0 = 1 := if_pos ⟨h.r1 kh, h.f1⟩
  omega
theorem BK.some (h : BK k L rd) (kh : KH N d k) {m : Nat} (hm : m < 20) (l : L m = 1) (r : rd m = true) : (k.pi 0).reads ≠ 0 := by
  have hh := h.has kh hm l
  have f := (h.fd m hm hh).1
  rw [if_pos r] at f
  have r0 : (k.fi 0).refs ≠ 0 := h.rc.refs (m := m) (j := 0) hm (by omega) (by omega) hh f
  have b := kh.ki.vi.kj.wx.rd 0 (by omega)
  have e := Fx.cK_ge (T := k.fi) (k := 2) (m := 0) (N := 24) (n := 0) (by omega)
  have e1 : Fx.hit (k.fi 0) 2 0 = 1 := if_pos ⟨r0, h.f0 r0⟩
  omega
theorem BK.none (h : BK k L rd) (kh : KH N d k) (r : ∀ m, m < 20 → L m = 1 → rd m = false) : (k.pi 0).reads = 0 := by
  have b := kh.ki.vi.kj.wx.rd 0 (by omega)
  have z : ∀ f, f < 24 → f ≠ 1 → (k.fi f).refs = 0 := fun f f24 f1 => by
    rw [h.rc f f24]
    refine rcn_zero 20 (fun m hm hh j hj => ?_)
    have l : L m = 1 := by rw [← h.st m hm]; exact kh.ki.vi.kj.hs m hm hh
    obtain ⟨a, b, c⟩ := h.fd m hm hh
    rw [r m hm l, if_neg (by decide)] at a
    by_cases j0 : j = 0
    · subst j0; rw [a]; omega
    · by_cases j1 : j = 1
      · subst j1; rw [b]; omega
      · rw [c j (by omega) hj]; omega
  have hz : ∀ M, M ≤ 24 → Fx.cK k.fi 2 0 M = 0 := fun M => by
    induction M with
    | zero => intro _; rfl
    | succ M ih =>
      intro hM
      show Fx.cK k.fi 2 0 M + Fx.hit (k.fi M) 2 0 = 0
      rw [ih (by omega)]
      by_cases m1 : M = 1
      · subst m1; have q : Fx.hit (k.fi 1) 2 0 = 0 := if_neg (fun x => by have := x.2.1; rw [h.f1.1] at this; omega)
        omega
      · have q : Fx.hit (k.fi M) 2 0 = 0 := if_neg (fun x => x.1 (z M (by omega) m1))
        omega
  rw [b, hz 24 (Nat.le_refl _)]
end
end
end Kn
end Go.Proofs.YtghogbngmcolmaaGreat
namespace Go.Proofs.YtghogbngmcolmaaGreat
open Go.RowKit
open Fx (Fi)
open Tr (Fo Nd)
open Pp (Pi)
open Mo (Wh Mt)
open Mv (Me Bk)
open Kn (Pr Kp St us KB KJ VI EI KH TT BK)
namespace Kn
section
variable {N : Nat} {d : Nat → Nat} {k k' k1 : Kp} {n : Nat} {L : Nat → Nat} {rd : Nat → Bool}
theorem BK.l0 (h : BK k L rd) (kh : KH N d k) : L 0 = 1 := by rw [← h.st 0 (by omega)]; exact lv1.1 kh.l0
theorem BK.chg (h : BK k L rd) (kh : KH N d k) {Wy : Nat → List (Fin 10)} (wy : Gr.Ways k.gr Wy) : chgN k Wy 0 = 0 := by
  obtain ⟨Wy0, g0⟩ := kh.ki.vi.kj.gr
  have g := h.gp 0 (by omega) (by rw [h.l0 kh]; omega)
  have rt := g0.root
  have re : Gr.refE k.gr 0 1 (Mv.resK (k.p 0).mem 16 : Int) = 0 := by
    have wr0 : Gr.wr k.gr 0 = 0 := by unfold Gr.wr; rw [if_neg (by omega)]; exact if_pos rt.1
    unfold Gr.refE
    rw [wr0, if_pos rfl, if_pos]
    unfold Gr.fromB
    apply decide_eq_true
    have := YtghogbngmcolmaaGreat.resK_le (k.p 0).mem 16
    omega
  have va : Gr.vals (Wy 0) = [0] := by
    have a := wy 0 (by omega)
    refine Gr.Way.unique a ?_
    exact ⟨rfl, by omega, rt.1, by rw [rt.2]; show ¬ Gr.valid k.gr (-1); rintro ⟨x, _⟩; exact absurd x (by decide)⟩
  have la : Gr.lackA k.gr Wy 0 1 (Mv.resK (k.p 0).mem 16 : Int) = false := by
    unfold Gr.lackA
    rw [List.any_eq_false]
    intro y hy
    have y0 : y.val = 0 := by
      have : y.val ∈ Gr.vals (Wy 0) := List.mem_map.2 ⟨y, hy, rfl⟩
      rw [va] at this; simpa using this
    unfold Gr.lackB Gr.passB
    rw [y0, h.gl.1, h.gl.2]
    simp
  unfold chgN Gr.chgE
  rw [g, re, if_pos rfl]
  show (if Gr.lackA k.gr Wy 0 1 (Mv.resK (k.p 0).mem 16 : Int) = true then (6 : Int) else 0) = 0
  rw [la, if_neg (by decide)]
theorem BK.fork (h : BK k L rd) (kh : KH N d k) {c0 : Nat} (c20 : c0 < 20) (z : L c0 = 0) (lo : ∀ m, m < c0 → L m ≠ 0) (l2 : c0 = 1 → Sp.low k.sp 0 = 2) {p : Nat} {E : Int} (f : ForTo k 0 false p E k') : E = 0 ∧ BK k' (fun m => if m = c0 then 1 else L m) (fun m => if m = c0 then rd 0 else rd m) ∧ (k'.p c0).box = Sg.chiF (k.p 0).box ∧ (∀ m, m ≠ c0 → k'.p m = k.p m) ∧ k'.sp = Sp.entT k.sp ((0 : Nat) : Int) (c0 : Int) ∧ k'.pi = k.pi ∧ p = Sp.pidN k'.sp (c0 : Int) (Sp.inN k'.sp ((0 : Nat) : Int) : Nat) := by
  obtain ⟨rc, pi, fi, up⟩ := f.fo kh h.rc
  have ac : actE k 0 = 0 := actE_of (n := 0) (by omega) kh.l0
  have L0 := h.l0 kh
  have c00 : c0 ≠ 0 := fun e => by rw [e, L0] at z; omega
  rcases f with ⟨a, _⟩ | ⟨_, n, c, F, Wy, en, hn, fr, ways, f⟩
  · exact absurd ac a
  · have en' : n = 0 := by omega
    subst en'
    have cc : F = 0 ∧ c = c0 := by
      rcases fr with ⟨a, b, e, g⟩ | ⟨_, _, g⟩
      · refine ⟨a, ?_⟩
        rcases Nat.lt_trichotomy c c0 with x | x | x
        · rw [h.st c b] at e; exact absurd e (lo c x)
        · exact x
        · have := g c0 x; rw [h.st c0 c20] at this; exact absurd z this
      · have := g c0 c20; rw [h.st c0 c20] at this; exact absurd z this
    obtain ⟨rfl, rfl⟩ := cc
    rcases f with ⟨q, _⟩ | ⟨_, q, _⟩ | ⟨_, _, q, _⟩ | ⟨_, ch, hm, e0, m', wk, ek, ep⟩
    · exact absurd rfl q
    · exact absurd (h.chg kh ways) q
    · exact absurd (homK_no (chgK k Wy 0) 0).2 q
    · have i0 : homN (chgK k Wy 0) 0 false = 0 := Sp.inN_of (n := 0) (z := 0) (by omega) kh.ki.vi.hs.r0.1
      rw [(homK_no (chgK k Wy 0) 0).1, i0] at ek
      have cs := cop_same (chgK k Wy 0) 0
      have p1 : ∀ m, k'.p m = if m = c then chP (chgK k Wy 0) 0 else k.p m := fun m => by
        rw [ek]
        show ((copK (chgK k Wy 0) 0).put c (chP (chgK k Wy 0) 0)).p m = _
        by_cases q : m = c
        · rw [if_pos q, q, put_same]
        · rw [if_neg q, put_ne _ _ _ _ q, cs.2.2]; rfl
      have sp' : k'.sp = Sp.entT k.sp ((0 : Nat) : Int) (c : Int) := by rw [ek]; show Sp.entT (copK (chgK k Wy 0) 0).sp _ _ = _; rw [cs.1]; rfl
      have y6 : k.sp.here 0 = true := kh.ki.vi.iv.tree.root.1
      have oc : k.sp.of c = 0 := by
        by_cases e : k.sp.of c = 0
        · exact e
        · have := (kh.ki.vi.kj.of c c20).1 e
          rw [h.st c c20] at this; exact absurd z this
      have pc := p1 c
      rw [if_pos rfl] at pc
      have gr' : k'.gr = (chgK k Wy 0).gr := by
        rw [ek]
        obtain ⟨T, eT⟩ := shaK_same { chgK k Wy 0 with bk := Mv.foK ((chgK k Wy 0).p 0).mem (chgK k Wy 0).bk 16 } ((chgK k Wy 0).p 0).fd 6
        have e3 : copK (chgK k Wy 0) 0 = { chgK k Wy 0 with bk := Mv.foK ((chgK k Wy 0).p 0).mem (chgK k Wy 0).bk 16, fi := T } := eT
        show (copK (chgK k Wy 0) 0).gr = _
        rw [e3]
      refine ⟨e0, ⟨rc, fun m hm => ?_, fun m hm l => ?_, ?_, fun m hm m0 l => ?_, fun m hm l => ?_, ?_, fun m hm hh => ?_, fun r => ?_, ?_⟩, ?_, fun m q => by rw [p1 m, if_neg q], sp', pi, ?_⟩
      · rw [p1 m]
        show _ = if m = c then 1 else L m
        by_cases q : m = c
        · rw [if_pos q, if_pos q]; exact lv1.1 kh.l0
        · rw [if_neg q, if_neg q]; exact h.st m hm
      · rw [sp', Sp.ent_of (by omega) y6 c20 oc]
        by_cases q : m = c
        · rw [if_pos q]
        · rw [if_neg q]
          have l' : (if m = c then 1 else L m) ≠ 0 := l
          rw [if_neg q] at l'
          exact h.of m hm l'
      · have hW : 0 ∈ Sp.W k.sp ((0 : Nat) : Int) := List.mem_cons_self
        show k'.sp.who 0 2 = if (if 1 = c then 1 else L 1) = 0 then 0 else 2
        by_cases q : 1 = c
        · rw [if_pos q, if_neg (by decide), sp', Sp.ent_who (by omega) y6 c20 oc, if_pos ⟨hW, (l2 q.symm).symm⟩, ← q]
        · rw [if_neg q]
          have l1 : L 1 ≠ 0 := lo 1 (by omega)
          rw [if_neg l1]
          have w := h.w2
          rw [if_neg l1] at w
          rw [sp', Sp.ent_keep kh.ki.vi.iv (by omega) y6 c20 oc (by omega) (by rw [w]; omega)]
          exact w
      · rw [p1 m]
        by_cases q : m = c
        · rw [if_pos q]; rfl
        · rw [if_neg q]
          have l' : (if m = c then 1 else L m) ≠ 0 := l
          rw [if_neg q] at l'
          exact h.pa m hm m0 l'
      · rw [p1 m]
        by_cases q : m = c
        · rw [if_pos q]; exact h.gp 0 (by omega) (by rw [L0]; omega)
        · rw [if_neg q]
          have l' : (if m = c then 1 else L m) ≠ 0 := l
          rw [if_neg q] at l'
          exact h.gp m hm l'
      · rw [gr']
        have := chgT_l k.gr Wy (k.p 0).grp 1 (Mv.resK (k.p 0).mem 16 : Int) 0
        show (Gr.chgT _ _ _ _ _ 0).lp = _ ∧ (Gr.chgT _ _ _ _ _ 0).lq = _
        rw [this.1, this.2]; exact h.gl
      · rw [p1 m] at hh ⊢
        show _ = (if (if m = c then rd 0 else rd m) = true then (0 : Int) else -1) ∧ _
        by_cases q : m = c
        · rw [if_pos q, if_pos q]; exact h.fd 0 (by omega) kh.has0
        · rw [if_neg q] at hh ⊢
          rw [if_neg q]; exact h.fd m hm hh
      · rw [(fi 0 (by omega)).1, (fi 0 (by omega)).2]
        refine h.f0 (fun r0 => ?_)
        have z0 := h.rc 0 (by omega)
        rw [r0] at z0
        have z1 := rc 0 (by omega)
        have z2 := rcn_zero (p := k'.p) (f := 0) 20 (fun m hm hh j hj e => by
          obtain ⟨q, hq, hq2, e2⟩ := up m hm hh
          rw [e2] at e
          exact absurd r0 (h.rc.refs hq hj (by omega) hq2 e))
        rw [z2] at z1
        exact r z1
      · rw [(fi 1 (by omega)).1, (fi 1 (by omega)).2]; exact h.f1
      · rw [pc]; rfl
      · rw [ep]
end
end Kn
end Go.Proofs.YtghogbngmcolmaaGreat
namespace Go.Proofs.YtghogbngmcolmaaGreat
open Go.RowKit
open Fx (Fi)
open Tr (Fo Nd)
open Pp (Pi)
open Mo (Wh Mt)
open Mv (Me Bk)
open Kn (Pr Kp St us KB KJ VI EI KH TT BK)
namespace Kn
section
variable {N : Nat} {d : Nat → Nat} {k k' k1 : Kp} {n : Nat} {L : Nat → Nat} {rd : Nat → Bool}
theorem BK.files (h : BK k L rd) (kh : KH N d k) (kh' : KH N d k') (q : QD k k') : RC k' ∧ (∀ m, m < 20 → (k'.p m).has = true → (k'.p m).fd 0 = (if rd m = true then 0 else -1) ∧ (k'.p m).fd 1 = 1 ∧ ∀ j, 2 ≤ j → j < 6 → (k'.p m).fd j = -1) ∧ ((k'.fi 0).refs ≠ 0 → (k'.fi 0).kind = 2 ∧ (k'.fi 0).num = 0) ∧ ((k'.fi 1).kind = 3 ∧ (k'.fi 1).num = 0) := by
  have rc := q.rc kh.hx h.rc
  have fd : ∀ m, m < 20 → (k'.p m).has = true → (k'.p m).fd 0 = (if rd m = true then 0 else -1) ∧ (k'.p m).fd 1 = 1 ∧ ∀ j, 2 ≤ j → j < 6 → (k'.p m).fd j = -1 := fun m hm hh => by
    have b := q.up m hm hh
    rw [b.2]; exact h.fd m hm b.1
  have r1 : (k'.fi 1).refs ≠ 0 := rc.refs (m := 0) (j := 1) (by omega) (by omega) (by omega) kh'.has0 (fd 0 (by omega) kh'.has0).2.1
  refine ⟨rc, fd, fun r => ?_, ?_⟩
  · have a := q.qf.fi 0 (by omega) r
    rw [a.2.1, a.2.2]; exact h.f0 a.1
  · have a := q.qf.fi 1 (by omega) r1
    rw [a.2.1, a.2.2]; exact h.f1
theorem BK.en (h : BK k L rd) (kh : KH N d k) (kh' : KH N d k') (q : QD k k') {c : Int} (e : EN k n c k') (hn : n < 20) (n0 : n ≠ 0) (l : L n = 1) : BK k' (fun m => if m = n then 2 else L m) rd := by
  obtain ⟨rc, fd, f0, f1⟩ := h.files kh kh' q
  refine ⟨rc, fun m hm => ?_, fun m hm x => ?_, ?_, fun m hm m0 x => ?_, fun m hm x => ?_, ?_, fd, f0, f1⟩
  · show _ = if m = n then 2 else L m
    by_cases c : m = n
    · subst c; rw [if_pos rfl]; exact e.me.1
    · rw [if_neg c, (e.ot m c).1]; exact h.st m hm
  · rw [e.sp]
    by_cases c : m = n
    · subst c; exact h.of m hm (by omega)
    · have x' : (if m = n then 2 else L m) ≠ 0 := x
      rw [if_neg c] at x'; exact h.of m hm x'
  · rw [e.sp, h.w2]
    show _ = if (if 1 = n then 2 else L 1) = 0 then 0 else 2
    by_cases c : 1 = n
    · have l1 : ¬ L 1 = 0 := by rw [c]; omega
      rw [if_neg l1, if_pos c, if_neg (by decide)]
    · rw [if_neg c]
  · by_cases c : m = n
    · subst c
      rcases e.me.2.2.2 with y | y
      · rw [y]; exact h.pa m hm m0 (by omega)
      · exact y
    · have x' : (if m = n then 2 else L m) ≠ 0 := x
      rw [if_neg c] at x'
      rcases (e.ot m c).2.2.2.2.2 with y | y
      · rw [y]; exact h.pa m hm m0 x'
      · exact y
  · by_cases c : m = n
    · subst c; rw [e.me.2.2.1]; exact h.gp m hm (by omega)
    · have x' : (if m = n then 2 else L m) ≠ 0 := x
      rw [if_neg c] at x'
      rw [(e.ot m c).2.2.1]; exact h.gp m hm x'
  · rw [(e.gl 0).1, (e.gl 0).2]; exact h.gl
theorem BK.hdn (h : BK k L rd) (kh : KH N d k) (hn : n < 20) (n0 : n ≠ 0) (l : L n ≠ 0) : hd k n ≠ n := by
  have e := hd_eq kh.ki.vi.iv kh.ki.vi.hs hn (h.of n hn l)
  intro x
  have := e.1 x
  rw [kh.ki.vi.hs.r0.2] at this; omega
theorem BK.exit (h : BK k L rd) (kh : KH N d k) (hn : n < 20) (n0 : n ≠ 0) (l : L n = 1) (e : ExiTo k (n : Int) 0 k') : exiE k (n : Int) 0 = 0 ∧ KH N d k' ∧ QD k k' ∧ EN k n 0 k' ∧ BK k' (fun m => if m = n then 2 else L m) rd := by
  have ac : actE k (n : Int) = 0 := actE_of hn (lv1.2 (by rw [h.st n hn]; exact l))
  have ex : exiE k (n : Int) 0 = 0 := by unfold exiE; rw [if_pos ac, if_neg (by omega), if_neg (by omega)]
  have kh' := kh.exit e
  have q := e.qd kh.hx
  rcases e with ⟨x, _⟩ | ⟨_, m, y, p, em, hm, m0, lm, oy, _, _, hp, et⟩
  · exact absurd ex x
  · have em' : m = n := by omega
    subst em'
    have y0 : y = 0 := by have := h.of m hm (by omega); omega
    have p0 : p = 0 := by have := h.pa m hm m0 (by omega); omega
    have en := et.plain kh.ki.vi.iv kh.ki.vi.hs hm m0 (h.of m hm (by omega)) y0 p0
    exact ⟨ex, kh', q, en, h.en kh kh' q en hm m0 l⟩
theorem BK.wait (h : BK k L rd) (kh : KH N d k) {p : Nat} {c E : Int} (w : WaiTo k 0 p c E k') {x : Nat} (hx : x < 20) (x0 : x ≠ 0) (lx : L x = 2) : E = 0 ∧ ∃ m, m < 20 ∧ m ≠ 0 ∧ L m = 2 ∧ KH N d k' ∧ BK k' (fun i => if i = m then 0 else L i) rd ∧ c = (k.p m).code ∧ (p = 2 → m = 1) ∧ ∀ i, i < 20 → i ≠ m → k'.p i = k.p i := by
  have ac : actE k 0 = 0 := actE_of (n := 0) (by omega) kh.l0
  have i0 : Sp.inN k.sp ((0 : Nat) : Int) = 0 := Sp.inN_of (n := 0) (z := 0) (by omega) kh.ki.vi.hs.r0.1
  have y6 : k.sp.here 0 = true := kh.ki.vi.iv.tree.root.1
  have xin : x ∈ chL k 0 := by
    unfold chL chK
    rw [i0]
    exact List.mem_filter.2 ⟨Sp.mem_membL (by omega) y6 (kh.ki.vi.iv.mem_self hx (h.of x hx (by omega))).1, decide_eq_true (h.pa x hx x0 (by omega))⟩
  have kh' := kh.wait w
  have q := w.qd kh.hx
  rcases w with ⟨a, _⟩ | ⟨_, n, en, hn, w⟩
  · exact absurd ac a
  · have en' : n = 0 := by omega
    subst en'
    rcases w with ⟨a, _⟩ | ⟨_, a, _⟩ | ⟨e0, i, m, hi, lm, _, ep, ec, v⟩
    · rw [a] at xin; cases xin
    · have := lv1.1 (a x xin)
      rw [h.st x hx] at this; omega
    · obtain ⟨m20, m0, _, ms, _, _⟩ := kh.chil (n := 0) (by omega) kh.l0 (List.mem_of_getElem? hi)
      rw [h.st m m20] at ms
      have om := h.of m m20 ms
      have st2 : (k.p m).st = 2 := by
        have := kh.ki.vi.kj.st m m20
        have : (k.p m).st ≠ 1 := fun e => by rw [lv1.2 e] at lm; cases lm
        have := h.st m m20
        omega
      have lm2 : L m = 2 := by rw [← h.st m m20]; exact st2
      obtain ⟨_, pm, _, ot, wh⟩ := kh.van m20 m0 st2 om v
      have gl : GL k k' := by
        obtain ⟨k1, _, b, cc⟩ := v
        have e1 := b lm
        subst e1
        rcases cc with ⟨_, rfl⟩ | ⟨hd1, _⟩
        · exact fun g => uncT_l _ _ _ _ _
        · exact absurd hd1 (h.hdn kh m20 m0 ms)
      obtain ⟨rc, fd, f0, f1⟩ := h.files kh kh' q
      refine ⟨e0, m, m20, m0, lm2, kh', ⟨rc, fun i hi => ?_, fun i hi y => ?_, ?_, fun i hi i0 y => ?_, fun i hi y => ?_, ?_, fd, f0, f1⟩, ec, fun p2 => ?_, fun i hi y => (ot i hi y).1⟩
      · show _ = if i = m then 0 else L i
        by_cases z : i = m
        · rw [if_pos z, z, pm]; rfl
        · rw [if_neg z, (ot i hi z).1]; exact h.st i hi
      · have y' : (if i = m then 0 else L i) ≠ 0 := y
        by_cases z : i = m
        · rw [if_pos z] at y'; exact absurd rfl y'
        · rw [if_neg z] at y'; rw [(ot i hi z).2]; exact h.of i hi y'
      · rw [wh 0 2 (by omega) (by omega), h.w2]
        show _ = if (if 1 = m then 0 else L 1) = 0 then 0 else 2
        by_cases z : 1 = m
        · rw [if_pos z, if_pos rfl, if_neg (show ¬ L 1 = 0 by rw [z]; omega), if_pos (by omega)]
        · rw [if_neg z]
          by_cases l1 : L 1 = 0
          · rw [if_pos l1, if_neg (by omega)]
          · rw [if_neg l1, if_neg (by omega)]
      · have y' : (if i = m then 0 else L i) ≠ 0 := y
        by_cases z : i = m
        · rw [if_pos z] at y'; exact absurd rfl y'
        · rw [if_neg z] at y'; rw [(ot i hi z).1]; exact h.pa i hi i0 y'
      · have y' : (if i = m then 0 else L i) ≠ 0 := y
        by_cases z : i = m
        · rw [if_pos z] at y'; exact absurd rfl y'
        · rw [if_neg z] at y'; rw [(ot i hi z).1]; exact h.gp i hi y'
      · rw [(gl 0).1, (gl 0).2]; exact h.gl
      ·
        have mm := (kh.ki.vi.iv.mem_self m20 om).1
        obtain ⟨p', p21, pw⟩ := mm
        have p0 : p' ≠ 0 := fun e => by rw [e, kh.ki.vi.iv.who0 0 (by omega)] at pw; omega
        have ie : Sp.isE k.sp ((0 : Nat) : Int) = 0 := Sp.isE_nat (by omega) y6
        have pe : Sp.pidOf k.sp 0 m = p' := by
          unfold Sp.pidOf
          rw [Sp.find_at (i := p') p21 (by unfold Sp.isP; exact decide_eq_true pw) (fun j hj => by
            unfold Sp.isP
            apply decide_eq_false
            intro e
            have := kh.ki.vi.iv.one 0 j p' (by omega) (by omega) p21 (by rw [e, pw]) (by omega)
            omega)]
          rfl
        have pp : p = p' ∨ p = 0 := by
          rw [ep, i0]
          unfold Sp.pidN
          split
          · rw [Int.toNat_natCast, Int.toNat_natCast]; exact .inl pe
          · exact .inr rfl
        have : p' = 2 := by omega
        rw [this, h.w2] at pw
        split at pw <;> omega
theorem BK.nclo (h : BK k L rd) (kh : KH N d k) (hn : n < 20) (l : L n = 1) (r : rd n = true) : ncloE k (n : Int) 0 = 0 ∧ BK (ncloK k (n : Int) 0) L (fun m => if m = n then false else rd m) ∧ QF k (ncloK k (n : Int) 0) ∧ ∀ m, ((ncloK k (n : Int) 0).p m).box = (k.p m).box := by
  have ac : actE k (n : Int) = 0 := actE_of hn (lv1.2 (by rw [h.st n hn]; exact l))
  have hh := h.has kh hn l
  have f := (h.fd n hn hh).1
  rw [if_pos r] at f
  have r0 : (k.fi 0).refs ≠ 0 := h.rc.refs (m := n) (j := 0) hn (by omega) (by omega) hh f
  have nu : numE k (n : Int) 0 = 0 := by
    unfold numE
    rw [if_pos ac, if_neg (by omega), Int.toNat_natCast]
    show (if (k.p n).fd 0 = -1 then _ else _) = _
    rw [f, if_neg (by decide)]
  have fe : Fx.filE k.fi 0 = 0 := by unfold Fx.filE; rw [if_neg (by omega)]; exact if_neg r0
  have ek : ncloK k (n : Int) 0 = fdK (cloK k ((k.p n).fd 0)) n 0 (-1) := by
    unfold ncloK
    rw [if_pos nu, Int.toNat_natCast]
    rfl
  have qf : QF k (ncloK k (n : Int) 0) := by rw [ek]; exact (QF.clo _ _).trans (QF.same rfl rfl)
  have rc : RC (ncloK k (n : Int) 0) := by rw [ek]; exact h.rc.clo1 hn (by omega) hh
  have e := fdK_p (cloK k ((k.p n).fd 0)) n 0 (-1)
  have kh' := kh.nclo (n : Int) 0
  refine ⟨?_, ⟨rc, fun m hm => ?_, ?_, ?_, fun m hm m0 x => ?_, fun m hm x => ?_, ?_, fun m hm x => ?_, fun x => ?_, ?_⟩, qf, fun m => by rw [ek]; exact (e m).2.2.1⟩
  · unfold ncloE
    rw [if_pos nu, Int.toNat_natCast]
    show Fx.filE k.fi ((k.p n).fd 0) = 0
    rw [f]; exact fe
  · rw [ek, (e m).1]; exact h.st m hm
  · rw [ek]; exact h.of
  · rw [ek]; exact h.w2
  · rw [ek, (e m).2.1]; exact h.pa m hm m0 x
  · have : ((ncloK k (n : Int) 0).p m).grp = (k.p m).grp := by
      rw [ek]; unfold fdK
      by_cases c : m = n
      · subst c; rw [put_same]; rfl
      · rw [put_ne _ _ _ _ c]; rfl
    rw [this]; exact h.gp m hm x
  · rw [ek]; exact h.gl
  · rw [ek] at x ⊢
    rw [(e m).2.2.2.1] at x
    rw [(e m).2.2.2.2]
    have a := h.fd m hm x
    show _ = (if (if m = n then false else rd m) = true then (0 : Int) else -1) ∧ _
    by_cases c : m = n
    · subst c
      rw [if_pos rfl]
      refine ⟨by simp, a.2.1, fun j j2 j6 => ?_⟩
      show (if j = 0 then (-1 : Int) else (k.p m).fd j) = -1
      rw [if_neg (by omega)]; exact a.2.2 j j2 j6
    · rw [if_neg c, if_neg c]; exact a
  · have b := qf.fi 0 (by omega) x
    rw [b.2.1, b.2.2]; exact h.f0 b.1
  · have r1 : ((ncloK k (n : Int) 0).fi 1).refs ≠ 0 := by
      refine rc.refs (m := 0) (j := 1) (by omega) (by omega) (by omega) kh'.has0 ?_
      rw [ek, (e 0).2.2.2.2]
      have a := (h.fd 0 (by omega) kh.has0).2.1
      by_cases c : (0 : Nat) = n
      · subst c; rw [if_pos rfl]; exact a
      · rw [if_neg c]; exact a
    have b := qf.fi 1 (by omega) r1
    rw [b.2.1, b.2.2]; exact h.f1
end
end Kn
end Go.Proofs.YtghogbngmcolmaaGreat
namespace Go.Proofs.YtghogbngmcolmaaGreat
open Go.RowKit
open Fx (Fi)
open Tr (Fo Nd)
open Pp (Pi)
open Mo (Wh Mt)
open Mv (Me Bk)
open Kn (Pr Kp St us KB KJ VI EI KH TT BK)
namespace Kn
def bx (how : Int) (held : Bool) : Nat → Sg.S1 := fun j => if j = 2 then ⟨false, held, how⟩ else ⟨false, false, 0⟩
theorem bx_how {how : Int} (h : 0 ≤ how ∧ how ≤ 2) : Sg.howF (Sg.chiF Sg.nul) 2 how = bx how false := by
  have e : Sg.howE 2 how = 0 := by unfold Sg.howE Sg.isE; rw [if_neg (by decide), if_neg (by omega), if_neg (by decide)]
  unfold Sg.howF
  rw [if_pos e]
  funext j
  show (if j = 2 then _ else _) = if j = 2 then _ else _
  by_cases c : j = 2
  · rw [if_pos c, if_pos c]; rfl
  · rw [if_neg c, if_neg c]; rfl
theorem bx_hold (how : Int) (held : Bool) : Sg.holF (bx how false) 2 held = bx how held := by
  have e : Sg.holE 2 = 0 := by decide
  unfold Sg.holF
  rw [if_pos e]
  funext j
  show (if j = 2 then _ else _) = if j = 2 then _ else _
  by_cases c : j = 2
  · rw [if_pos c, if_pos c]; rfl
  · rw [if_neg c, if_neg c]; show (if j = 2 then _ else _) = _; rw [if_neg c]
theorem bx_none {how : Int} {held : Bool} {h : Int} {m : Nat} (f : Sg.FirTo (bx how held) h m) : m = 0 := by
  rcases f with ⟨a, _⟩ | ⟨_, _, o, _⟩
  · exact a
  · unfold Sg.ok bx at o
    split at o <;> simp at o
theorem bx_sent {how : Int} (hw : 0 ≤ how ∧ how ≤ 2) {held : Bool} {h : Int} {m : Nat} (f : Sg.FirTo (Sg.senF (bx how held) 2) h m) : m = if how ≠ 1 ∧ held = false ∧ how = h then 2 else 0 := by
  have e : Sg.isE 2 = 0 := by decide
  have sj : ∀ j, j ≠ 2 → Sg.senF (bx how held) 2 j = ⟨false, false, 0⟩ := fun j hj => by
    unfold Sg.senF
    rw [if_pos e]
    show (if j = 2 then _ else bx how held j) = _
    rw [if_neg hj]; exact if_neg hj
  have s2 : Sg.senF (bx how held) 2 2 = ⟨!Sg.ign 2 how, held, how⟩ := by
    unfold Sg.senF
    rw [if_pos e]
    rfl
  have oj : ∀ j, j ≠ 2 → Sg.ok (Sg.senF (bx how held) 2) h j = false := fun j hj => by unfold Sg.ok; rw [sj j hj]; rfl
  have o2 : Sg.ok (Sg.senF (bx how held) 2) h 2 = (!Sg.ign 2 how && !held && decide (how = h)) := by unfold Sg.ok; rw [s2]
  have ig : Sg.ign 2 how = decide (how = 1) := by
    have : how = 0 ∨ how = 1 ∨ how = 2 := by omega
    rcases this with rfl | rfl | rfl <;> rfl
  rw [ig] at o2
  by_cases c : how ≠ 1 ∧ held = false ∧ how = h
  · rw [if_pos c]
    have t : Sg.ok (Sg.senF (bx how held) 2) h 2 = true := by rw [o2, c.2.1]; simp [c.2.2]; exact fun q => c.1 (c.2.2.trans q)
    exact f.unique (.inr ⟨by omega, by omega, t, fun j _ hj => oj j (by omega)⟩)
  · rw [if_neg c]
    have t : Sg.ok (Sg.senF (bx how held) 2) h 2 = false := by
      rw [o2]
      by_cases c1 : how = 1
      · simp [c1]
      · by_cases c2 : held = false
        · have c3 : ¬ how = h := fun q => c ⟨c1, c2, q⟩
          simp [c3]
        · have : held = true := by cases held <;> simp_all
          simp [this]
    refine f.unique (.inl ⟨rfl, fun j _ _ => ?_⟩)
    by_cases j2 : j = 2
    · rw [j2]; exact t
    · exact oj j j2
theorem Kp.same {a b : Kp} (h : ∀ m, a.p m = b.p m) (hr : ({ a with p := b.p } : Kp) = b) : a = b := by
  have e : a.p = b.p := funext h
  rw [← hr, ← e]
theorem put_put (k : Kp) (n : Nat) (x y : Pr) : (k.put n x).put n y = k.put n y := by
  unfold Kp.put
  congr 1
  funext m
  by_cases c : m = n
  · simp [c]
  · simp [c]
section
variable {N : Nat} {d : Nat → Nat} {k k' k1 : Kp} {n : Nat} {L : Nat → Nat} {rd : Nat → Bool}
theorem unm_box (k : Kp) (n : Nat) (X : Nat → Sg.S1) (a m : Int) : unmK (boxK k n X) n a m = boxK (unmK k n a m) n X := by
  have e : (boxK k n X).p n = { k.p n with box := X } := put_same _ _ _
  unfold unmK
  rw [e]
  by_cases c : Mv.unE a m = 0
  · rw [if_pos c, if_pos c]
    unfold memK
    rw [e]
    refine Kp.same (fun q => ?_) rfl
    unfold boxK
    by_cases c : q = n
    · subst c
      rw [put_same, put_same]
      show _ = { ((k.put q { k.p q with mem := Mv.unM (k.p q).mem a m }).p q) with box := X }
      rw [put_same]
    · rw [put_ne _ _ _ _ c, put_ne _ _ _ _ c, put_ne _ _ _ _ c]
      exact (put_ne k n q { k.p n with mem := Mv.unM (k.p n).mem a m } c).symm
  · rw [if_neg c, if_neg c]
theorem strF_box (k : Kp) (n : Nat) (X : Nat → Sg.S1) (fd : Nat → Int) : ∀ j, strF (boxK k n X) n fd j = boxK (strF k n fd j) n X
  | 0 => rfl
  | j + 1 => by
    have ih := strF_box k n X fd j
    show (if fd j = -1 then strF (boxK k n X) n fd j else fdK (cloK (strF (boxK k n X) n fd j) (fd j)) n j (-1) : Kp) = boxK (if fd j = -1 then strF k n fd j else fdK (cloK (strF k n fd j) (fd j)) n j (-1)) n X
    by_cases c : fd j = -1
    · rw [if_pos c, if_pos c]; exact ih
    · rw [if_neg c, if_neg c, ih]
      generalize strF k n fd j = q
      unfold fdK boxK
      rw [put_same]
      have e : (cloK (q.put n { q.p n with box := X }) (fd j)).p n = { q.p n with box := X } := put_same _ _ _
      rw [e]
      have e2 : cloK (q.put n { q.p n with box := X }) (fd j) = (cloK q (fd j)).put n { q.p n with box := X } := rfl
      rw [e2, put_put, put_put]
      rfl
theorem StrTo.box {X : Nat → Sg.S1} (h : StrTo (boxK k n X) n k1) : StrTo k n k1 := by
  obtain ⟨m', dt, rfl⟩ := h
  refine ⟨m', dt, ?_⟩
  have e : (boxK k n X).p n = { k.p n with box := X } := put_same _ _ _
  unfold strK
  dsimp only
  rw [unm_box, e, strF_box]
  generalize strF (unmK k n 0 16) n _ 6 = q
  have e2 : (boxK q n X).p n = { q.p n with box := X } := put_same _ _ _
  rw [e2]
  have e3 : ({ boxK q n X with sc := m' } : Kp) = ({ q with sc := m' } : Kp).put n { q.p n with box := X } := rfl
  rw [e3, put_put]
theorem EndTo.box {X : Nat → Sg.S1} {c : Int} {z q : Nat} (e : EndTo (boxK k n X) n c z q k') : EndTo k n c z q k' := by
  obtain ⟨k1, k3, s1, mt, rfl⟩ := e
  exact ⟨k1, k3, s1.box, mt, rfl⟩
end
end Kn
end Go.Proofs.YtghogbngmcolmaaGreat
namespace Go.Proofs.YtghogbngmcolmaaGreat
open Go.RowKit
open Fx (Fi)
open Tr (Fo Nd)
open Pp (Pi)
open Mo (Wh Mt)
open Mv (Me Bk)
open Kn (Pr Kp St us KB KJ VI EI KH TT BK)
namespace Kn
section
variable {N : Nat} {d : Nat → Nat} {k k' k1 : Kp} {n : Nat} {L : Nat → Nat} {rd : Nat → Bool}
theorem box_p (k : Kp) (n : Nat) (X : Nat → Sg.S1) (m : Nat) : ((boxK k n X).p m).st = (k.p m).st ∧ ((boxK k n X).p m).par = (k.p m).par ∧ ((boxK k n X).p m).grp = (k.p m).grp ∧ ((boxK k n X).p m).fd = (k.p m).fd ∧ ((boxK k n X).p m).has = (k.p m).has ∧ ((boxK k n X).p m).code = (k.p m).code := by
  unfold boxK
  by_cases c : m = n
  · subst c; rw [put_same]; exact ⟨rfl, rfl, rfl, rfl, rfl, rfl⟩
  · rw [put_ne _ _ _ _ c]; exact ⟨rfl, rfl, rfl, rfl, rfl, rfl⟩
theorem BK.box (h : BK k L rd) (n : Nat) (X : Nat → Sg.S1) : BK (boxK k n X) L rd := by
  have e := box_p k n X
  refine ⟨fun f hf => ?_, fun m hm => by rw [(e m).1]; exact h.st m hm, h.of, h.w2, fun m hm m0 l => by rw [(e m).2.1]; exact h.pa m hm m0 l, fun m hm l => by rw [(e m).2.2.1]; exact h.gp m hm l, h.gl, fun m hm hh => ?_, h.f0, h.f1⟩
  · have : rcn (boxK k n X).p f 20 = rcn k.p f 20 := rcn_congr 20 (fun m _ => ⟨(e m).2.2.2.2.1, fun _ => (e m).2.2.2.1⟩)
    rw [this]; exact h.rc f hf
  · rw [(e m).2.2.2.2.1] at hh
    rw [(e m).2.2.2.1]; exact h.fd m hm hh
theorem KH.bx (kh : KH N d k) (n : Nat) {X : Nat → Sg.S1} (hX : n < 20 → lv k n = true → hd k n ≠ n → Sg.FirTo X 0 0) : KH N d (boxK k n X) :=
  kh.like (kh.ki.box n hX) rfl (fun m => ⟨(box_p k n X m).1, (box_p k n X m).2.1⟩)
theorem BK.stay (h : BK k L rd) (kh : KH N d k) (l : L 1 = 1) {X : Nat → Sg.S1} {y q : Nat} (lt : LobTo (boxK k 1 X) 1 y q k') (no : ∀ m, Sg.FirTo X 0 m → m = 0) : k' = boxK k 1 X ∧ KH N d k' ∧ BK k' L rd := by
  rcases lt with ⟨x, _⟩ | ⟨_, m, fm, y⟩
  · exact absurd (show hd k 1 = 1 from x) (h.hdn kh (by omega) (by omega) (by omega))
  · have e : (boxK k 1 X).p 1 = { k.p 1 with box := X } := put_same _ _ _
    rw [e] at fm
    have m0 := no m fm
    rcases y with ⟨_, rfl⟩ | ⟨x, _⟩
    · exact ⟨rfl, kh.bx 1 (fun _ _ _ => by rw [m0] at fm; exact fm), h.box 1 X⟩
    · exact absurd m0 x
theorem BK.die (h : BK k L rd) (kh : KH N d k) (l : L 1 = 1) {X : Nat → Sg.S1} {y q : Nat} (lt : LobTo (boxK k 1 X) 1 y q k') (yes : ∀ m, Sg.FirTo X 0 m → m = 2) (oy : k.sp.of 1 = y + 1) (pq : (k.p 1).par = (q : Int)) : KH N d k' ∧ BK k' (fun m => if m = 1 then 2 else L m) rd ∧ (k'.p 1).code = 130 ∧ ∀ m, m ≠ 1 → (k'.p m).code = (k.p m).code := by
  rcases lt with ⟨x, _⟩ | ⟨_, m, fm, et⟩
  · exact absurd (show hd k 1 = 1 from x) (h.hdn kh (by omega) (by omega) (by omega))
  · have e : (boxK k 1 X).p 1 = { k.p 1 with box := X } := put_same _ _ _
    rw [e] at fm
    have m2 := yes m fm
    subst m2
    rcases et with ⟨x, _⟩ | ⟨_, et⟩
    · omega
    · have et := et.box
      have lv1' : lv k 1 = true := lv1.2 (by rw [h.st 1 (by omega)]; exact l)
      have o1 := h.of 1 (by omega) (by omega)
      have y0 : y = 0 := by omega
      have p0 : q = 0 := by have := h.pa 1 (by omega) (by omega) (by omega); omega
      have kh' := kh.end (by omega) (by omega) lv1' oy pq et
      have qd := et.qd kh.hx (by omega) lv1'
      have en := et.plain kh.ki.vi.iv kh.ki.vi.hs (by omega) (by omega) o1 y0 p0
      exact ⟨kh', h.en kh kh' qd en (by omega) (by omega) l, en.me.2.1, fun m mn => (en.ot m mn).2.2.2.1⟩
theorem BK.how (h : BK k L rd) (kh : KH N d k) (l : L 1 = 1) {how : Int} (hw : 0 ≤ how ∧ how ≤ 2) {E : Int} (w : HowTo k 1 2 how E k') (no : ∀ m, Sg.FirTo (Sg.howF (k.p 1).box 2 how) 0 m → m = 0) : E = 0 ∧ k' = boxK k 1 (Sg.howF (k.p 1).box 2 how) ∧ KH N d k' ∧ BK k' L rd := by
  have ac : actE k 1 = 0 := actE_of (n := 1) (by omega) (lv1.2 (by rw [h.st 1 (by omega)]; exact l))
  have e : Sg.howE 2 how = 0 := by unfold Sg.howE Sg.isE; rw [if_neg (by decide), if_neg (by omega), if_neg (by decide)]
  rcases w with ⟨a, _⟩ | ⟨_, n, en, hn, eE, w⟩
  · exact absurd ac a
  · have en' : n = 1 := by omega
    subst en'
    rcases w with ⟨x, _⟩ | ⟨_, y, q, lt⟩
    · exact absurd e x
    · have := h.stay kh l lt no
      exact ⟨eE.trans e, this⟩
theorem BK.hold (h : BK k L rd) (kh : KH N d k) (l : L 1 = 1) {on : Bool} {E : Int} (w : HolTo k 1 2 on E k') (no : ∀ m, Sg.FirTo (Sg.holF (k.p 1).box 2 on) 0 m → m = 0) : E = 0 ∧ k' = boxK k 1 (Sg.holF (k.p 1).box 2 on) ∧ KH N d k' ∧ BK k' L rd := by
  have ac : actE k 1 = 0 := actE_of (n := 1) (by omega) (lv1.2 (by rw [h.st 1 (by omega)]; exact l))
  have e : Sg.holE 2 = 0 := by decide
  rcases w with ⟨a, _⟩ | ⟨_, n, en, hn, eE, w⟩
  · exact absurd ac a
  · have en' : n = 1 := by omega
    subst en'
    rcases w with ⟨x, _⟩ | ⟨_, y, q, lt⟩
    · exact absurd e x
    · have := h.stay kh l lt no
      exact ⟨eE.trans e, this⟩
theorem BK.wri (h : BK k L rd) (kh : KH N d k) (l : L 1 = 1) {s : ByteArray} {K : Nat} {E : Int} (w : WriTo k 1 1 s K E k') : E = Pp.wriE k.pi ((0 : Nat) : Int) s ∧ K = Pp.wriK k.pi ((0 : Nat) : Int) s ∧ Pp.opE k.pi ((0 : Nat) : Int) true = 0 ∧ ((E ≠ 12 ∧ k' = fxK k k.fi k.fo (Pp.wriF k.pi ((0 : Nat) : Int) s)) ∨ (E = 12 ∧ ∃ y q, LobTo (senK (fxK k k.fi k.fo (Pp.wriF k.pi ((0 : Nat) : Int) s)) 1 2) 1 y q k' ∧ k.sp.of 1 = y + 1 ∧ (k.p 1).par = (q : Int))) := by
  have ac : actE k 1 = 0 := actE_of (n := 1) (by omega) (lv1.2 (by rw [h.st 1 (by omega)]; exact l))
  have hh := h.has kh (m := 1) (by omega) l
  have f := (h.fd 1 (by omega) hh).2.1
  have r1 := h.r1 kh
  have wr := h.wr kh
  have q1 : Fx.filE k.fi 1 = 0 := by unfold Fx.filE; rw [if_neg (by omega)]; exact if_neg r1
  have th : Pp.thr (k.pi 0) = true := by unfold Pp.thr; simp; omega
  have pe : Pp.pipE k.pi ((0 : Nat) : Int) = 0 := by unfold Pp.pipE; rw [if_neg (by omega), Int.toNat_natCast, if_pos th]
  have op : Pp.opE k.pi ((0 : Nat) : Int) true = 0 := by unfold Pp.opE; rw [pe, if_neg (by decide), Int.toNat_natCast]; exact if_neg wr
  have nu : numE k 1 1 = 0 := by
    unfold numE
    rw [if_pos ac, if_neg (by omega)]
    show (if (k.p 1).fd 1 = -1 then _ else _) = _
    rw [f, if_neg (by decide)]
  rcases w with ⟨ne, _⟩ | ⟨_, n, g, en, eg, hn, g6, _, eK, eE, w⟩
  · exact absurd nu ne
  · have en' : n = 1 := by omega
    have eg' : g = 1 := by omega
    subst en' eg'
    rw [f] at eK eE w
    have wb : ¬ Fx.wriB k.fi 1 := fun x => x.2.1 h.f1.1
    have eE2 : E = Pp.wriE k.pi ((0 : Nat) : Int) s := by
      rw [eE]
      unfold Fx.wriE
      rw [if_neg (fun x => x q1)]
      show (if (k.fi 1).kind = 3 then Pp.wriE k.pi ((k.fi 1).num : Int) s else _) = _
      rw [if_pos h.f1.1, h.f1.2]
    have eK2 : K = Pp.wriK k.pi ((0 : Nat) : Int) s := by
      rw [eK]
      unfold Fx.wriK
      rw [if_neg (fun x => x q1)]
      show (if (k.fi 1).kind = 3 then Pp.wriK k.pi ((k.fi 1).num : Int) s else _) = _
      rw [if_pos h.f1.1, h.f1.2]
    have wx : wriX k 1 s = fxK k k.fi k.fo (Pp.wriF k.pi ((0 : Nat) : Int) s) := by
      unfold wriX
      have a : Fx.wriT k.fi k.fo 1 s = k.fi := if_neg (fun x => wb x.1)
      have b : Fx.wriF k.fi k.fo 1 s = k.fo := if_neg wb
      have c : Fx.wriP k.fi k.pi 1 s = Pp.wriF k.pi ((k.fi 1).num : Int) s := if_pos ⟨q1, h.f1.1⟩
      rw [a, b, c, h.f1.2]
    rw [wx] at w
    refine ⟨eE2, eK2, op, ?_⟩
    rcases w with w | ⟨e12, y, q, lt, oy, pq⟩
    · exact .inl w
    · exact .inr ⟨e12, y, q, lt, oy, (pq (by omega)).2.2⟩
theorem BK.wok (h : BK k L rd) (kh : KH N d k) (l : L 1 = 1) {m : Nat} (hm : m < 20) (lm : L m = 1) (rm : rd m = true) (tx : (k.pi 0).tx.size = 0) {s : ByteArray} (s1 : s.size = 1) {K : Nat} {E : Int} (w : WriTo k 1 1 s K E k') : E = 0 ∧ K = 1 ∧ KH N d k' ∧ BK k' L rd ∧ ∀ m, k'.p m = k.p m := by
  have rr := h.some kh hm lm rm
  obtain ⟨eE, eK, op, w⟩ := h.wri kh l w
  have e0 : Pp.wriE k.pi ((0 : Nat) : Int) s = 0 := by
    unfold Pp.wriE
    rw [op, if_neg (fun x => x rfl), Int.toNat_natCast, if_neg rr, if_neg (fun x => by have := x.2; omega)]
  rw [e0] at eE
  have kw : Pp.wriK k.pi ((0 : Nat) : Int) s = 1 := by unfold Pp.wriK; rw [if_pos e0, Int.toNat_natCast, tx, s1]; rfl
  refine ⟨eE, eK.trans kw, ?_⟩
  rcases w with ⟨_, rfl⟩ | ⟨x, _⟩
  · refine ⟨kh.fx (Nat.le_refl _) (kh.ki.vi.kj.wx.pwri _ _) kh.ki.vi.kj.rf kh.ki.vi.kj.ok, ⟨h.rc, h.st, h.of, h.w2, h.pa, h.gp, h.gl, h.fd, h.f0, h.f1⟩, fun _ => rfl⟩
  · omega
theorem BK.wbad (h : BK k L rd) (kh : KH N d k) (l : L 1 = 1) (no : ∀ m, m < 20 → L m = 1 → rd m = false) {s : ByteArray} {K : Nat} {E : Int} (w : WriTo k 1 1 s K E k') : E = 12 ∧ K = 0 ∧ ∃ y q, LobTo (senK k 1 2) 1 y q k' ∧ k.sp.of 1 = y + 1 ∧ (k.p 1).par = (q : Int) := by
  have rr := h.none kh no
  obtain ⟨eE, eK, op, w⟩ := h.wri kh l w
  have e0 : Pp.wriE k.pi ((0 : Nat) : Int) s = 12 := by
    unfold Pp.wriE
    rw [op, if_neg (fun x => x rfl), Int.toNat_natCast, if_pos rr]
  rw [e0] at eE
  have kw : Pp.wriK k.pi ((0 : Nat) : Int) s = 0 := by unfold Pp.wriK; rw [if_neg (by rw [e0]; decide)]
  have wf : Pp.wriF k.pi ((0 : Nat) : Int) s = k.pi := if_neg (by rw [e0]; decide)
  rw [wf] at w
  refine ⟨eE, eK.trans kw, ?_⟩
  rcases w with ⟨x, _⟩ | ⟨_, w⟩
  · exact absurd eE x
  · exact w
end
end Kn
end Go.Proofs.YtghogbngmcolmaaGreat
namespace Go.Proofs.YtghogbngmcolmaaGreat
open Go.RowKit
open Fx (Fi)
open Tr (Fo Nd)
open Pp (Pi)
open Mo (Wh Mt)
open Mv (Me Bk)
open Kn (Pr Kp St us KB KJ VI EI KH TT BK)
namespace Kn
section
variable {N : Nat} {d : Nat → Nat} {k k' k1 : Kp} {n : Nat} {L L' : Nat → Nat} {rd rd' : Nat → Bool}
theorem BK.cong (h : BK k L rd) (kh : KH N d k) (e : ∀ m, m < 20 → L m = L' m) (r : ∀ m, m < 20 → L m = 1 → rd m = rd' m) : BK k L' rd' := by
  refine ⟨h.rc, fun m hm => by rw [← e m hm]; exact h.st m hm, fun m hm l => h.of m hm (by rw [e m hm]; exact l), by rw [h.w2, e 1 (by omega)], fun m hm m0 l => h.pa m hm m0 (by rw [e m hm]; exact l), fun m hm l => h.gp m hm (by rw [e m hm]; exact l), h.gl, fun m hm hh => ?_, h.f0, h.f1⟩
  rw [← r m hm (by rw [← h.st m hm]; exact kh.ki.vi.kj.hs m hm hh)]
  exact h.fd m hm hh
theorem BK.beg (b : Beg k) (kh : KH N d k) {A C : Nat} {E : Int} (p : NpiTo k 0 A C E k') : E = 0 ∧ A = 0 ∧ C = 1 ∧ BK k' (fun m => if m < 1 then 1 else 0) (fun m => decide (m ≠ 1)) ∧ k'.sp = Sp.entT Sp.t0 ((0 : Nat) : Int) ((0 : Nat) : Int) ∧ (k'.p 0).box = Sg.nul ∧ (k'.pi 0).tx.size = 0 := by
  obtain ⟨e0, eA, eC, tt⟩ := TT.beg b kh p
  obtain ⟨h1, h2, h3⟩ := b.p
  have ac : actE k 0 = 0 := actE_of (n := 0) (by omega) kh.l0
  have form : ∃ (a c : Int) (T : Nat → Fi) (S : Nat → Pi), k' = fdK (fdK (fxK k T k.fo S) 0 A a) 0 C c := by
    rcases p with ⟨x, _⟩ | ⟨_, n, en, hn, q⟩
    · exact absurd ac x
    · have en' : n = 0 := by omega
      subst en'
      rcases q with ⟨_, _, _, e4, _⟩ | ⟨_, a, c, T, S, _, q⟩
      · omega
      · rcases q with ⟨x, _⟩ | ⟨_, _, _, ek⟩
        · exact absurd e0 x
        · exact ⟨_, _, T, S, ek⟩
  obtain ⟨a, c, T, S, ek⟩ := form
  subst eA eC
  have e1 := fdK_p (fxK k T k.fo S) 0 0 a
  have e2 := fdK_p (fdK (fxK k T k.fo S) 0 0 a) 0 1 c
  have st : ∀ m, (k'.p m).st = (k.p m).st := fun m => by rw [ek, (e2 m).1, (e1 m).1]; rfl
  have ha : ∀ m, (k'.p m).has = (k.p m).has := fun m => by rw [ek, (e2 m).2.2.2.1, (e1 m).2.2.2.1]; rfl
  have sp : k'.sp = k.sp := by rw [ek]; rfl
  have l0 : ∀ m, (k.p m).st = if m < 1 then 1 else 0 := fun m => by
    by_cases q : m = 0
    · rw [q, h1]; rfl
    · rw [h2 m q, if_neg (by omega)]; rfl
  refine ⟨e0, rfl, rfl, ⟨tt.rc, fun m _ => by rw [st m, l0 m], fun m hm l => ?_, ?_, fun m hm m0 l => ?_, fun m hm l => ?_, ?_, fun m hm hh => ?_, fun _ => tt.f0, tt.f1⟩, by rw [sp]; exact h3, ?_, by rw [tt.tx]; rfl⟩
  · have m0 : m = 0 := by
      by_cases q : m < 1
      · omega
      · exact absurd (if_neg q) l
    rw [m0, sp, h3]; rfl
  · rw [sp, h3]; rfl
  · exact absurd (if_neg (by omega)) l
  · have m0 : m = 0 := by
      by_cases q : m < 1
      · omega
      · exact absurd (if_neg q) l
    subst m0
    have : (k'.p 0).grp = (k.p 0).grp := by
      rw [ek]; unfold fdK; rw [put_same, put_same]; rfl
    rw [this, h1]; rfl
  · have g : k'.gr = k.gr := by rw [ek]; rfl
    rw [g]
    obtain ⟨m, m', rfl⟩ := b
    have := chgT_l Gr.t0 Gr.W0 0 1 0 0
    show (Gr.chgT Gr.t0 Gr.W0 0 1 0 0).lp = -1 ∧ (Gr.chgT Gr.t0 Gr.W0 0 1 0 0).lq = -1
    rw [this.1, this.2]
    exact ⟨rfl, rfl⟩
  · have t := tt.fd m hm hh
    rw [ha m] at hh
    have m0 : m = 0 := by
      by_cases q : m = 0
      · exact q
      · rw [h2 m q] at hh; cases hh
    subst m0
    refine ⟨t.1, t.2, fun j j2 j6 => ?_⟩
    rw [ek, (e2 0).2.2.2.2, if_pos rfl, (e1 0).2.2.2.2, if_pos rfl]
    show (if j = 1 then c else if j = 0 then a else (k.p 0).fd j) = -1
    rw [if_neg (by omega), if_neg (by omega), h1]
    exact if_pos j6
  · rw [ek, (e2 0).2.2.1, (e1 0).2.2.1]
    show (k.p 0).box = _
    rw [h1]; rfl
theorem low_first : Sp.low (Sp.entT Sp.t0 ((0 : Nat) : Int) ((0 : Nat) : Int)) 0 = 2 := by decide
theorem pid_first : Sp.pidN (Sp.entT (Sp.entT Sp.t0 ((0 : Nat) : Int) ((0 : Nat) : Int)) ((0 : Nat) : Int) ((1 : Nat) : Int)) ((1 : Nat) : Int) ((Sp.inN (Sp.entT (Sp.entT Sp.t0 ((0 : Nat) : Int) ((0 : Nat) : Int)) ((0 : Nat) : Int) ((1 : Nat) : Int)) ((0 : Nat) : Int) : Nat) : Int) = 2 := by decide
def gN (L : Nat → Nat) : Nat → Nat
  | 0 => 0
  | M + 1 => gN L M + if M ≠ 0 ∧ L M = 2 then 1 else 0
theorem gN_pos : ∀ M, gN L M ≠ 0 → ∃ x, x < M ∧ x ≠ 0 ∧ L x = 2
  | 0, h => absurd rfl h
  | M + 1, h => by
    by_cases c : M ≠ 0 ∧ L M = 2
    · exact ⟨M, by omega, c⟩
    · have h' : gN L M + (if M ≠ 0 ∧ L M = 2 then 1 else 0) ≠ 0 := h
      rw [if_neg c] at h'
      obtain ⟨x, a, b⟩ := gN_pos M h'
      exact ⟨x, by omega, b⟩
theorem gN_set {m : Nat} (m0 : m ≠ 0) (l : L m = 2) : ∀ M, gN (fun i => if i = m then 0 else L i) M + (if m < M then 1 else 0) = gN L M
  | 0 => rfl
  | M + 1 => by
    have ih := gN_set m0 l M
    show gN (fun i => if i = m then 0 else L i) M + (if M ≠ 0 ∧ (if M = m then 0 else L M) = 2 then 1 else 0) + _ = gN L M + (if M ≠ 0 ∧ L M = 2 then 1 else 0)
    generalize gN (fun i => if i = m then 0 else L i) M = A at ih ⊢
    by_cases c : M = m
    · subst c
      rw [if_neg (Nat.lt_irrefl _)] at ih
      rw [if_pos rfl, if_neg (fun x => absurd x.2 (by decide)), if_pos (by omega), if_pos ⟨m0, l⟩]
      omega
    · rw [if_neg c]
      by_cases q : m < M
      · rw [if_pos q] at ih; rw [if_pos (show m < M + 1 by omega)]; omega
      · rw [if_neg q] at ih; rw [if_neg (show ¬ m < M + 1 by omega)]; omega
theorem gN_all (R : Nat) : ∀ M, gN (fun m => if m < 1 then 1 else if m < R + 2 then 2 else 0) M = min M (R + 2) - 1
  | 0 => by show 0 = _; omega
  | M + 1 => by
    show gN _ M + (if M ≠ 0 ∧ (if M < 1 then 1 else if M < R + 2 then 2 else 0) = 2 then 1 else 0) = _
    rw [gN_all R M]
    by_cases a : M = 0
    · subst a; rw [if_neg (fun x => x.1 rfl)]; omega
    · by_cases b : M < R + 2
      · have v : (if M < 1 then 1 else if M < R + 2 then 2 else 0) = 2 := by rw [if_neg (show ¬ M < 1 by omega), if_pos b]
        rw [if_pos ⟨a, v⟩]; omega
      · have v : (if M < 1 then 1 else if M < R + 2 then 2 else 0) = 0 := by rw [if_neg (show ¬ M < 1 by omega), if_neg b]
        rw [if_neg (fun x => by rw [v] at x; exact absurd x.2 (by decide))]; omega
end
end Kn
end Go.Proofs.YtghogbngmcolmaaGreat

import Derived.Test.YtghogbngmcolmaaGreatQbq
namespace Go.Proofs.YtghogbngmcolmaaGreat
open Go.RowKit
open Tr (Fo Nd)
open Mo (Wh Mt)
open Mv (Me Bk)
open Kn (Pr Kp St us KB KJ VI EI KH)
namespace Kn
section
variable {N : Nat} {d : Nat → Nat} {k k' : Kp} {cd : Nat → Int} {en : Nat → Bool}
theorem TK.in0 (t : TK k cd en) {n : Nat} (hn : n < 20) (s : (k.p n).st ≠ 0) : Sp.inN k.sp (n : Int) = 0 := Sp.inN_of hn (t.s0 n hn s)
theorem KH.in0 (h : KH N d k) : Sp.inN k.sp ((0 : Nat) : Int) = 0 := Sp.inN_of (n := 0) (z := 0) (by omega) h.ki.vi.hs.r0.1
theorem TK.fork (t : TK k cd en) (h : KH N d k) {z : Int} {p : Nat} {E : Int} (f : ForTo k z false p E k') : (E ≠ 0 → k' = k) ∧ (E = 0 → 2 ≤ p ∧ p ≤ 20 ∧ en p = false ∧ TK k' cd en) := by
  have hk := h.fork f
  rcases f with ⟨a, e, _, rfl⟩ | ⟨a, n, c, F, Wy, rfl, hn, fr, ways, f⟩
  · exact ⟨fun _ => rfl, fun q => absurd (e.symm.trans q) a⟩
  · have l : Kn.lv k n = true := actE_lv a
    have ns : (k.p n).st ≠ 0 := by rw [lv1.1 l]; omega
    rcases f with ⟨q, e, _, rfl⟩ | ⟨_, q, e, _, rfl⟩ | ⟨_, _, q, _⟩ | ⟨f0, ch, hm, e0, m', wk, ek, ep⟩
    · exact ⟨fun _ => rfl, fun r => absurd (e.symm.trans r) q⟩
    · exact ⟨fun _ => rfl, fun r => absurd (e.symm.trans r) q⟩
    · exact absurd (homK_no (chgK k Wy n) n).2 q
    · refine ⟨fun q => absurd e0 q, fun _ => ?_⟩
      have c20 : c < 20 ∧ (k.p c).st = 0 := by
        rcases fr with q | q
        · exact ⟨q.2.1, q.2.2.1⟩
        · omega
      have oc : k.sp.of c = 0 := by
        by_cases e : k.sp.of c = 0
        · exact e
        · exact absurd c20.2 ((h.ki.vi.kj.of c c20.1).1 e)
      have y6 : k.sp.here 0 = true := h.ki.vi.iv.tree.root.1
      have en0 : homN (chgK k Wy n) n false = 0 := t.in0 hn ns
      rw [(homK_no (chgK k Wy n) n).1, en0] at ek
      have esp : k'.sp = Sp.entT k.sp ((0 : Nat) : Int) (c : Int) := by rw [ek]; show Sp.entT (copK (chgK k Wy n) n).sp _ _ = _; rw [(cop_same _ n).1]; rfl
      have e2 : k'.p c = chP (chgK k Wy n) n := by rw [ek]; exact put_same _ _ _
      have e1 : ∀ m, m ≠ c → k'.p m = k.p m := fun m q => by
        rw [ek]
        refine (show (staK (copK (chgK k Wy n) n) c (chP (chgK k Wy n) n) ((0 : Nat) : Int) m').p m = (copK (chgK k Wy n) n).p m from put_ne _ _ _ _ q).trans ?_
        rw [(cop_same _ n).2.2]; rfl
      have c1 : (k'.p c).st = 1 := by rw [e2]; exact lv1.1 l
      have of' : ∀ m, k'.sp.of m = if m = c then 1 else k.sp.of m := fun m => by rw [esp, Sp.ent_of (by omega) y6 c20.1 oc]
      have keep : ∀ p, k.sp.who 0 p ≠ 0 → k'.sp.who 0 p = k.sp.who 0 p := fun p hw => by rw [esp, Sp.ent_keep h.ki.vi.iv (by omega) y6 c20.1 oc (by omega) hw]
      have back : ∀ p m, p < 21 → k'.sp.who 0 p = m + 1 → m ≠ c → k.sp.who 0 p = m + 1 := fun p m hp e mc => by
        rw [esp, Sp.ent_who (by omega) y6 c20.1 oc] at e
        by_cases q : 0 ∈ Sp.W k.sp ((0 : Nat) : Int) ∧ p = Sp.low k.sp 0
        · rw [if_pos q] at e; omega
        · rw [if_neg q] at e; exact e
      have t' : TK k' cd en := by
        refine ⟨fun m hm s => ?_, fun p p2 p20 => ?_, fun p m p20 hm e s => ?_⟩
        · rw [of']
          by_cases q : m = c
          · rw [if_pos q]
          · rw [if_neg q]; rw [e1 m q] at s; exact t.s0 m hm s
        · rw [t.en p p2 p20]
          constructor
          · rintro ⟨m, hm, e, s⟩
            have mc : m ≠ c := fun q => by subst q; omega
            exact ⟨m, hm, by rw [keep p (by omega)]; exact e, by rw [e1 m mc]; exact s⟩
          · rintro ⟨m, hm, e, s⟩
            have mc : m ≠ c := fun q => by subst q; omega
            exact ⟨m, hm, back p m (by omega) e mc, by rw [← e1 m mc]; exact s⟩
        · have mc : m ≠ c := fun q => by subst q; omega
          rw [e1 m mc] at s ⊢
          exact t.cd p m p20 hm (back p m (by omega) e mc) s
      obtain ⟨d', h'⟩ := hk
      have ns' : (k'.p n).st ≠ 0 := by
        have nc : n ≠ c := fun q => by subst q; exact ns c20.2
        rw [e1 n nc]; exact ns
      obtain ⟨p', pe, p1, p20, pw⟩ := t'.pid h' c20.1 (by omega)
      have ee : p = p' := by
        rw [ep, t'.in0 hn ns', ← pe, h'.in0]
      subst ee
      have pn1 : p ≠ 1 := fun q => by
        subst q
        rw [h'.ki.vi.hs.r0.2] at pw
        have : c = 0 := by omega
        subst this
        have := lv1.1 h.l0
        omega
      have pw0 : k.sp.who 0 p = 0 := by
        by_cases q : k.sp.who 0 p = 0
        · exact q
        · exfalso
          rw [keep p q] at pw
          exact (h.ki.vi.iv.mem_of (z := 0) (by omega) c20.1 ⟨p, by omega, pw⟩).1 oc
      refine ⟨by omega, p20, ?_, t'⟩
      cases v : en p
      · rfl
      · obtain ⟨m, _, e, _⟩ := (t.en p (by omega) p20).1 v
        omega
theorem TK.exit (t : TK k cd en) (h : KH N d k) {z c : Int} (e : ExiTo k z c k') : (exiE k z c ≠ 0 → k' = k) ∧ (exiE k z c = 0 → actE k z = 0 ∧ 2 ≤ selN k z ∧ selN k z ≤ 20 ∧ TK k' (updZ cd (selN k z) c) (updB en (selN k z) true)) := by
  rcases e with ⟨q, rfl⟩ | ⟨e0, n, y, q, rfl, hn, n0, l, oy, q20, qn, hp, et⟩
  · exact ⟨fun _ => rfl, fun r => absurd r q⟩
  · refine ⟨fun r => absurd e0 r, fun _ => ?_⟩
    have ns : (k.p n).st ≠ 0 := by rw [lv1.1 l]; omega
    have a : actE k (n : Int) = 0 := actE_of hn l
    obtain rfl : y = 0 := by have := t.s0 n hn ns; omega
    have hdn := t.hdn h hn n0 ns
    obtain ⟨p, pe, p1, p20, pw⟩ := t.pid h hn ns
    have se : selN k (n : Int) = p := by
      unfold selN
      rw [if_pos a, t.in0 hn ns, ← pe, h.in0]
    have pn1 : p ≠ 1 := fun q => by
      subst q
      rw [h.ki.vi.hs.r0.2] at pw
      omega
    rw [se]
    refine ⟨a, by omega, p20, ?_⟩
    obtain ⟨k1, k3, s1, mt, rfl⟩ := et
    have md := h.ki.vi.end_mid hn n0 l oy s1 mt
    have mq := h.ki.vi.mq hn n0 l oy s1 mt
    have sp3 := mq.sa hdn
    have oth : ∀ m, m < 20 → m ≠ n → k3.p m = k.p m := fun m hm mn => by
      rcases mq.ot m hm mn with x | x
      · exact x.1
      · exact absurd x.2.2.2 hdn
    have esp : (kidK (adK k3 (chL k3 n) (Sp.findN k3.sp ((0 : Nat) : Int) 1 : Nat)) q).sp = k.sp := by
      unfold kidK
      split <;> exact sp3
    have est : ∀ m, ((kidK (adK k3 (chL k3 n) (Sp.findN k3.sp ((0 : Nat) : Int) 1 : Nat)) q).p m).st = (k3.p m).st ∧ ((kidK (adK k3 (chL k3 n) (Sp.findN k3.sp ((0 : Nat) : Int) 1 : Nat)) q).p m).code = (k3.p m).code := fun m => by
      unfold kidK
      split
      · unfold senK
        by_cases e : m = q
        · subst e; rw [put_same]; exact ⟨rfl, rfl⟩
        · rw [put_ne _ _ _ _ e]; exact ⟨rfl, rfl⟩
      · exact ⟨rfl, rfl⟩
    have one : ∀ p' m, p' < 21 → m < 20 → k.sp.who 0 p' = m + 1 → (m = n ↔ p' = p) := fun p' m hp' hm e => by
      constructor
      · intro q
        subst q
        exact h.ki.vi.iv.one 0 p' p (by omega) hp' (by omega) (by rw [e, pw]) (by omega)
      · intro q
        subst q
        omega
    refine ⟨fun m hm s => ?_, fun p' p2 p20' => ?_, fun p' m p20' hm e s => ?_⟩
    · rw [esp]
      rw [(est m).1] at s
      by_cases mn : m = n
      · rw [mn]; exact oy
      · rw [oth m hm mn] at s; exact t.s0 m hm s
    · rw [esp]
      by_cases q : p' = p
      · subst q
        rw [updB_same]
        exact ⟨fun _ => ⟨n, hn, pw, by rw [(est n).1]; exact md.pn.1⟩, fun _ => rfl⟩
      · rw [updB_ne _ _ _ _ q, t.en p' p2 p20']
        constructor
        · rintro ⟨m, hm, e, s⟩
          have mn : m ≠ n := fun x => q ((one p' m (by omega) hm e).1 x)
          exact ⟨m, hm, e, by rw [(est m).1, oth m hm mn]; exact s⟩
        · rintro ⟨m, hm, e, s⟩
          have mn : m ≠ n := fun x => q ((one p' m (by omega) hm e).1 x)
          rw [(est m).1, oth m hm mn] at s
          exact ⟨m, hm, e, s⟩
    · rw [esp] at e
      rw [(est m).1] at s
      rw [(est m).2]
      by_cases q : p' = p
      · subst q
        have mn := (one p' m (by omega) hm e).2 rfl
        subst mn
        rw [updZ_same, md.pn.2.2.2]
      · rw [updZ_ne _ _ _ _ q]
        have mn : m ≠ n := fun x => q ((one p' m (by omega) hm e).1 x)
        rw [oth m hm mn] at s ⊢
        exact t.cd p' m p20' hm e s
theorem TK.wait (t : TK k cd en) (h : KH N d k) {z : Int} {p : Nat} {c E : Int} (w : WaiTo k z p c E k') : (E ≠ 0 → k' = k) ∧ (E = 0 → 2 ≤ p ∧ p ≤ 20 ∧ en p = true ∧ c = cd p ∧ TK k' cd (updB en p false) ∧ seeE k' 0 (p : Int) = 2) := by
  have h' := h.wait w
  rcases w with ⟨a, e, _, _, rfl⟩ | ⟨a, n, rfl, hn, w⟩
  · exact ⟨fun _ => rfl, fun q => absurd (e.symm.trans q) a⟩
  · rcases w with ⟨_, e, _, _, rfl⟩ | ⟨_, _, e, _, _, rfl⟩ | ⟨e0, i, m, hi, lm, _, ep, ec, v⟩
    · exact ⟨fun _ => rfl, fun q => by omega⟩
    · exact ⟨fun _ => rfl, fun q => by omega⟩
    · refine ⟨fun q => absurd e0 q, fun _ => ?_⟩
      have l : Kn.lv k n = true := actE_lv a
      have ns : (k.p n).st ≠ 0 := by rw [lv1.1 l]; omega
      obtain ⟨m20, m0, _, ms, _, _⟩ := h.chil hn l (List.mem_of_getElem? hi)
      obtain ⟨x, ox⟩ := h.of m20 ms
      have m2 : (k.p m).st = 2 := by
        have := h.ki.vi.kj.st m m20
        have : (k.p m).st ≠ 1 := fun e => by rw [lv1.2 e] at lm; cases lm
        omega
      obtain ⟨_, pno, o0, oth, whs⟩ := h.van m20 m0 m2 ox v
      obtain ⟨p', pe, p1, p20, pw⟩ := t.pid h m20 ms
      have ee : p = p' := by rw [ep, t.in0 hn ns, ← pe, h.in0]
      subst ee
      have pn1 : p ≠ 1 := fun q => by
        subst q
        rw [h.ki.vi.hs.r0.2] at pw
        omega
      have one : ∀ p' x, p' < 21 → x < 20 → k.sp.who 0 p' = x + 1 → (x = m ↔ p' = p) := fun p' x hp' hx e => by
        constructor
        · intro q
          subst q
          exact h.ki.vi.iv.one 0 p' p (by omega) hp' (by omega) (by rw [e, pw]) (by omega)
        · intro q
          subst q
          omega
      have wp : k'.sp.who 0 p = 0 := by rw [whs 0 p (by omega) (by omega), if_pos pw]
      refine ⟨by omega, p20, (t.en p (by omega) p20).2 ⟨m, m20, pw, m2⟩, by rw [ec]; exact (t.cd p m p20 m20 pw m2).symm, ⟨fun y hy s => ?_, fun p' p2 p20' => ?_, fun p' y p20' hy e s => ?_⟩, ?_⟩
      · have ym : y ≠ m := fun q => by rw [q, pno] at s; exact s rfl
        rw [(oth y hy ym).1] at s
        rw [(oth y hy ym).2]; exact t.s0 y hy s
      · by_cases q : p' = p
        · subst q
          rw [updB_same]
          exact ⟨fun q => (by cases q), fun ⟨y, _, e, _⟩ => by omega⟩
        · rw [updB_ne _ _ _ _ q, t.en p' p2 p20']
          constructor
          · rintro ⟨y, hy, e, s⟩
            have ym : y ≠ m := fun r => q ((one p' y (by omega) hy e).1 r)
            exact ⟨y, hy, by rw [whs 0 p' (by omega) (by omega), if_neg (by omega)]; exact e, by rw [(oth y hy ym).1]; exact s⟩
          · rintro ⟨y, hy, e, s⟩
            rw [whs 0 p' (by omega) (by omega)] at e
            by_cases r : k.sp.who 0 p' = m + 1
            · rw [if_pos r] at e; omega
            · rw [if_neg r] at e
              have ym : y ≠ m := fun u => q ((one p' y (by omega) hy e).1 u)
              rw [(oth y hy ym).1] at s
              exact ⟨y, hy, e, s⟩
      · rw [whs 0 p' (by omega) (by omega)] at e
        by_cases r : k.sp.who 0 p' = m + 1
        · rw [if_pos r] at e; omega
        · rw [if_neg r] at e
          have ym : y ≠ m := fun u => by subst u; exact r e
          rw [(oth y hy ym).1] at s ⊢
          exact t.cd p' y p20' hy e s
      · rw [h'.see0, Int.toNat_natCast, if_pos (.inr (.inr wp))]
end
end Kn
end Go.Proofs.YtghogbngmcolmaaGreat

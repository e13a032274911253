import Derived.Test.YtghogbngmcolmaaGreatSbj
namespace Go.Proofs.YtghogbngmcolmaaGreat
open Go.RowKit
open Fx (Fi)
open Tr (Fo Nd)
open Pp (Pi)
open Mo (Wh Mt)
open Mv (Me Bk)
open Kn (Pr Kp St us KB KJ VI EI KH)
def Kn.NpiTo (k : Kp) (z : Int) (A C : Nat) (E : Int) (k' : Kp) : Prop :=
  (Kn.actE k z ≠ 0 ∧ A = 0 ∧ C = 0 ∧ E = Kn.actE k z ∧ k' = k)
  ∨ (Kn.actE k z = 0 ∧ ∃ n : Nat, z = n ∧ n < 20 ∧ ((¬ 2 ≤ (Kn.fdL k n 6).length ∧ A = 0 ∧ C = 0 ∧ E = 4 ∧ k' = k)
    ∨ (2 ≤ (Kn.fdL k n 6).length ∧ ∃ (a c : Nat) (T : Nat → Fi) (S : Nat → Pi), Fx.PipTo k.fi k.pi a c E T S ∧ ((E ≠ 0 ∧ A = 0 ∧ C = 0 ∧ k' = Kn.fxK k T k.fo S) ∨ (E = 0 ∧ A = (Kn.fdL k n 6).getD 0 0 ∧ C = (Kn.fdL k n 6).getD 1 0 ∧ k' = Kn.fdK (Kn.fdK (Kn.fxK k T k.fo S) n A (a : Int)) n C (c : Int))))))
section
variable (base N : Nat) (d : Nat → Nat) (s : St) (w : World)
set_option maxRecDepth 100000 in
set_option maxHeartbeats 2000000 in
theorem knpipe_any (z : Int) (h : KKt w base s) :
    Calls Tryz.prog 7 #[.pointer (some ⟨s.A 0, 0, none⟩), .int .i64 z] w fun e w' => ∃ (A C : Nat) (E : Int) (k' : Kp), e = .returned (.tuple #[.int .i64 (A : Int), .int .i64 (C : Int), errV E]) ∧ Kn.NpiTo s.k z A C E k' ∧ KKt w' base { s with k := k' } ∧ KF s w { s with k := k' } w' := by
  have AC := Hid.intro (kacting_any base s w z h)
  have H := Hid.intro h
  by_cases a : Kn.actE s.k z = 0
  · obtain ⟨n, rfl, hn, hl⟩ := Kn.actE_ok a
    have HA := Hid.intro a
    rw [a, errV_zero, aptE_ok] at AC
    have FR1 := Hid.intro (kpfree_any base s w n h hn)
    obtain ⟨kb, hkb⟩ : ∃ kb, s.A 0 = kb := ⟨_, rfl⟩
    obtain ⟨a8, ha8⟩ : ∃ a8, s.A 8 = a8 := ⟨_, rfl⟩
    have HK := Hid.intro (And.intro hkb ha8)
    rw [hkb] at AC FR1 ⊢
    clear h a hl hkb ha8
    go_enter Tryz.func7, Tryz.ntmps7
    go_wp2_with fail
    refine AC.out.mono ?_
    rintro e w1 ⟨rfl, hw⟩
    subst w1
    go_wp2_with fail
    refine FR1.out.mono ?_
    rintro e w1 ⟨v, rfl, lo⟩
    have K1 : Hid (KKt w1 base s ∧ KF s w s w1) := Hid.intro ⟨H.out.below lo.bel, KF.below lo.bel⟩
    by_cases l2 : 2 ≤ (Kn.fdL s.k n 6).length
    · obtain ⟨gg, cap, hv, hgg, hc⟩ := lo.cells (by omega)
      obtain ⟨f, g, hf, hg, f6, g6, fg⟩ := Kn.fdL_two l2
      have y0 := hc 0 (by omega)
      have y1 := hc 1 (by omega)
      rw [hf] at y0
      rw [hg] at y1
      have fI : (f : Int) < 6 := by omega
      have gI : (g : Int) < 6 := by omega
      have GB : Hid (∀ i, us s i → gg ≠ s.A i) := Hid.intro (fun i hi e => by
        have := H.out.lt hi
        have q := lo.own
        rw [hv] at q
        have q2 := q.lt gg rfl
        omega)
      have L3 := Hid.intro (And.intro hf hg)
      have L2 : Hid (2 ≤ (Kn.fdL s.k n 6).length ∧ (Kn.fdL s.k n 6).getD 0 0 = f ∧ (Kn.fdL s.k n 6).getD 1 0 = g) := Hid.intro ⟨l2, hf, hg⟩
      rw [hv]
      have hlm := Kn.fdL_len s.k n 6
      generalize (Kn.fdL s.k n 6).length = M at l2 hlm y0 y1 ⊢
      have lI : ((M : Int) < 2) = False := by simp; omega
      have M0 : (0 : Int) < (M : Int) := by omega
      have M1 : (1 : Int) < (M : Int) := by omega
      clear hv hc lo hf hg
      have c8 := K1.out.1.cFi
      rw [HK.out.1, HK.out.2] at c8
      have XP := Hid.intro (xpipe_any (s.A 8) (s.A 6) (s.A 7) s.k.fi s.k.fo s.k.pi w1 K1.out.1.fx)
      rw [HK.out.2] at XP
      go_wp2_with fail
      refine XP.out.mono ?_
      rintro e w2 ⟨a, c, E, T, S, rfl, pt, u2, f2⟩
      have S2 : Hid (KKt w2 base { s with k := Kn.fxK s.k T s.k.fo S } ∧ KF s w { s with k := Kn.fxK s.k T s.k.fo S } w2) := Hid.intro (by
        rw [← HK.out.2] at u2 f2
        have q := K1.out.1.setFX u2 f2
        exact ⟨q.1, K1.out.2.trans q.2⟩)
      have PT := Hid.intro pt
      have G2 : Hid (gg < w2.heap.size) := Hid.intro (Nat.lt_of_lt_of_le hgg f2.size)
      have YY : Hid (w2.cell? ⟨gg, 0, none⟩ = some (.int .i64 (f : Int)) ∧ w2.cell? ⟨gg, 1, none⟩ = some (.int .i64 (g : Int))) := Hid.intro (by
        have e := f2.block gg hgg (by rw [← HK.out.2]; exact GB.out 8 (us9 (by omega))) (GB.out 6 (us9 (by omega))) (GB.out 7 (us9 (by omega)))
        exact ⟨(World.cell?_of_block e).trans y0, (World.cell?_of_block e).trans y1⟩)
      clear u2 f2 c8 pt
      by_cases e0 : E = 0
      · have E0 := Hid.intro e0
        rw [e0, errV_zero]
        clear e0
        go_upto_region 10 with fail
        obtain ⟨x0, x1⟩ := YY.out
        have gk : gg ≠ kb := by rw [← HK.out.1]; exact GB.out 0 (us9 (by omega))
        obtain ⟨W3, hW3⟩ : ∃ W3, w2.setCell ⟨kb, n * 12 + 6 + f, none⟩ (.int .i64 (a : Int)) = W3 := ⟨_, rfl⟩
        obtain ⟨W4, hW4⟩ : ∃ W4, W3.setCell ⟨kb, n * 12 + 6 + g, none⟩ (.int .i64 (c : Int)) = W4 := ⟨_, rfl⟩
        have S3 : Hid (KKt W3 base { s with k := Kn.fdK (Kn.fxK s.k T s.k.fo S) n f (a : Int) } ∧ KF s w { s with k := Kn.fdK (Kn.fxK s.k T s.k.fo S) n f (a : Int) } W3) := Hid.intro (by
          have q := S2.out.1.setFd hn f6 (a : Int)
          rw [show ({ s with k := Kn.fxK s.k T s.k.fo S } : St).A 0 = kb from HK.out.1, hW3] at q
          exact ⟨q.1, S2.out.2.trans q.2⟩)
        have S4 : Hid (KKt W4.drew base { s with k := Kn.fdK (Kn.fdK (Kn.fxK s.k T s.k.fo S) n f (a : Int)) n g (c : Int) } ∧ KF s w { s with k := Kn.fdK (Kn.fdK (Kn.fxK s.k T s.k.fo S) n f (a : Int)) n g (c : Int) } W4.drew) := Hid.intro (by
          have q := S3.out.1.setFd hn g6 (c : Int)
          rw [show ({ s with k := Kn.fdK (Kn.fxK s.k T s.k.fo S) n f (a : Int) } : St).A 0 = kb from HK.out.1, hW4] at q
          exact ⟨q.1.drew, S3.out.2.trans (q.2.trans (KF.drew _ _))⟩)
        have b3 : W3.heap[gg]? = w2.heap[gg]? := by
          rw [← hW3]
          have ff : Frm kb w2 (w2.setCell ⟨kb, n * 12 + 6 + f, none⟩ (.int .i64 (a : Int))) := (Frm.refl _ _).setCell _ _
          exact ff.block gg G2.out gk
        have b4 : W4.heap[gg]? = W3.heap[gg]? := by
          rw [← hW4]
          have ff : Frm kb W3 (W3.setCell ⟨kb, n * 12 + 6 + g, none⟩ (.int .i64 (c : Int))) := (Frm.refl _ _).setCell _ _
          exact ff.block gg (by rw [← hW3]; simp; exact G2.out) gk
        have Y3 : Hid (W3.drew.cell? ⟨gg, 0, none⟩ = some (.int .i64 (f : Int)) ∧ W3.drew.cell? ⟨gg, 1, none⟩ = some (.int .i64 (g : Int))) := Hid.intro ⟨(World.cell?_of_block b3).trans x0, (World.cell?_of_block b3).trans x1⟩
        have Y4 : Hid (W4.drew.cell? ⟨gg, 0, none⟩ = some (.int .i64 (f : Int)) ∧ W4.drew.cell? ⟨gg, 1, none⟩ = some (.int .i64 (g : Int))) := Hid.intro ⟨(World.cell?_of_block (b4.trans b3)).trans x0, (World.cell?_of_block (b4.trans b3)).trans x1⟩
        rw [← hW4, ← hW3] at S4 Y4
        rw [← hW3] at Y3
        have cf := S2.out.1.cFd n f hn f6
        have cg := S2.out.1.cFd n g hn g6
        have fz := S2.out.1.frozen
        rw [show ({ s with k := Kn.fxK s.k T s.k.fo S } : St).A 0 = kb from HK.out.1] at cf cg fz
        generalize (({ s with k := Kn.fxK s.k T s.k.fo S } : St).k.p n).fd f = vf at cf
        generalize (({ s with k := Kn.fxK s.k T s.k.fo S } : St).k.p n).fd g = vg at cg
        have m0 : 0 < M := by omega
        have m1 : 1 < M := by omega
        have m00 : ¬ M = 0 := by omega
        have m11 : ¬ M ≤ 1 := by omega
        have m12 : ¬ (M : Int) ≤ 1 := by omega
        clear hW3 hW4 b3 b4 S3
        go_region_held3 (fun w' => w'.cell? ⟨gg, 0, none⟩ = some (.int .i64 (f : Int)) ∧ w'.cell? ⟨gg, 1, none⟩ = some (.int .i64 (g : Int))) (first | exact YY.out | exact Y3.out | exact Y4.out | go_keep) (fail)
        generalize ((w2.setCell ⟨kb, n * 12 + 6 + f, none⟩ (.int .i64 (a : Int))).setCell ⟨kb, n * 12 + 6 + g, none⟩ (.int .i64 (c : Int))).drew = W5 at *
        clear cf cg fz x0 x1 Y3 YY S2
        go_upto_region 11 with fail
        obtain ⟨x0, x1⟩ := Y4.out
        have Y5 : Hid (W5.drew.cell? ⟨gg, 0, none⟩ = some (.int .i64 (f : Int)) ∧ W5.drew.cell? ⟨gg, 1, none⟩ = some (.int .i64 (g : Int))) := Hid.intro ⟨x0, x1⟩
        go_region_held3 (fun w' => w'.cell? ⟨gg, 0, none⟩ = some (.int .i64 (f : Int)) ∧ w'.cell? ⟨gg, 1, none⟩ = some (.int .i64 (g : Int))) (first | exact Y4.out | exact Y5.out | go_keep) (fail)
        go_wp2_with fail
        go_ret3
        exact ⟨f, g, 0, by rw [errV_zero]; rfl, Kn.fdK (Kn.fdK (Kn.fxK s.k T s.k.fo S) n f (a : Int)) n g (c : Int), .inr ⟨HA.out, n, rfl, hn, .inr ⟨L2.out.1, a, c, T, S, by rw [← E0.out]; exact PT.out, .inr ⟨rfl, L2.out.2.1.symm, L2.out.2.2.symm, rfl⟩⟩⟩, S4.out.1.drew, S4.out.2.trans (KF.drew _ _)⟩
      · have HE := Hid.intro (errV_ne e0)
        have FIN : Hid (Kn.NpiTo s.k (n : Int) 0 0 E (Kn.fxK s.k T s.k.fo S)) := Hid.intro (.inr ⟨HA.out, n, rfl, hn, .inr ⟨L2.out.1, a, c, T, S, PT.out, .inl ⟨e0, rfl, rfl, rfl⟩⟩⟩)
        rw [errV_ne e0]
        clear e0
        go_wp2_with fail
        go_ret3
        exact ⟨0, 0, E, _, by rw [HE.out]; rfl, FIN.out, S2.out⟩
    · have FIN : Hid (Kn.NpiTo s.k (n : Int) 0 0 4 s.k) := Hid.intro (.inr ⟨HA.out, n, rfl, hn, .inl ⟨l2, rfl, rfl, rfl, rfl⟩⟩)
      obtain ⟨a, cap, hv⟩ := own_form lo.own
      rw [hv]
      generalize (Kn.fdL s.k n 6).length = M at *
      have lI : ((M : Int) < 2) := by omega
      clear hv lo l2
      go_wp2_with fail
      go_ret3
      exact ⟨0, 0, 4, s.k, by rw [errV_ne (by decide)]; rfl, FIN.out, K1.out⟩
  · have FIN : Hid (Kn.NpiTo s.k z 0 0 (Kn.actE s.k z) s.k) := Hid.intro (.inl ⟨a, rfl, rfl, rfl, rfl⟩)
    have HE := Hid.intro (errV_ne a)
    rw [errV_ne a] at AC
    clear h a
    generalize aptE (s.A 0) z (Kn.actE s.k z) = ap at *
    generalize s.A 0 = kb at *
    go_enter Tryz.func7, Tryz.ntmps7
    go_wp2_with fail
    refine AC.out.mono ?_
    rintro e w1 ⟨rfl, hw⟩
    subst w1
    go_wp2_with fail
    go_ret3
    exact ⟨0, 0, Kn.actE s.k z, s.k, by rw [HE.out]; rfl, FIN.out, H.out, KF.refl _ _⟩
end
end Go.Proofs.YtghogbngmcolmaaGreat
namespace Go.Proofs.YtghogbngmcolmaaGreat
open Go.RowKit
open Fx (Fi)
open Tr (Fo Nd)
open Pp (Pi)
open Mo (Wh Mt)
open Mv (Me Bk)
open Kn (Pr Kp St us KB KJ VI EI KH)
namespace Kn
def fc (fd : Nat → Int) (f : Nat) : Nat → Nat
  | 0 => 0
  | j + 1 => fc fd f j + if fd j = (f : Int) then 1 else 0
def pcn (x : Pr) (f : Nat) : Nat := if x.has = true then fc x.fd f 6 else 0
def rcn (p : Nat → Pr) (f : Nat) : Nat → Nat
  | 0 => 0
  | m + 1 => rcn p f m + pcn (p m) f
def RC (k : Kp) : Prop := ∀ f, f < 24 → (k.fi f).refs = rcn k.p f 20
theorem fc_set (fd : Nat → Int) (j : Nat) (v : Int) (f : Nat) : ∀ N, fc (fun i => if i = j then v else fd i) f N + (if j < N ∧ fd j = (f : Int) then 1 else 0) = fc fd f N + (if j < N ∧ v = (f : Int) then 1 else 0)
  | 0 => by
    rw [if_neg (fun c => absurd c.1 (Nat.not_lt_zero _)), if_neg (fun c => absurd c.1 (Nat.not_lt_zero _))]; rfl
  | N + 1 => by
    have ih := fc_set fd j v f N
    show fc (fun i => if i = j then v else fd i) f N + (if (if N = j then v else fd N) = (f : Int) then 1 else 0) + _ = fc fd f N + (if fd N = (f : Int) then 1 else 0) + _
    generalize fc (fun i => if i = j then v else fd i) f N = A at ih ⊢
    generalize fc fd f N = B at ih ⊢
    by_cases c : N = j
    · subst c
      rw [if_neg (fun c => absurd c.1 (Nat.lt_irrefl _)), if_neg (fun c => absurd c.1 (Nat.lt_irrefl _))] at ih
      rw [if_pos rfl]
      by_cases a : v = (f : Int) <;> by_cases b : fd N = (f : Int) <;> simp [a, b] <;> omega
    · rw [if_neg c]
      by_cases l : j < N
      · have l2 : j < N + 1 := by omega
        by_cases a : v = (f : Int) <;> by_cases b : fd j = (f : Int) <;> simp [a, b, l, l2] at ih ⊢ <;> omega
      · have l2 : ¬ j < N + 1 := by omega
        simp [l, l2] at ih ⊢; omega
theorem fc_ge {fd : Nat → Int} {f j : Nat} (h : fd j = (f : Int)) : ∀ N, j < N → 1 ≤ fc fd f N
  | 0, l => absurd l (Nat.not_lt_zero _)
  | N + 1, l => by
    show 1 ≤ fc fd f N + (if fd N = (f : Int) then 1 else 0)
    by_cases c : j = N
    · subst c; rw [if_pos h]; omega
    · have := fc_ge h N (by omega); omega
theorem fc_none {fd : Nat → Int} {f : Nat} : ∀ N, (∀ j, j < N → fd j = -1) → fc fd f N = 0
  | 0, _ => rfl
  | N + 1, l => by
    show fc fd f N + (if fd N = (f : Int) then 1 else 0) = 0
    rw [fc_none N (fun j hj => l j (by omega)), l N (by omega), if_neg (by omega)]
theorem rcn_put (k : Kp) (n : Nat) (x : Pr) (f : Nat) : ∀ N, rcn (k.put n x).p f N + (if n < N then pcn (k.p n) f else 0) = rcn k.p f N + (if n < N then pcn x f else 0)
  | 0 => by rw [if_neg (Nat.not_lt_zero n), if_neg (Nat.not_lt_zero n)]; rfl
  | N + 1 => by
    have ih := rcn_put k n x f N
    show rcn (k.put n x).p f N + pcn ((k.put n x).p N) f + _ = rcn k.p f N + pcn (k.p N) f + _
    by_cases c : N = n
    · subst c
      rw [put_same]
      rw [if_neg (Nat.lt_irrefl _), if_neg (Nat.lt_irrefl _)] at ih
      rw [if_pos (by omega), if_pos (by omega)]
      omega
    · rw [put_ne _ _ _ _ c]
      by_cases l : n < N
      · rw [if_pos l, if_pos l] at ih
        rw [if_pos (by omega), if_pos (by omega)]
        omega
      · rw [if_neg l, if_neg l] at ih
        rw [if_neg (by omega), if_neg (by omega)]
        omega
theorem rcn_ge {p : Nat → Pr} {f m : Nat} : ∀ N, m < N → pcn (p m) f ≤ rcn p f N
  | 0, l => absurd l (Nat.not_lt_zero _)
  | N + 1, l => by
    show _ ≤ rcn p f N + pcn (p N) f
    by_cases c : m = N
    · subst c; omega
    · have := rcn_ge (p := p) (f := f) (m := m) N (by omega); omega
theorem rcn_congr {p q : Nat → Pr} {f : Nat} : ∀ N, (∀ m, m < N → (p m).has = (q m).has ∧ ((q m).has = true → (p m).fd = (q m).fd)) → rcn p f N = rcn q f N
  | 0, _ => rfl
  | N + 1, l => by
    show rcn p f N + pcn (p N) f = rcn q f N + pcn (q N) f
    rw [rcn_congr N (fun m hm => l m (by omega))]
    have e := l N (by omega)
    unfold pcn
    rw [e.1]
    by_cases c : (q N).has = true
    · rw [e.2 c]
    · rw [if_neg c, if_neg c]
section
variable {k k' k1 k2 : Kp} {n : Nat}
theorem RC.refs (h : RC k) {m j f : Nat} (hm : m < 20) (hj : j < 6) (f24 : f < 24) (hh : (k.p m).has = true) (e : (k.p m).fd j = (f : Int)) : (k.fi f).refs ≠ 0 := by
  have a := h f f24
  have b := rcn_ge (p := k.p) (f := f) (m := m) 20 hm
  have c : pcn (k.p m) f = fc (k.p m).fd f 6 := if_pos hh
  have d := fc_ge e 6 hj
  omega
structure QF (k k' : Kp) : Prop where
  fi : ∀ f, f < 24 → (k'.fi f).refs ≠ 0 → (k.fi f).refs ≠ 0 ∧ (k'.fi f).kind = (k.fi f).kind ∧ (k'.fi f).num = (k.fi f).num
  pi : ∀ p, p < 8 → Pp.thr (k'.pi p) = true → Pp.thr (k.pi p) = true ∧ (k'.pi p).tx = (k.pi p).tx
theorem QF.refl (k : Kp) : QF k k := ⟨fun _ _ h => ⟨h, rfl, rfl⟩, fun _ _ h => ⟨h, rfl⟩⟩
theorem QF.trans (h : QF k k1) (g : QF k1 k2) : QF k k2 :=
  ⟨fun f hf r => by
    have a := g.fi f hf r
    have b := h.fi f hf a.1
    exact ⟨b.1, a.2.1.trans b.2.1, a.2.2.trans b.2.2⟩, fun p hp r => by
    have a := g.pi p hp r
    have b := h.pi p hp a.1
    exact ⟨b.1, a.2.trans b.2⟩⟩
theorem QF.same (e1 : k'.fi = k.fi) (e2 : k'.pi = k.pi) : QF k k' := by
  refine ⟨fun f _ r => ?_, fun p _ r => ?_⟩
  · rw [e1] at r ⊢; exact ⟨r, rfl, rfl⟩
  · rw [e2] at r ⊢; exact ⟨r, rfl⟩
theorem QF.clo (k : Kp) (z : Int) : QF k (cloK k z) := by
  refine ⟨fun f hf r => ?_, fun p hp r => ?_⟩
  · have r' : (Fx.cloT k.fi z f).refs ≠ 0 := r
    show _ ∧ (Fx.cloT k.fi z f).kind = _ ∧ (Fx.cloT k.fi z f).num = _
    unfold Fx.cloT at r' ⊢
    by_cases c : Fx.filE k.fi z = 0
    · obtain ⟨m, rfl, m24, m0⟩ := Fx.filE_ok c
      rw [if_pos c, Int.toNat_natCast] at r' ⊢
      by_cases e : f = m
      · subst e
        rw [Fx.put_same] at r' ⊢
        by_cases d : (k.fi f).refs = 1
        · rw [if_pos d] at r'; exact absurd rfl r'
        · rw [if_neg d]; exact ⟨m0, rfl, rfl⟩
      · rw [Fx.put_ne _ _ _ _ e] at r' ⊢
        exact ⟨r', rfl, rfl⟩
    · rw [if_neg c] at r' ⊢; exact ⟨r', rfl, rfl⟩
  · have r' : Pp.thr (Fx.cloS k.fi k.pi z p) = true := r
    show _ ∧ (Fx.cloS k.fi k.pi z p).tx = _
    unfold Fx.cloS at r' ⊢
    by_cases c : Fx.filE k.fi z = 0 ∧ (k.fi z.toNat).refs = 1
    · rw [if_pos c] at r' ⊢
      unfold Fx.leS at r' ⊢
      by_cases d : (k.fi z.toNat).kind = 1
      · rw [if_pos d] at r' ⊢; exact ⟨r', rfl⟩
      · rw [if_neg d] at r' ⊢
        unfold Pp.droF at r' ⊢
        by_cases o : Pp.opE k.pi ((k.fi z.toNat).num : Int) (decide ((k.fi z.toNat).kind = 3)) = 0
        · rw [if_pos o, Int.toNat_natCast] at r' ⊢
          obtain ⟨m, e, _, t, _⟩ := Pp.opE_ok o
          by_cases q : p = (k.fi z.toNat).num
          · rw [q, Pp.put_same] at r' ⊢
            have em : (k.fi z.toNat).num = m := by omega
            refine ⟨by rw [em]; exact t, ?_⟩
            unfold Pp.less at r' ⊢
            split at r'
            · rename_i c1
              rw [if_pos c1]
              unfold Pp.setT
              split <;> rfl
            · exact absurd r' (by decide)
          · rw [Pp.put_ne _ _ _ _ q] at r' ⊢; exact ⟨r', rfl⟩
        · rw [if_neg o] at r' ⊢; exact ⟨r', rfl⟩
    · rw [if_neg c] at r' ⊢; exact ⟨r', rfl⟩
theorem RC.clo1 (h : RC k) {j : Nat} (hn : n < 20) (hj : j < 6) (hh : (k.p n).has = true) : RC (fdK (cloK k ((k.p n).fd j)) n j (-1)) := by
  intro f f24
  have a := rcn_put k n { k.p n with fd := fun i => if i = j then -1 else (k.p n).fd i } f 20
  rw [if_pos hn, if_pos hn] at a
  have b : pcn (k.p n) f = fc (k.p n).fd f 6 := if_pos hh
  have c : pcn { k.p n with fd := fun i => if i = j then -1 else (k.p n).fd i } f = fc (fun i => if i = j then -1 else (k.p n).fd i) f 6 := if_pos hh
  have d := fc_set (k.p n).fd j (-1) f 6
  rw [if_neg (show ¬ (j < 6 ∧ (-1 : Int) = (f : Int)) from fun q => by omega)] at d
  have e := h f f24
  have g := rcn_ge (p := k.p) (f := f) (m := n) 20 hn
  show (Fx.cloT k.fi ((k.p n).fd j) f).refs = rcn (k.put n { k.p n with fd := fun i => if i = j then -1 else (k.p n).fd i }).p f 20
  by_cases q : (k.p n).fd j = (f : Int)
  · rw [if_pos ⟨hj, q⟩] at d
    have r0 := h.refs hn hj f24 hh q
    have fe : Fx.filE k.fi ((k.p n).fd j) = 0 := by rw [q]; unfold Fx.filE; rw [if_neg (by omega), Int.toNat_natCast, if_neg r0]
    unfold Fx.cloT
    rw [if_pos fe, q, Int.toNat_natCast, Fx.put_same]
    by_cases r1 : (k.fi f).refs = 1
    · rw [if_pos r1]; show 0 = _; omega
    · rw [if_neg r1]; show (k.fi f).refs - 1 = _; omega
  · rw [if_neg (fun c => q c.2)] at d
    have same : Fx.cloT k.fi ((k.p n).fd j) f = k.fi f := by
      unfold Fx.cloT
      by_cases fe : Fx.filE k.fi ((k.p n).fd j) = 0
      · obtain ⟨m, em, _, _⟩ := Fx.filE_ok fe
        rw [if_pos fe]
        exact Fx.put_ne _ _ _ _ (fun x => q (by rw [em] at x ⊢; rw [Int.toNat_natCast] at x; rw [x]))
      · rw [if_neg fe]
    rw [same]; omega
theorem strF_pne (k : Kp) (n : Nat) (fd : Nat → Int) {m : Nat} (c : m ≠ n) : ∀ j, (strF k n fd j).p m = k.p m
  | 0 => rfl
  | j + 1 => by
    show (if fd j = -1 then _ else _ : Kp).p m = _
    split
    · exact strF_pne k n fd c j
    · show (fdK _ n j (-1)).p m = _
      unfold fdK
      rw [put_ne _ _ _ _ c]; exact strF_pne k n fd c j
theorem strF_fd (k : Kp) (n : Nat) (fd : Nat → Int) (h : (k.p n).fd = fd) : ∀ j i, ((strF k n fd j).p n).fd i = if i < j then -1 else fd i
  | 0, i => by rw [if_neg (Nat.not_lt_zero _)]; exact congrFun h i
  | j + 1, i => by
    have ih := strF_fd k n fd h j
    show ((if fd j = -1 then strF k n fd j else fdK (cloK (strF k n fd j) (fd j)) n j (-1) : Kp).p n).fd i = _
    by_cases c : fd j = -1
    · rw [if_pos c, ih]
      by_cases a : i < j
      · rw [if_pos a, if_pos (by omega)]
      · rw [if_neg a]
        by_cases b : i = j
        · rw [if_pos (by omega), b, c]
        · rw [if_neg (by omega)]
    · rw [if_neg c]
      have e : ((fdK (cloK (strF k n fd j) (fd j)) n j (-1)).p n).fd i = if i = j then -1 else ((strF k n fd j).p n).fd i := by
        unfold fdK; rw [put_same]; rfl
      rw [e, ih]
      by_cases b : i = j
      · rw [if_pos b, if_pos (by omega)]
      · rw [if_neg b]
        by_cases a : i < j
        · rw [if_pos a, if_pos (by omega)]
        · rw [if_neg a, if_neg (by omega)]
theorem strF_rc (h : RC k) (hn : n < 20) (hh : (k.p n).has = true) {fd : Nat → Int} (hf : (k.p n).fd = fd) : ∀ j, j ≤ 6 → RC (strF k n fd j) ∧ QF k (strF k n fd j)
  | 0, _ => ⟨h, QF.refl k⟩
  | j + 1, hj => by
    have ih := strF_rc h hn hh hf j (by omega)
    show RC (if fd j = -1 then strF k n fd j else fdK (cloK (strF k n fd j) (fd j)) n j (-1) : Kp) ∧ QF k (if fd j = -1 then strF k n fd j else fdK (cloK (strF k n fd j) (fd j)) n j (-1) : Kp)
    by_cases c : fd j = -1
    · rw [if_pos c]; exact ih
    · rw [if_neg c]
      have e : ((strF k n fd j).p n).fd j = fd j := by rw [strF_fd k n fd hf, if_neg (Nat.lt_irrefl _)]
      have a := ih.1.clo1 hn (show j < 6 by omega) (by rw [(strF_p k n fd j n).2.1]; exact hh)
      rw [e] at a
      exact ⟨a, ih.2.trans ((QF.clo _ _).trans (QF.same rfl rfl))⟩
end
end Kn
end Go.Proofs.YtghogbngmcolmaaGreat
namespace Go.Proofs.YtghogbngmcolmaaGreat
open Go.RowKit
open Fx (Fi)
open Tr (Fo Nd)
open Pp (Pi)
open Mo (Wh Mt)
open Mv (Me Bk)
open Kn (Pr Kp St us KB KJ VI EI KH)
namespace Kn
def HX (k : Kp) : Prop := (∀ m, m < 20 → ((k.p m).has = true → (k.p m).st = 1) ∧ ((k.p m).st = 1 → (k.p m).has = true ∨ ∀ j, j < 6 → (k.p m).fd j = -1)) ∧ ∀ s p, s < 6 → p < 21 → k.sp.who s p ≤ 20
structure QD (k k' : Kp) : Prop where
  qf : QF k k'
  up : ∀ m, m < 20 → (k'.p m).has = true → (k.p m).has = true ∧ (k'.p m).fd = (k.p m).fd
  hl : HX k → HX k'
  rc : HX k → RC k → RC k'
section
variable {k k' k1 k2 : Kp} {n : Nat}
theorem QD.refl (k : Kp) : QD k k := ⟨QF.refl k, fun _ _ h => ⟨h, rfl⟩, id, fun _ h => h⟩
theorem QD.trans (h : QD k k1) (g : QD k1 k2) : QD k k2 :=
  ⟨h.qf.trans g.qf, fun m hm a => by
    have b := g.up m hm a
    have c := h.up m hm b.1
    exact ⟨c.1, b.2.trans c.2⟩, fun a => g.hl (h.hl a), fun a b => g.rc (h.hl a) (h.rc a b)⟩
theorem QD.like (e1 : k'.fi = k.fi) (e2 : k'.pi = k.pi) (e3 : ∀ s p, k'.sp.who s p ≤ k.sp.who s p) (h : ∀ m, m < 20 → (k'.p m).has = (k.p m).has ∧ ((k.p m).has = true → (k'.p m).fd = (k.p m).fd ∧ (k'.p m).st = (k.p m).st) ∧ ((k'.p m).st = 1 → (k.p m).st = 1 ∧ (k'.p m).fd = (k.p m).fd)) : QD k k' := by
  refine ⟨QF.same e1 e2, fun m hm a => ?_, fun a => ⟨fun m hm => ?_, fun s p hs hp => Nat.le_trans (e3 s p) (a.2 s p hs hp)⟩, fun _ b f hf => ?_⟩
  · rw [(h m hm).1] at a
    exact ⟨a, ((h m hm).2.1 a).1⟩
  · obtain ⟨x, y, z⟩ := h m hm
    refine ⟨fun q => ?_, fun q => ?_⟩
    · rw [x] at q; rw [(y q).2]; exact (a.1 m hm).1 q
    · have := z q
      rw [x, this.2]; exact (a.1 m hm).2 this.1
  · rw [e1, b f hf]
    exact (rcn_congr 20 (fun m hm => ⟨(h m hm).1, fun q => ((h m hm).2.1 q).1⟩)).symm
theorem strF_qf (k : Kp) (n : Nat) (fd : Nat → Int) : ∀ j, QF k (strF k n fd j) ∧ (strF k n fd j).sp = k.sp
  | 0 => ⟨QF.refl k, rfl⟩
  | j + 1 => by
    have ih := strF_qf k n fd j
    show QF k (if fd j = -1 then strF k n fd j else fdK (cloK (strF k n fd j) (fd j)) n j (-1) : Kp) ∧ (if fd j = -1 then strF k n fd j else fdK (cloK (strF k n fd j) (fd j)) n j (-1) : Kp).sp = _
    by_cases c : fd j = -1
    · rw [if_pos c]; exact ih
    · rw [if_neg c]
      exact ⟨ih.1.trans ((QF.clo _ _).trans (QF.same rfl rfl)), ih.2⟩
theorem strF_id (k : Kp) (n : Nat) (fd : Nat → Int) : ∀ j, (∀ i, i < j → fd i = -1) → strF k n fd j = k
  | 0, _ => rfl
  | j + 1, h => by
    show (if fd j = -1 then strF k n fd j else fdK (cloK (strF k n fd j) (fd j)) n j (-1) : Kp) = k
    rw [if_pos (h j (by omega))]
    exact strF_id k n fd j (fun i hi => h i (by omega))
theorem unm_same (k : Kp) (n : Nat) (a m : Int) : (unmK k n a m).fi = k.fi ∧ (unmK k n a m).pi = k.pi ∧ (unmK k n a m).sp = k.sp := by
  unfold unmK
  split <;> exact ⟨rfl, rfl, rfl⟩
theorem str_qd (k0 : Kp) (m' : Fa.Fr.M) (e : Me) (X : Nat → Sg.S1) {fd : Nat → Int} (hf : (k0.p n).fd = fd) (hn : n < 20) (s1 : (k0.p n).st = 1) : QD k0 (({ strF k0 n fd 6 with sc := m' } : Kp).put n { (strF k0 n fd 6).p n with has := false, mem := e, box := X }) := by
  have q := strF_qf k0 n fd 6
  have sn := strF_p k0 n fd 6 n
  have fn := strF_fd k0 n fd hf 6
  refine ⟨q.1.trans (QF.same rfl rfl), fun m hm a => ?_, fun a => ⟨fun m hm => ?_, fun s p hs hp => ?_⟩, fun a b f hf24 => ?_⟩
  · by_cases c : m = n
    · subst c; rw [put_same] at a; cases a
    · rw [put_ne _ _ _ _ c] at a ⊢
      have e1 := strF_pne k0 n fd c 6
      have a' : ((strF k0 n fd 6).p m).has = true := a
      show _ ∧ ((strF k0 n fd 6).p m).fd = _
      rw [e1] at a' ⊢
      exact ⟨a', rfl⟩
  · by_cases c : m = n
    · subst c
      rw [put_same]
      exact ⟨fun x => (by cases x), fun _ => .inr (fun j hj => by show ((strF k0 m fd 6).p m).fd j = -1; rw [fn, if_pos hj])⟩
    · rw [put_ne _ _ _ _ c]
      show (((strF k0 n fd 6).p m).has = true → ((strF k0 n fd 6).p m).st = 1) ∧ (((strF k0 n fd 6).p m).st = 1 → ((strF k0 n fd 6).p m).has = true ∨ ∀ j, j < 6 → ((strF k0 n fd 6).p m).fd j = -1)
      rw [strF_pne k0 n fd c 6]
      exact a.1 m hm
  · show (strF k0 n fd 6).sp.who s p ≤ 20
    rw [q.2]; exact a.2 s p hs hp
  · have r1 : RC (strF k0 n fd 6) := by
      by_cases hh : (k0.p n).has = true
      · exact (strF_rc b hn hh hf 6 (Nat.le_refl _)).1
      · rcases (a.1 n hn).2 s1 with x | x
        · exact absurd x hh
        · rw [strF_id k0 n fd 6 (fun i hi => by rw [← hf]; exact x i hi)]; exact b
    have c := rcn_put ({ strF k0 n fd 6 with sc := m' } : Kp) n { (strF k0 n fd 6).p n with has := false, mem := e, box := X } f 20
    rw [if_pos hn, if_pos hn] at c
    have d : pcn { (strF k0 n fd 6).p n with has := false, mem := e, box := X } f = 0 := if_neg (fun x => by cases x)
    have g : pcn (({ strF k0 n fd 6 with sc := m' } : Kp).p n) f = 0 := by
      unfold pcn
      split
      · exact fc_none 6 (fun j hj => by show ((strF k0 n fd 6).p n).fd j = -1; rw [fn, if_pos hj])
      · rfl
    have h1 := r1 f hf24
    show ((strF k0 n fd 6).fi f).refs = _
    rw [h1]
    have e2 : rcn ({ strF k0 n fd 6 with sc := m' } : Kp).p f 20 = rcn (strF k0 n fd 6).p f 20 := rfl
    omega
theorem StrTo.qd (hs : StrTo k n k') (hn : n < 20) (l : lv k n = true) : QD k k' ∧ (k'.p n).has = false := by
  obtain ⟨m', _, rfl⟩ := hs
  have u := unm_same k n 0 16
  have b := unmK_p k n 0 16 n
  have q0 : QD k (unmK k n 0 16) := QD.like u.1 u.2.1 (fun s p => by rw [u.2.2]; exact Nat.le_refl _) (fun m hm => by
    have b := unmK_p k n 0 16 m
    exact ⟨b.2.1, fun _ => ⟨b.1, b.2.2.1⟩, fun q => ⟨by rw [← b.2.2.1]; exact q, b.1⟩⟩)
  have q1 := str_qd (unmK k n 0 16) m' Mv.me0 Sg.nul b.1 hn (by rw [b.2.2.1]; exact lv1.1 l)
  exact ⟨q0.trans q1, by show ((Kp.put _ n _).p n).has = false; rw [put_same]⟩
theorem HX.no (h : HX k) (hn : n < 20) (l : lv k n = false) : (k.p n).has = false := by
  cases e : (k.p n).has
  · rfl
  · have := (h.1 n hn).1 e
    rw [lv1.2 this] at l; cases l
theorem fin_qd (k : Kp) (hh : (k.p n).has = false) : QD k (finK k n) := by
  refine QD.like rfl rfl (fun s p => ?_) (fun m hm => ?_)
  · show (Sp.leaT k.sp (n : Int)).who s p ≤ _
    unfold Sp.leaT
    split
    · show (if s ∈ List.range 6 ∧ k.sp.who s p = ((n : Int)).toNat + 1 then 0 else k.sp.who s p) ≤ _
      split
      · exact Nat.zero_le _
      · exact Nat.le_refl _
    · exact Nat.le_refl _
  · by_cases c : m = n
    · subst c
      have e : (finK k m).p m = Pr.no := put_same _ _ _
      rw [e, hh]
      exact ⟨rfl, fun x => (by cases x), fun x => absurd x (by decide)⟩
    · have e : (finK k n).p m = k.p m := put_ne _ _ _ _ c
      rw [e]
      exact ⟨rfl, fun _ => ⟨rfl, rfl⟩, fun q => ⟨q, rfl⟩⟩
theorem shu_qd (k : Kp) (z : Nat) : QD k (shuK k z) := by
  refine QD.like rfl rfl (fun s p => ?_) (fun m hm => ⟨rfl, fun _ => ⟨rfl, rfl⟩, fun q => ⟨q, rfl⟩⟩)
  show (Sp.dropT k.sp (z : Int)).who s p ≤ _
  unfold Sp.dropT
  split <;> exact Nat.le_refl _
theorem HX.memb (h : HX k) {z : Int} {i m : Nat} (e : (membL k.sp z)[i]? = some m) : m < 20 := by
  unfold membL at e
  by_cases c : Sp.isE k.sp z = 0
  · rw [if_pos c] at e
    have z6 : z.toNat < 6 := by
      unfold Sp.isE at c
      split at c
      · omega
      · omega
    exact (Sp.memb_of e (fun p hp => h.2 z.toNat p z6 hp)).1
  · rw [if_neg c] at e; simp at e
theorem iter_qd {R : Kp → Nat → Kp → Prop} (hR : ∀ k n k', HX k → n < 20 → R k n k' → QD k k') (z : Int) : ∀ (j : Nat) (k k' : Kp), HX k → IterN R z j k k' → QD k k'
  | 0, k, k', _, e => by rw [e.1]; exact QD.refl k
  | j + 1, k, k', h, e => by
    obtain ⟨m, k1, hm, r, it⟩ := e
    have a := hR k m k1 h (h.memb hm) r
    exact a.trans (iter_qd hR z j k1 k' (a.hl h) it)
theorem van_qd : ∀ f (k : Kp) (n : Nat) (k' : Kp), HX k → n < 20 → VanN f k n k' → QD k k'
  | 0, _, _, _, _, _, e => e.elim
  | f + 1, k, n, k', h, hn, e => by
    obtain ⟨k1, a, b, c⟩ := e
    have q1 : QD k k1 ∧ (k1.p n).has = false := by
      cases l : lv k n
      · rw [b l]; exact ⟨QD.refl k, h.no hn l⟩
      · exact (a l).qd hn l
    rcases c with ⟨_, rfl⟩ | ⟨_, k2, j, it, rfl⟩
    · exact q1.1.trans (fin_qd k1 q1.2)
    · have q2 := iter_qd (van_qd f) _ j k1 k2 (q1.1.hl h) it
      have h2 : (k2.p n).has = false := by
        cases e : (k2.p n).has
        · rfl
        · rw [(q2.up n hn e).1] at q1; exact absurd q1.2 (by decide)
      exact q1.1.trans (q2.trans ((fin_qd k2 h2).trans (shu_qd _ _)))
theorem sen_qd (k : Kp) (q : Nat) (z : Int) : QD k (senK k q z) := by
  refine QD.like rfl rfl (fun s p => Nat.le_refl _) (fun m hm => ?_)
  unfold senK
  by_cases c : m = q
  · subst c; rw [put_same]; exact ⟨rfl, fun _ => ⟨rfl, rfl⟩, fun q => ⟨q, rfl⟩⟩
  · rw [put_ne _ _ _ _ c]; exact ⟨rfl, fun _ => ⟨rfl, rfl⟩, fun q => ⟨q, rfl⟩⟩
theorem EndTo.qd {c : Int} {z q : Nat} (e : EndTo k n c z q k') (h : HX k) (hn : n < 20) (l : lv k n = true) : QD k k' := by
  obtain ⟨k1, k3, s1, mt, rfl⟩ := e
  have q1 := s1.qd hn l
  have q2 : QD k1 (goneK k1 n c) := QD.like rfl rfl (fun s p => Nat.le_refl _) (fun m hm => by
    unfold goneK
    by_cases c : m = n
    · subst c; rw [put_same]; exact ⟨rfl, fun x => (by rw [q1.2] at x; cases x), fun x => absurd x (show ¬ (2 : Nat) = 1 by decide)⟩
    · rw [put_ne _ _ _ _ c]; exact ⟨rfl, fun _ => ⟨rfl, rfl⟩, fun q => ⟨q, rfl⟩⟩)
  have q3 : QD (goneK k1 n c) k3 := by
    rcases mt with ⟨_, rfl⟩ | ⟨_, j, it⟩
    · exact QD.refl _
    · exact iter_qd (van_qd 6) _ j _ _ (q2.hl (q1.1.hl h)) it
  have q4 : QD k3 (adK k3 (chL k3 n) (Sp.findN k3.sp (z : Int) 1 : Nat)) := QD.like rfl rfl (fun s p => Nat.le_refl _) (fun m hm => ⟨rfl, fun _ => ⟨rfl, rfl⟩, fun q => ⟨q, rfl⟩⟩)
  refine q1.1.trans (q2.trans (q3.trans (q4.trans ?_)))
  unfold kidK
  split
  · exact sen_qd _ _ _
  · exact QD.refl _
theorem ExiTo.qd {z c : Int} (e : ExiTo k z c k') (h : HX k) : QD k k' := by
  rcases e with ⟨_, rfl⟩ | ⟨_, n, y, q, rfl, hn, n0, l, oy, _, _, hp, et⟩
  · exact QD.refl _
  · exact et.qd h hn l
theorem WaiTo.qd {z : Int} {p : Nat} {c E : Int} (w : WaiTo k z p c E k') (h : HX k) : QD k k' := by
  rcases w with ⟨_, _, _, _, rfl⟩ | ⟨a, n, rfl, hn, w⟩
  · exact QD.refl _
  · rcases w with ⟨_, _, _, _, rfl⟩ | ⟨_, _, _, _, _, rfl⟩ | ⟨_, i, m, hi, lm, _, _, _, v⟩
    · exact QD.refl _
    · exact QD.refl _
    · refine van_qd 6 k m k' h ?_ v
      have b := hi
      unfold chL chK at b
      have mm := (List.mem_filter.1 (List.mem_of_getElem? b)).1
      obtain ⟨i', hi'⟩ := List.getElem?_of_mem mm
      exact h.memb hi'
theorem KH.hx {N : Nat} {d : Nat → Nat} (h : KH N d k) : HX k := ⟨fun m hm => ⟨h.ki.vi.kj.hs m hm, fun s => .inl (h.ki.vi.kj.lv m hm (fun x => x) s)⟩, fun s p hs hp => h.ki.vi.iv.wle s p hs hp⟩
end
end Kn
end Go.Proofs.YtghogbngmcolmaaGreat
namespace Go.Proofs.YtghogbngmcolmaaGreat
open Go.RowKit
open Fx (Fi)
open Tr (Fo Nd)
open Pp (Pi)
open Mo (Wh Mt)
open Mv (Me Bk)
open Kn (Pr Kp St us KB KJ VI EI KH)
namespace Kn
section
variable {N : Nat} {d : Nat → Nat} {k k' : Kp}
theorem KH.fx (h : KH N d k) {M : Nat} (hM : N ≤ M) {T : Nat → Fi} {F : Fo} {S : Nat → Pi} (wx : WX (tabX k) T F S) (rf : ∀ n, n < 24 → (T n).refs ≤ 8 * M) (ok : Tr.Ok F) : KH M d (fxK k T F S) := by
  have g := h.more hM
  have j := g.ki.vi.kj
  exact g.like ⟨⟨⟨j.sp, j.gr, j.si, j.sy, j.nw, j.me, wx, rf, ok, j.tb, j.st, j.hs, j.lv, j.of, j.ht, j.nm⟩, g.ki.vi.iv, g.ki.vi.hs⟩, g.ki.fi, g.ki.pr, g.ki.h0⟩ rfl (fun m => ⟨rfl, rfl⟩)
theorem fdK_p (k : Kp) (n f : Nat) (v : Int) (m : Nat) : ((fdK k n f v).p m).st = (k.p m).st ∧ ((fdK k n f v).p m).par = (k.p m).par ∧ ((fdK k n f v).p m).box = (k.p m).box ∧ ((fdK k n f v).p m).has = (k.p m).has ∧ ((fdK k n f v).p m).fd = if m = n then (fun i => if i = f then v else (k.p n).fd i) else (k.p m).fd := by
  unfold fdK
  by_cases c : m = n
  · subst c; rw [put_same, if_pos rfl]; exact ⟨rfl, rfl, rfl, rfl, rfl⟩
  · rw [put_ne _ _ _ _ c, if_neg c]; exact ⟨rfl, rfl, rfl, rfl, rfl⟩
theorem KH.fd (h : KH N d k) (n f : Nat) (v : Int) : KH N d (fdK k n f v) := by
  have e := fdK_p k n f v
  have l : ∀ m, lv (fdK k n f v) m = lv k m := fun m => by unfold lv; rw [(e m).1]
  refine h.like ⟨⟨h.ki.vi.kj.putP rfl rfl rfl, h.ki.vi.iv, h.ki.vi.hs⟩, fun m hm lm hm2 => ?_, fun m hm m0 s => ?_, h.ki.h0⟩ rfl (fun m => ⟨(e m).1, (e m).2.1⟩)
  · rw [(e m).2.2.1]; rw [l] at lm; exact h.ki.fi m hm lm hm2
  · rw [(e m).1] at s; rw [(e m).2.1]; exact h.ki.pr m hm m0 s
theorem KH.wri (h : KH N d k) (v : Int) (s : ByteArray) : KH N d (wriX k v s) := by
  have j := h.ki.vi.kj
  have a : WX (tabX k) (Fx.wriT k.fi k.fo v s) k.fo k.pi ∧ ∀ a, a < 24 → (Fx.wriT k.fi k.fo v s a).refs ≤ 8 * N := by
    unfold Fx.wriT
    split
    · rename_i e
      obtain ⟨n, rfl, n24, r0⟩ := Fx.filE_ok e.1.1
      have e2 := e.2
      rw [Int.toNat_natCast] at e2 ⊢
      refine ⟨j.wx.turn n24 r0 _ r0 rfl rfl ?_, fun a ha => ?_⟩
      · show (k.fi n).pos + s.size ≤ 40
        unfold Tr.wriE at e2
        by_cases g : Tr.isE k.fo ((k.fi n).num : Int) 1 ≠ 0
        · rw [if_pos g] at e2; exact absurd e2 g
        · rw [if_neg g, if_neg (by omega)] at e2
          by_cases g2 : 40 - (s.size : Int) < ((k.fi n).pos : Int)
          · rw [if_pos g2] at e2; exact absurd e2 (by decide)
          · omega
      · by_cases c : a = n
        · subst c; rw [Fx.put_same]; exact j.rf a ha
        · rw [Fx.put_ne _ _ _ _ c]; exact j.rf a ha
    · exact ⟨j.wx, j.rf⟩
  have b : WX (tabX k) (Fx.wriT k.fi k.fo v s) (Fx.wriF k.fi k.fo v s) k.pi ∧ Tr.Ok (Fx.wriF k.fi k.fo v s) := by
    unfold Fx.wriF
    split
    · exact ⟨a.1.wri _ _ _, j.ok.wri _ _ _⟩
    · exact ⟨a.1, j.ok⟩
  refine h.fx (Nat.le_refl _) ?_ a.2 b.2
  unfold Fx.wriP
  split
  · exact b.1.pwri _ _
  · exact b.1
theorem KH.pip (h : KH N d k) {z : Int} {A C : Nat} {E : Int} (p : NpiTo k z A C E k') : KH (N + 1) d k' := by
  have j := h.ki.vi.kj
  have key : ∀ {a c : Nat} {T : Nat → Fi} {S : Nat → Pi}, Fx.PipTo k.fi k.pi a c E T S → KH (N + 1) d (fxK k T k.fo S) := fun {a c T S} pt => by
    have up : ∀ a, a < 24 → (k.fi a).refs ≤ 8 * (N + 1) := fun a ha => by have := j.rf a ha; omega
    rcases pt with ⟨_, _, _, _, rfl, rfl⟩ | ⟨_, n, e, hf, ⟨_, _, _, _, rfl, rfl⟩ | ⟨rfl, _, a1, d1, rfl, rfl⟩⟩
    · exact h.fx (by omega) j.wx up j.ok
    · exact h.fx (by omega) j.wx up j.ok
    · refine h.fx (by omega) (j.wx.pipe hf a1 d1) (fun x hx => ?_) j.ok
      by_cases e : x = c
      · subst e; rw [Fx.put_same]; show 1 ≤ _; omega
      · rw [Fx.put_ne _ _ _ _ e]
        by_cases e2 : x = a
        · subst e2; rw [Fx.put_same]; show 1 ≤ _; omega
        · rw [Fx.put_ne _ _ _ _ e2]; exact up x hx
  rcases p with ⟨_, _, _, _, rfl⟩ | ⟨_, n, rfl, hn, ⟨_, _, _, _, rfl⟩ | ⟨_, a, c, T, S, pt, ⟨_, _, _, rfl⟩ | ⟨_, _, _, rfl⟩⟩⟩
  · exact h.more (by omega)
  · exact h.more (by omega)
  · exact key pt
  · exact ((key pt).fd _ _ _).fd _ _ _
theorem KH.nclo (h : KH N d k) (z f : Int) : KH N d (ncloK k z f) := by
  unfold ncloK
  split
  · have g := h.fd z.toNat f.toNat (-1)
    have j := g.ki.vi.kj.clo ((k.p z.toNat).fd f.toNat)
    exact g.fx (Nat.le_refl _) j.wx j.rf j.ok
  · exact h
theorem sha_refs {k : Kp} {fd : Nat → Int} : ∀ j, (∀ (i f : Nat), i < j → f < 24 → fd i = (f : Int) → (k.fi f).refs ≠ 0) → ∀ f, f < 24 → (shaK k fd j).fi f = { k.fi f with refs := (k.fi f).refs + fc fd f j }
  | 0, _, _, _ => rfl
  | j + 1, h, f, f24 => by
    have ih := sha_refs (k := k) (fd := fd) j (fun i f hi hf e => h i f (by omega) hf e)
    show (if fd j = -1 then shaK k fd j else { shaK k fd j with fi := Fx.shaT (shaK k fd j).fi (fd j) } : Kp).fi f = { k.fi f with refs := (k.fi f).refs + (fc fd f j + if fd j = (f : Int) then 1 else 0) }
    by_cases c : fd j = -1
    · rw [if_pos c, ih f f24, if_neg (by omega)]; rfl
    · rw [if_neg c]
      show Fx.shaT (shaK k fd j).fi (fd j) f = _
      unfold Fx.shaT
      by_cases q : fd j = (f : Int)
      · have r0 := h j f (by omega) f24 q
        have fe : Fx.filE (shaK k fd j).fi (fd j) = 0 := by
          rw [q]; unfold Fx.filE
          rw [if_neg (by omega), Int.toNat_natCast, ih f f24, if_neg (by show ¬ (k.fi f).refs + _ = 0; omega)]
        rw [if_pos fe, if_pos q, q, Int.toNat_natCast, Fx.put_same, ih f f24]
        rfl
      · rw [if_neg q]
        by_cases fe : Fx.filE (shaK k fd j).fi (fd j) = 0
        · obtain ⟨m, em, _, _⟩ := Fx.filE_ok fe
          rw [if_pos fe, Fx.put_ne _ _ _ _ (fun x => q (by rw [em] at x ⊢; rw [Int.toNat_natCast] at x; rw [x])), ih f f24]
          rfl
        · rw [if_neg fe, ih f f24]; rfl
theorem ForTo.fo {z : Int} {own : Bool} {p : Nat} {E : Int} (f : ForTo k z own p E k') (h : KH N d k) (r : RC k) : RC k' ∧ k'.pi = k.pi ∧ (∀ f, f < 24 → (k'.fi f).kind = (k.fi f).kind ∧ (k'.fi f).num = (k.fi f).num) ∧ ∀ m, m < 20 → (k'.p m).has = true → ∃ q, q < 20 ∧ (k.p q).has = true ∧ (k'.p m).fd = (k.p q).fd := by
  have triv : ∀ g, RC { k with gr := g } ∧ ({ k with gr := g } : Kp).pi = k.pi ∧ (∀ f, f < 24 → (({ k with gr := g } : Kp).fi f).kind = (k.fi f).kind ∧ (({ k with gr := g } : Kp).fi f).num = (k.fi f).num) ∧ ∀ m, m < 20 → (({ k with gr := g } : Kp).p m).has = true → ∃ q, q < 20 ∧ (k.p q).has = true ∧ (({ k with gr := g } : Kp).p m).fd = (k.p q).fd := fun g => ⟨r, rfl, fun _ _ => ⟨rfl, rfl⟩, fun m hm a => ⟨m, hm, a, rfl⟩⟩
  rcases f with ⟨_, _, _, rfl⟩ | ⟨a, n, c, F, Wy, rfl, hn, fr, ways, f⟩
  · exact triv k'.gr
  · rcases f with ⟨_, _, _, rfl⟩ | ⟨_, _, _, _, rfl⟩ | ⟨_, _, _, _, _, rfl⟩ | ⟨f0, ch, hm, _, m', wk, ek, _⟩
    · exact triv k'.gr
    · exact triv k'.gr
    · exact triv _
    · have l : Kn.lv k n = true := actE_lv a
      have hh : (k.p n).has = true := h.ki.vi.kj.lv n hn (fun x => x) (lv1.1 l)
      have c20 : c < 20 ∧ (k.p c).st = 0 := by
        rcases fr with q | q
        · exact ⟨q.2.1, q.2.2.1⟩
        · omega
      have hc : (k.p c).has = false := by
        cases e : (k.p c).has
        · rfl
        · have := h.ki.vi.kj.hs c c20.1 e; omega
      have hp := homK_p (chgK k Wy n) n own
      have ep : (homK (chgK k Wy n) n own).p = k.p := hp.1
      have ef : (homK (chgK k Wy n) n own).fi = k.fi := hp.2.2.1
      have epi : (homK (chgK k Wy n) n own).pi = k.pi := by
        unfold homK
        split <;> rfl
      generalize homK (chgK k Wy n) n own = kh at *
      have cs := cop_same kh n
      have p1 : ∀ m, k'.p m = if m = c then chP kh n else k.p m := fun m => by
        rw [ek]
        show ((copK kh n).put c (chP kh n)).p m = _
        by_cases q : m = c
        · rw [if_pos q, q, put_same]
        · rw [if_neg q, put_ne _ _ _ _ q, cs.2.2, ep]
      have cp : (copK kh n).pi = kh.pi := by
        obtain ⟨T, eT⟩ := shaK_same { kh with bk := Mv.foK (kh.p n).mem kh.bk 16 } (kh.p n).fd 6
        have e3 : copK kh n = { kh with bk := Mv.foK (kh.p n).mem kh.bk 16, fi := T } := eT
        rw [e3]
      have fi1 : ∀ f, f < 24 → k'.fi f = { k.fi f with refs := (k.fi f).refs + fc (k.p n).fd f 6 } := fun f f24 => by
        rw [ek]
        show (copK kh n).fi f = _
        have s := sha_refs (k := { kh with bk := Mv.foK (kh.p n).mem kh.bk 16 }) (fd := (kh.p n).fd) 6 (fun i f hi hf e => by
          show (kh.fi f).refs ≠ 0
          rw [ef]; rw [ep] at e
          exact r.refs hn hi hf hh e) f f24
        have s' : (copK kh n).fi f = { kh.fi f with refs := (kh.fi f).refs + fc (kh.p n).fd f 6 } := s
        rw [s', ef, ep]
      have hx : (chP kh n).has = true ∧ (chP kh n).fd = (k.p n).fd := by unfold chP; rw [ep]; exact ⟨hh, rfl⟩
      refine ⟨fun f f24 => ?_, ?_, fun f f24 => by rw [fi1 f f24]; exact ⟨rfl, rfl⟩, fun m hm a => ?_⟩
      · have e1 := rcn_put k c (chP kh n) f 20
        rw [if_pos c20.1, if_pos c20.1] at e1
        have e2 : pcn (k.p c) f = 0 := if_neg (by rw [hc]; decide)
        have e3 : pcn (chP kh n) f = fc (k.p n).fd f 6 := by unfold pcn; rw [if_pos hx.1, hx.2]
        have e4 : rcn k'.p f 20 = rcn (k.put c (chP kh n)).p f 20 := rcn_congr 20 (fun m hm => by
          have e5 : (k.put c (chP kh n)).p m = if m = c then chP kh n else k.p m := rfl
          rw [p1 m, e5]; exact ⟨rfl, fun _ => rfl⟩)
        have e6 := r f f24
        rw [fi1 f f24, e4]
        show (k.fi f).refs + _ = _
        omega
      · rw [ek]
        show (copK kh n).pi = k.pi
        rw [cp, epi]
      · rw [p1 m] at a ⊢
        by_cases q : m = c
        · rw [if_pos q]; exact ⟨n, hn, hh, hx.2⟩
        · rw [if_neg q] at a ⊢; exact ⟨m, hm, a, rfl⟩
end
end Kn
end Go.Proofs.YtghogbngmcolmaaGreat
namespace Go.Proofs.YtghogbngmcolmaaGreat
open Go.RowKit
open Fx (Fi)
open Tr (Fo Nd)
open Pp (Pi)
open Mo (Wh Mt)
open Mv (Me Bk)
open Kn (Pr Kp St us KB KJ VI EI KH)
namespace Kn
section
variable {N : Nat} {d : Nat → Nat} {k k' : Kp} {n : Nat}
theorem fdL_both (h : 2 ≤ (fdL k n 6).length) : (k.p n).fd ((fdL k n 6).getD 0 0) = -1 ∧ (k.p n).fd ((fdL k n 6).getD 1 0) = -1 := by
  match hL : fdL k n 6, h with
  | [], h => simp at h
  | [x], h => simp at h
  | x :: y :: L, _ =>
    have hx := fdL_mem (k := k) (n := n) (f := x) (by rw [hL]; simp)
    have hy := fdL_mem (k := k) (n := n) (f := y) (by rw [hL]; simp)
    exact ⟨hx.2, hy.2⟩
theorem rcn_fd (k : Kp) (hn : n < 20) (hh : (k.p n).has = true) {f : Nat} (hf : f < 6) (v : Int) (g : Nat) : rcn (fdK k n f v).p g 20 + (if (k.p n).fd f = (g : Int) then 1 else 0) = rcn k.p g 20 + (if v = (g : Int) then 1 else 0) := by
  have a := rcn_put k n { k.p n with fd := fun i => if i = f then v else (k.p n).fd i } g 20
  rw [if_pos hn, if_pos hn] at a
  have b : pcn (k.p n) g = fc (k.p n).fd g 6 := if_pos hh
  have c : pcn { k.p n with fd := fun i => if i = f then v else (k.p n).fd i } g = fc (fun i => if i = f then v else (k.p n).fd i) g 6 := if_pos hh
  have e := fc_set (k.p n).fd f v g 6
  have e1 : (if f < 6 ∧ (k.p n).fd f = (g : Int) then 1 else 0) = if (k.p n).fd f = (g : Int) then 1 else 0 := by simp [hf]
  have e2 : (if f < 6 ∧ v = (g : Int) then 1 else 0) = if v = (g : Int) then 1 else 0 := by simp [hf]
  rw [e1, e2] at e
  show rcn (k.put n { k.p n with fd := fun i => if i = f then v else (k.p n).fd i }).p g 20 + _ = _
  omega
theorem RC.pip (h : RC k) (kh : KH N d k) {z : Int} {A C : Nat} {E : Int} (p : NpiTo k z A C E k') : RC k' := by
  rcases p with ⟨_, _, _, _, rfl⟩ | ⟨a0, n, rfl, hn, ⟨_, _, _, _, rfl⟩ | ⟨l2, a, c, T, S, pt, q⟩⟩
  · exact h
  · exact h
  · rcases pt with ⟨_, _, _, e4, rfl, rfl⟩ | ⟨_, m, e, hf, ⟨ne, _, _, eE, rfl, rfl⟩ | ⟨_, e0, la, lc, rfl, rfl⟩⟩
    · rcases q with ⟨_, _, _, rfl⟩ | ⟨e0, _⟩
      · exact h
      · omega
    · rcases q with ⟨_, _, _, rfl⟩ | ⟨e0, _⟩
      · exact h
      · exact absurd (eE.symm.trans e0) ne
    · rcases q with ⟨e1, _, _, _⟩ | ⟨_, eA, eC, rfl⟩
      · exact absurd e0 e1
      · have hh : (k.p n).has = true := kh.ki.vi.kj.lv n hn (fun x => x) (lv1.1 (actE_lv a0))
        obtain ⟨f, g, ef, eg, f6, g6, fg⟩ := fdL_two l2
        have eA' : A = f := eA.trans ef
        have eC' : C = g := eC.trans eg
        subst eA' eC'
        have mm := fdL_both l2
        rw [ef, eg] at mm
        have mA := mm.1
        have mC := mm.2
        intro x x24
        generalize hk0 : fxK k (Fx.put (Fx.put k.fi a ⟨2, m, false, 0, 1⟩) c ⟨3, m, false, 0, 1⟩) k.fo (Pp.makF k.pi m 0) = k0
        have p0 : k0.p = k.p := by rw [← hk0]; rfl
        have f0 : k0.fi = Fx.put (Fx.put k.fi a ⟨2, m, false, 0, 1⟩) c ⟨3, m, false, 0, 1⟩ := by rw [← hk0]; rfl
        have hh0 : (k0.p n).has = true := by rw [p0]; exact hh
        have r1 := rcn_fd k0 hn hh0 f6 (a : Int) x
        have e1 := fdK_p k0 n A (a : Int) n
        have r2 := rcn_fd (fdK k0 n A (a : Int)) hn (by rw [e1.2.2.2.1]; exact hh0) g6 (c : Int) x
        rw [e1.2.2.2.2, if_pos rfl, if_neg (Ne.symm fg), p0, mC, if_neg (by omega)] at r2
        rw [p0, mA, if_neg (by omega)] at r1
        have h1 := h x x24
        have la1 : (k.fi a).refs = 0 := la.2.1
        have lc1 : (Fx.put k.fi a ⟨2, m, false, 0, 1⟩ c).refs = 0 := lc.2.1
        have ca : c ≠ a := fun e => by rw [e, Fx.put_same] at lc1; exact absurd lc1 (show ¬ (1 : Nat) = 0 by decide)
        rw [Fx.put_ne _ _ _ _ ca] at lc1
        show (k0.fi x).refs = _
        rw [f0]
        by_cases xc : x = c
        · subst xc
          rw [Fx.put_same]
          rw [if_neg (by omega)] at r1
          rw [if_pos rfl] at r2
          show 1 = _
          omega
        · rw [Fx.put_ne _ _ _ _ xc]
          rw [if_neg (by omega)] at r2
          by_cases xa : x = a
          · subst xa
            rw [Fx.put_same]
            rw [if_pos rfl] at r1
            show 1 = _
            omega
          · rw [Fx.put_ne _ _ _ _ xa]
            rw [if_neg (by omega)] at r1
            omega
theorem Beg.more (h : Beg k) : k.fi = Fx.nul ∧ k.pi = Pp.nul := by
  obtain ⟨m, m', rfl⟩ := h
  exact ⟨rfl, rfl⟩
theorem RC.beg (h : Beg k) : RC k := by
  obtain ⟨h1, h2, h3⟩ := h.p
  intro f _
  rw [h.more.1]
  show 0 = _
  have key : ∀ M, rcn k.p f M = 0 := fun M => by
    induction M with
    | zero => rfl
    | succ M ih =>
      show rcn k.p f M + pcn (k.p M) f = 0
      rw [ih]
      by_cases c : M = 0
      · subst c
        rw [h1]
        show 0 + fc (fun i => if i < 6 then -1 else 0) f 6 = 0
        rw [fc_none 6 (fun j hj => if_pos hj)]
      · rw [h2 M c]; rfl
  exact (key 20).symm
structure TT (k : Kp) (t : ByteArray) : Prop where
  rc : RC k
  fd : ∀ m, m < 20 → (k.p m).has = true → (k.p m).fd 0 = 0 ∧ (k.p m).fd 1 = 1
  f0 : (k.fi 0).kind = 2 ∧ (k.fi 0).num = 0
  f1 : (k.fi 1).kind = 3 ∧ (k.fi 1).num = 0
  tx : (k.pi 0).tx = t
  sz : t.size ≤ 12
theorem KH.has0 (h : KH N d k) : (k.p 0).has = true := h.ki.vi.kj.lv 0 (by omega) (fun x => x) (lv1.1 h.l0)
theorem ends_rw (h : KH N d k) (r0 : (k.fi 0).refs ≠ 0) (r1 : (k.fi 1).refs ≠ 0) (f0 : (k.fi 0).kind = 2 ∧ (k.fi 0).num = 0) (f1 : (k.fi 1).kind = 3 ∧ (k.fi 1).num = 0) : (k.pi 0).reads ≠ 0 ∧ (k.pi 0).writes ≠ 0 := by
  have wx := h.ki.vi.kj.wx
  have a := wx.rd 0 (by omega)
  have b := wx.wt 0 (by omega)
  have c := Fx.cK_ge (T := k.fi) (k := 2) (m := 0) (N := 24) (n := 0) (by omega)
  have e := Fx.cK_ge (T := k.fi) (k := 3) (m := 0) (N := 24) (n := 1) (by omega)
  have c1 : Fx.hit (k.fi 0) 2 0 = 1 := if_pos ⟨r0, f0⟩
  have e1 : Fx.hit (k.fi 1) 3 0 = 1 := if_pos ⟨r1, f1⟩
  omega
section
variable {t : ByteArray}
theorem TT.beg (b : Beg k) (kh : KH N d k) {A C : Nat} {E : Int} (p : NpiTo k 0 A C E k') : E = 0 ∧ A = 0 ∧ C = 1 ∧ TT k' ⟨#[]⟩ := by
  have rc := (RC.beg b).pip kh p
  obtain ⟨h1, h2, h3⟩ := b.p
  have ac : actE k 0 = 0 := actE_of (n := 0) (by omega) kh.l0
  have fl : fdL k 0 6 = [0, 1, 2, 3, 4, 5] := by unfold fdL; rw [h1]; rfl
  rcases p with ⟨a0, _⟩ | ⟨_, n, en, hn, q⟩
  · exact absurd ac a0
  · have en' : n = 0 := by omega
    subst en'
    rcases q with ⟨nl, _⟩ | ⟨_, a, c, T, S, pt, q⟩
    · rw [fl] at nl; exact absurd (by decide) nl
    · rw [b.more.1, b.more.2] at pt
      rcases pt with ⟨x, _⟩ | ⟨_, m, e, hf, y⟩
      · exact absurd x (by decide)
      · obtain ⟨rfl, rfl⟩ := hf.unique (.inl ⟨rfl, by omega, rfl, fun m hm => absurd hm (Nat.not_lt_zero m)⟩ : Pp.FreeTo Pp.nul 0 0)
        rcases y with ⟨x, _⟩ | ⟨_, e0, la, lc, rfl, rfl⟩
        · exact absurd rfl x
        · have ea : a = 0 := la.unique ⟨by omega, rfl, fun m hm => absurd hm (Nat.not_lt_zero m)⟩
          subst ea
          have ec : c = 1 := lc.unique ⟨by omega, rfl, fun m hm => by
            have : m = 0 := by omega
            subst this
            exact Nat.succ_ne_zero 0⟩
          subst ec
          rcases q with ⟨x, _⟩ | ⟨_, eA, eC, ek⟩
          · exact absurd e0 x
          · rw [fl] at eA eC
            have eA' : A = 0 := eA
            have eC' : C = 1 := eC
            subst eA' eC'
            refine ⟨e0, rfl, rfl, rc, fun m hm a => ?_, ?_, ?_, ?_, Nat.zero_le _⟩
            · subst ek
              rw [(fdK_p _ 0 1 _ m).2.2.2.1, (fdK_p _ 0 0 _ m).2.2.2.1] at a
              have a' : (k.p m).has = true := a
              have m0 : m = 0 := by
                by_cases c : m = 0
                · exact c
                · rw [h2 m c] at a'; cases a'
              subst m0
              rw [(fdK_p _ 0 1 _ 0).2.2.2.2, if_pos rfl, (fdK_p _ 0 0 _ 0).2.2.2.2, if_pos rfl]
              exact ⟨rfl, rfl⟩
            · subst ek; exact ⟨rfl, rfl⟩
            · subst ek; exact ⟨rfl, rfl⟩
            · subst ek; rfl
end
end
end Kn
end Go.Proofs.YtghogbngmcolmaaGreat

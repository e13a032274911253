import Derived.Deep.CutBlock
import Derived.Test.YtghogbngmcolmaaGreatQbk
namespace Go.Proofs.YtghogbngmcolmaaGreat
open Go.RowKit
open Tr (Fo Nd)
open Mo (Wh Mt)
open Mv (Me Bk)
open Kn (Pr Kp St us KB KJ VI EI)
section
variable {s s1 : St} {w W W' : World} {rb base : Nat}
theorem KF.fresh (h : KF s w s1 W) (f : Frm rb W W') (hr : w.heap.size ≤ rb) : KF s w s1 W' := ⟨⟨f.os.trans h.onl.os, f.tape.trans h.onl.tape, f.output.trans h.onl.output, Nat.le_trans h.onl.size f.size, fun b hb hn => (f.block b (Nat.lt_of_lt_of_le hb h.onl.size) (by omega)).trans (h.onl.block b hb hn)⟩, h.sub, h.a0⟩
theorem KKt.fresh (h : KKt W base s) (f : Frm rb W W') (hn : ¬ KB s rb) : KKt W' base s := h.same (fun i hi => f.block _ (h.lt hi) (fun e => hn ⟨i, hi, e.symm⟩))
theorem KKt.not_new (h : KKt w base s) (hr : w.heap.size ≤ rb) : ¬ KB s rb := fun c => by have := h.klt c; omega
end
def CB (w : World) (b : Nat) (p c : Int) : Prop := w.heap[b]? = some (.cells #[.int .i64 p, .int .i64 c] 38 (0, 0))
theorem CB.lt {w : World} {b : Nat} {p c : Int} (h : CB w b p c) : b < w.heap.size := (Array.getElem?_eq_some_iff.1 h).1
theorem CB.c0 {w : World} {b : Nat} {p c : Int} (h : CB w b p c) : w.cell? ⟨b, 0, none⟩ = some (.int .i64 p) := by rw [cell_blk h]; rfl
theorem CB.c1 {w : World} {b : Nat} {p c : Int} (h : CB w b p c) : w.cell? ⟨b, 1, none⟩ = some (.int .i64 c) := by rw [cell_blk h]; rfl
theorem CB.frozen {w : World} {b : Nat} {p c : Int} (h : CB w b p c) (o : Nat) : w.frozen? ⟨b, o, none⟩ = false := frozen_blk h o
theorem CB.same {w w' : World} {b : Nat} {p c : Int} (h : CB w b p c) (e : w'.heap[b]? = w.heap[b]?) : CB w' b p c := e.trans h
theorem CB.set {w : World} {b : Nat} {p c : Int} (h : CB w b p c) (p' c' : Int) : CB ((w.setCell ⟨b, 0, none⟩ (.int .i64 p')).setCell ⟨b, 1, none⟩ (.int .i64 c')) b p' c' := blk_set (blk_set h 0 _) 1 _
theorem CB.frm (w : World) (b : Nat) (p' c' : Int) : Frm b w ((w.setCell ⟨b, 0, none⟩ (.int .i64 p')).setCell ⟨b, 1, none⟩ (.int .i64 c')) := ((Frm.refl _ _).setCell _ _).setCell _ _
def Kn.WaiTo (k : Kp) (z : Int) (p : Nat) (c E : Int) (k' : Kp) : Prop :=
  (Kn.actE k z ≠ 0 ∧ E = Kn.actE k z ∧ p = 0 ∧ c = 0 ∧ k' = k) ∨
  (Kn.actE k z = 0 ∧ ∃ n : Nat, z = n ∧ n < 20 ∧ ((Kn.chL k n = [] ∧ E = 2 ∧ p = 0 ∧ c = 0 ∧ k' = k) ∨
    (Kn.chL k n ≠ [] ∧ (∀ m ∈ Kn.chL k n, Kn.lv k m = true) ∧ E = 8 ∧ p = 0 ∧ c = 0 ∧ k' = k) ∨
    (E = 0 ∧ ∃ (i m : Nat), (Kn.chL k n)[i]? = some m ∧ Kn.lv k m = false ∧ (∀ (j x : Nat), j < i → (Kn.chL k n)[j]? = some x → Kn.lv k x = true) ∧ p = Sp.pidN k.sp (m : Int) (Sp.inN k.sp (n : Int) : Nat) ∧ c = (k.p m).code ∧ Kn.VanN 6 k m k')))
section
variable (base N : Nat) (d : Nat → Nat) (s : St) (w : World)
set_option maxRecDepth 100000 in
set_option maxHeartbeats 2000000 in
theorem kwait_any (hN : N ≤ 900) (z : Int) (h : KKt w base s) (hv : VI (fun _ => False) N d s.k) (h0 : (s.k.p 0).par = -1) :
    Calls Tryz.prog 11 #[.pointer (some ⟨s.A 0, 0, none⟩), .int .i64 z] w fun e w' => ∃ (p : Nat) (c E : Int) (k' : Kp), e = .returned (.tuple #[.agg #[.int .i64 (p : Int), .int .i64 c], errV E]) ∧ Kn.WaiTo s.k z p c E k' ∧ KKt w' base { s with k := k' } ∧ KF s w { s with k := k' } w' := by
  have b0 : Below w.heap.size w (w.alloc (.cells #[.int .i64 0, .int .i64 0] 38)) := (Below.refl _ _).alloc (Nat.le_refl _) _
  have AC := Hid.intro (kacting_any base s _ z (h.below b0))
  have R0 : Hid (CB (w.alloc (.cells #[.int .i64 0, .int .i64 0] 38)) w.heap.size 0 0 ∧ Below w.heap.size w (w.alloc (.cells #[.int .i64 0, .int .i64 0] 38))) := Hid.intro ⟨heap_alloc_new w _, b0⟩
  have H := Hid.intro (And.intro h (And.intro hv (And.intro h0 hN)))
  obtain ⟨kb, hkb⟩ : ∃ kb, s.A 0 = kb := ⟨_, rfl⟩
  have HK := Hid.intro hkb
  rw [hkb] at AC ⊢
  by_cases a : Kn.actE s.k z = 0
  · obtain ⟨n, rfl, hn, hl⟩ := Kn.actE_ok a
    have HA := Hid.intro a
    rw [a, errV_zero] at AC
    generalize aptE kb (n : Int) 0 = ap at *
    have st1 : (s.k.p n).st ≠ 0 := by
      have : decide ((s.k.p n).st = 1) = true := hl
      have : (s.k.p n).st = 1 := by simpa using this
      omega
    obtain ⟨y, hy⟩ : ∃ y, s.k.sp.of n = y + 1 := ⟨s.k.sp.of n - 1, by have := (hv.kj.of n hn).2 st1; omega⟩
    have HY := Hid.intro hy
    clear h hv h0 a b0 hl st1 hy
    go_enter Tryz.func11, Tryz.ntmps11
    go_wp2_with fail
    refine AC.out.mono ?_
    rintro e w1 ⟨rfl, hw⟩
    rw [← hw] at R0
    clear hw AC
    have CH := Hid.intro (kchildren_any base s w1 n (H.out.1.below R0.out.2) (H.out.2.1.mems hn HY.out))
    rw [HK.out] at CH
    go_wp2_with fail
    refine CH.out.mono ?_
    rintro e w4 ⟨v4, u4, rfl, hb4, hL⟩
    clear CH
    obtain ⟨LC, hLC⟩ : ∃ LC, Kn.chL s.k n = LC := ⟨_, rfl⟩
    rw [hLC] at hL
    have HLC := Hid.intro hLC
    have LP : Hid ((∀ x ∈ LC, x < 20) ∧ ∀ x ∈ LC, x ≠ 0) := Hid.intro (by
      rw [← HLC.out]
      exact ⟨Kn.chL_lt H.out.2.1 hn HY.out, fun x hx e => by have := Kn.chL_par x hx; rw [e, H.out.2.2.1] at this; omega⟩)
    obtain ⟨a1, cp1, hv1⟩ := own_form hL.own
    obtain ⟨NN, hNN⟩ : ∃ NN, LC.length = NN := ⟨_, rfl⟩
    have HNN := Hid.intro hNN
    have NL : NN ≤ 21 := by
      rw [← hNN, ← HLC.out]
      exact Nat.le_trans (Kn.chK_len _ _ _) (Kn.memL_len _ _)
    have BB : Hid (Below w.heap.size w w4 ∧ CB w4 w.heap.size 0 0 ∧ KKt w4 base s) := Hid.intro (by
      have q : Below w1.heap.size w1 w4 := hb4.trans (hL.bel.mono hb4.size)
      exact ⟨R0.out.2.trans (q.mono (by have := R0.out.1.lt; omega)), R0.out.1.same (q.block _ R0.out.1.lt), (H.out.1.below R0.out.2).below q⟩)
    have LL : Hid (∀ i, i < LC.length → ∃ gg cap, v4 = .slice (some ⟨gg, 0, none⟩) LC.length cap ∧ w4.cell? ⟨gg, i, none⟩ = some (.int .i64 ((LC.getD i 0 : Nat) : Int))) := Hid.intro (fun i hi => by
      obtain ⟨gg, cap, hv, hg, hc⟩ := hL.cells (by omega)
      refine ⟨gg, cap, hv, ?_⟩
      have q := hc i hi
      rw [show 0 + i = i by omega] at q
      exact q)
    rw [hNN] at hv1
    have HV1 := Hid.intro hv1
    rw [hv1]
    obtain ⟨rb, hrb⟩ : ∃ rb, w.heap.size = rb := ⟨_, rfl⟩
    have HR := Hid.intro hrb
    rw [hrb] at BB ⊢
    clear hL hv1 hNN hb4 hLC R0 hrb
    by_cases n0 : NN = 0
    · subst n0
      have EL : Hid (LC = []) := Hid.intro (List.length_eq_zero_iff.1 HNN.out)
      have x0 := BB.out.2.1.c0
      have x1 := BB.out.2.1.c1
      have xf := BB.out.2.1.frozen
      go_wp2_with fail
      have S2 : Hid (CB ((w4.setCell ⟨rb, 0, none⟩ (.int .i64 0)).setCell ⟨rb, 1, none⟩ (.int .i64 0)) rb 0 0 ∧ KKt ((w4.setCell ⟨rb, 0, none⟩ (.int .i64 0)).setCell ⟨rb, 1, none⟩ (.int .i64 0)) base s ∧ KF s w s ((w4.setCell ⟨rb, 0, none⟩ (.int .i64 0)).setCell ⟨rb, 1, none⟩ (.int .i64 0))) := Hid.intro ⟨BB.out.2.1.set 0 0, BB.out.2.2.fresh (CB.frm _ _ _ _) (H.out.1.not_new (by rw [HR.out]; exact Nat.le_refl _)), (KF.below (by rw [HR.out]; exact BB.out.1)).fresh (CB.frm _ _ _ _) (by rw [HR.out]; exact Nat.le_refl _)⟩
      generalize (w4.setCell ⟨rb, 0, none⟩ (.int .i64 0)).setCell ⟨rb, 1, none⟩ (.int .i64 0) = WF at S2 ⊢
      have y0 := S2.out.1.c0
      have y1 := S2.out.1.c1
      refine bodyPost_ret (v := .tuple #[.agg #[.int .i64 0, .int .i64 0], .iface 60 (.int .i64 2)]) (by simp [results, Tryz.f11, go_sem, y0, y1]) rfl ?_
      exact ⟨0, 0, 2, s.k, by rw [errV_ne (by decide)]; rfl, .inr ⟨HA.out, n, rfl, hn, .inl ⟨by rw [HLC.out]; exact EL.out, rfl, rfl, rfl, rfl⟩⟩, S2.out.2⟩
    · have nB : ((NN : Int) == 0) = false := by simp; omega
      have nI : ¬ (NN : Int) = 0 := by omega
      have EL : Hid (LC ≠ []) := Hid.intro (fun e => n0 (by rw [← HNN.out, e]; rfl))
      go_wp2_with fail
      go_loopw [10, 32] (fun _ i wr => ∃ (k : Nat), i = .int .i64 k ∧ k ≤ NN ∧ wr = w4 ∧ Hid (∀ j x, j < k → LC[j]? = some x → Kn.lv s.k x = true)) (fun _ i _ => NN - (intOf i).toNat)
      case atStart => exact ⟨0, rfl, by omega, rfl, Hid.intro (fun j _ hj => absurd hj (Nat.not_lt_zero j))⟩
      case round =>
        obtain ⟨k, rfl, hk, hwr, R⟩ := hrel
        subst wr
        by_cases hlt : k < NN
        · have hltI : (k : Int) < NN := by omega
          have hkL : k < LC.length := by rw [HNN.out]; exact hlt
          obtain ⟨m, hm⟩ : ∃ m, LC[k]? = some m := ⟨_, List.getElem?_eq_getElem hkL⟩
          have m20 : m < 20 := LP.out.1 m (List.mem_of_getElem? hm)
          have m20I : (m : Int) < 20 := by omega
          obtain ⟨gg, cap, hv, hc⟩ := LL.out k hkL
          rw [HV1.out] at hv
          cases hv
          have cm : w4.cell? ⟨gg, k, none⟩ = some (.int .i64 (m : Int)) := by
            rw [hc]
            simp [List.getD_eq_getElem?_getD, hm]
          obtain ⟨tl, htl⟩ : ∃ tl, Kn.lv s.k m = tl := ⟨_, rfl⟩
          have LV := Hid.intro (klive_any base s w4 m BB.out.2.2 m20 tl htl)
          rw [HK.out] at LV
          have HM := Hid.intro (And.intro hm (And.intro htl (LP.out.2 m (List.mem_of_getElem? hm))))
          clear hc hm hkL htl
          cases tl
          · have cc := BB.out.2.2.cCode m m20
            rw [HK.out] at cc
            obtain ⟨cd, hcd⟩ : ∃ cd, (s.k.p m).code = cd := ⟨_, rfl⟩
            have HCD := Hid.intro hcd
            rw [hcd] at cc
            clear hcd
            have SP : Hid (∀ W, Below w4.heap.size w4 W → Calls Tryz.prog 37 #[.pointer (some ⟨kb, 0, none⟩), .int .i64 n] W fun e w' => e = .returned (.int .i64 (Sp.inN s.k.sp (n : Int) : Int)) ∧ w' = W) := Hid.intro (fun W b => by rw [← HK.out]; exact kspace_any base s W (n : Int) (BB.out.2.2.below b))
            have PI : Hid (∀ W, Below w4.heap.size w4 W → Calls Tryz.prog 36 #[.pointer (some ⟨kb, 0, none⟩), .int .i64 m, .int .i64 (Sp.inN s.k.sp (n : Int) : Int)] W fun e w' => e = .returned (.int .i64 (Sp.pidN s.k.sp (m : Int) (Sp.inN s.k.sp (n : Int) : Nat) : Int)) ∧ w' = W) := Hid.intro (fun W b => by rw [← HK.out]; exact kpid_any base s W (m : Int) _ (BB.out.2.2.below b) H.out.2.1.iv.who0)
            obtain ⟨pp, hpp⟩ : ∃ pp, Sp.pidN s.k.sp (m : Int) (Sp.inN s.k.sp (n : Int) : Nat) = pp := ⟨_, rfl⟩
            have HPP := Hid.intro hpp
            rw [hpp] at PI
            obtain ⟨ss, hss⟩ : ∃ ss, Sp.inN s.k.sp (n : Int) = ss := ⟨_, rfl⟩
            rw [hss] at SP PI
            clear hpp hss
            go_upto_region 11 with (refine LV.out.mono ?_; rintro e w5 ⟨rfl, hw⟩; subst w5)
            have nk := World.new_ne w4 ⟨kb, m * 12 + 3, none⟩ cc
            go_region_held3 (fun w' => w'.cell? ⟨kb, m * 12 + 3, none⟩ = some (.int .i64 cd)) (go_keep) (first | (go_at_call 37; refine (SP.out _ (by first | exact (Below.refl _ _).drew | exact (Below.refl _ _).drew.alloc (Nat.le_refl _) _)).mono ?_; rintro e w5 ⟨rfl, hw⟩; subst w5) | (go_at_call 36; refine (PI.out _ (by first | exact (Below.refl _ _).drew | exact (Below.refl _ _).drew.alloc (Nat.le_refl _) _)).mono ?_; rintro e w5 ⟨rfl, hw⟩; subst w5))
            all_goals
              have S5 : Hid (CB (w4.alloc (.cells #[.int .i64 pp, .int .i64 cd] 38)).drew w4.heap.size pp cd ∧ CB (w4.alloc (.cells #[.int .i64 pp, .int .i64 cd] 38)).drew rb 0 0 ∧ KKt (w4.alloc (.cells #[.int .i64 pp, .int .i64 cd] 38)).drew base s ∧ KF s w s (w4.alloc (.cells #[.int .i64 pp, .int .i64 cd] 38)).drew ∧ rb < w4.heap.size) := Hid.intro (by
                have b5 : Below w4.heap.size w4 (w4.alloc (.cells #[.int .i64 pp, .int .i64 cd] 38)).drew := ((Below.refl _ _).alloc (Nat.le_refl _) _).drew
                exact ⟨heap_alloc_new w4 _, BB.out.2.1.same (b5.block _ BB.out.2.1.lt), BB.out.2.2.below b5, (KF.below (by rw [HR.out]; exact BB.out.1)).trans (KF.below b5), BB.out.2.1.lt⟩)
              generalize (w4.alloc (.cells #[.int .i64 pp, .int .i64 cd] 38)).drew = W5 at *
              generalize w4.heap.size = cb at *
              have VN : Hid (Calls Tryz.prog 41 #[.pointer (some ⟨kb, 0, none⟩), .int .i64 m] W5 fun e w' => ∃ k', e = .returned (.tuple #[]) ∧ Kn.VanN 6 s.k m k' ∧ KKt w' base { s with k := k' } ∧ KF s w { s with k := k' } w' ∧ CB w' cb pp cd ∧ CB w' rb 0 0 ∧ KF s W5 { s with k := k' } w') := Hid.intro (by
                obtain ⟨x, hx⟩ : ∃ x, s.k.sp.of m = x + 1 := by
                  have q : m ∈ Kn.chL s.k n := by rw [HLC.out]; exact List.mem_of_getElem? HM.out.1
                  unfold Kn.chL Kn.chK at q
                  have y6 := (H.out.2.1.iv.mem_self hn HY.out).2
                  rw [Sp.inN_of hn HY.out] at q
                  have q2 := (List.mem_filter.1 q).1
                  unfold membL at q2
                  rw [Sp.isE_nat y6.1 y6.2, if_pos rfl, Int.toNat_natCast] at q2
                  obtain ⟨i, hi⟩ := List.getElem?_of_mem q2
                  have q3 := (H.out.2.1.iv.mem_of y6.1 m20 (Sp.memb_of hi (fun p hp => H.out.2.1.iv.wle y p y6.1 hp)).2).1
                  exact ⟨s.k.sp.of m - 1, by omega⟩
                have q := kvanish_any base N d hN (fun _ => False) s W5 m x S5.out.2.2.1 H.out.2.1 m20 HM.out.2.2 (fun x => x) hx (fun _ _ _ x => x.elim)
                rw [HK.out] at q
                refine q.mono ?_
                rintro e w6 ⟨k', rfl, vn, ka, kf⟩
                have nk1 : ¬ KB s cb := H.out.1.not_new (by have := S5.out.2.2.2.2; rw [HR.out]; omega)
                have nk2 : ¬ KB s rb := H.out.1.not_new (by rw [HR.out]; exact Nat.le_refl _)
                exact ⟨k', rfl, vn, ka, S5.out.2.2.2.1.trans kf, S5.out.1.same (kf.keep S5.out.1.lt nk1), S5.out.2.1.same (kf.keep S5.out.2.1.lt nk2), kf⟩)
              clear cc cm nk
              go_wp2_with fail
              refine VN.out.mono ?_
              rintro e w6 ⟨k', rfl, vn, ka, kf, cb1, rb1, kf1⟩
              have S6 : Hid (Kn.WaiTo s.k (n : Int) pp cd 0 k' ∧ KKt w6 base { s with k := k' } ∧ KF s w { s with k := k' } w6 ∧ CB w6 rb 0 0 ∧ ¬ KB { s with k := k' } rb) := Hid.intro ⟨.inr ⟨HA.out, n, rfl, hn, .inr (.inr ⟨rfl, k, m, by rw [HLC.out]; exact HM.out.1, HM.out.2.1, by rw [HLC.out]; exact R.out, HPP.out.symm, HCD.out.symm, vn⟩)⟩, ka, kf, rb1, kf1.apart S5.out.2.1.lt (H.out.1.not_new (by rw [HR.out]; exact Nat.le_refl _))⟩
              have x0 := rb1.c0
              have x1 := rb1.c1
              have xf := rb1.frozen
              have u0 := cb1.c0
              have u1 := cb1.c1
              clear vn ka kf cb1 rb1 kf1 S5 VN
              go_wp2_with fail
              have S2 : Hid (CB ((w6.setCell ⟨rb, 0, none⟩ (.int .i64 pp)).setCell ⟨rb, 1, none⟩ (.int .i64 cd)) rb pp cd ∧ KKt ((w6.setCell ⟨rb, 0, none⟩ (.int .i64 pp)).setCell ⟨rb, 1, none⟩ (.int .i64 cd)) base { s with k := k' } ∧ KF s w { s with k := k' } ((w6.setCell ⟨rb, 0, none⟩ (.int .i64 pp)).setCell ⟨rb, 1, none⟩ (.int .i64 cd))) := Hid.intro ⟨S6.out.2.2.2.1.set pp cd, S6.out.2.1.fresh (CB.frm _ _ _ _) S6.out.2.2.2.2, S6.out.2.2.1.fresh (CB.frm _ _ _ _) (by rw [HR.out]; exact Nat.le_refl _)⟩
              generalize (w6.setCell ⟨rb, 0, none⟩ (.int .i64 pp)).setCell ⟨rb, 1, none⟩ (.int .i64 cd) = WF at S2 ⊢
              have y0 := S2.out.1.c0
              have y1 := S2.out.1.c1
              (try simp only [Exit.then])
              refine bodyPost_ret (v := .tuple #[.agg #[.int .i64 pp, .int .i64 cd], .nilIface]) (by simp [results, Tryz.f11, go_sem, y0, y1]) rfl ?_
              exact ⟨pp, cd, 0, k', by rw [errV_zero], S6.out.1, S2.out.2⟩
          · have R1 : Hid (∀ j x, j < k + 1 → LC[j]? = some x → Kn.lv s.k x = true) := Hid.intro (fun j x hj hx => by
              by_cases e : j = k
              · subst e; rw [HM.out.1] at hx; cases hx; exact HM.out.2.1
              · exact R.out j x (by omega) hx)
            go_wp2_with fail
            refine LV.out.mono ?_
            rintro e w5 ⟨rfl, hw⟩
            subst w5
            go_wp2_with fail
            go_roundw
            case rel => exact ⟨k + 1, by go_num, by omega, by first | rfl | trivial, R1⟩
            case measure => simp [intOf]; omega
        · obtain rfl : k = NN := by omega
          have AL : Hid (∀ x ∈ LC, Kn.lv s.k x = true) := Hid.intro (fun x hx => by
            obtain ⟨j, hj⟩ := List.getElem?_of_mem hx
            exact R.out j x (by rw [← HNN.out]; exact (List.getElem?_eq_some_iff.1 hj).1) hj)
          have x0 := BB.out.2.1.c0
          have x1 := BB.out.2.1.c1
          have xf := BB.out.2.1.frozen
          go_wp2_with fail
          have S2 : Hid (CB ((w4.setCell ⟨rb, 0, none⟩ (.int .i64 0)).setCell ⟨rb, 1, none⟩ (.int .i64 0)) rb 0 0 ∧ KKt ((w4.setCell ⟨rb, 0, none⟩ (.int .i64 0)).setCell ⟨rb, 1, none⟩ (.int .i64 0)) base s ∧ KF s w s ((w4.setCell ⟨rb, 0, none⟩ (.int .i64 0)).setCell ⟨rb, 1, none⟩ (.int .i64 0))) := Hid.intro ⟨BB.out.2.1.set 0 0, BB.out.2.2.fresh (CB.frm _ _ _ _) (H.out.1.not_new (by rw [HR.out]; exact Nat.le_refl _)), (KF.below (by rw [HR.out]; exact BB.out.1)).fresh (CB.frm _ _ _ _) (by rw [HR.out]; exact Nat.le_refl _)⟩
          generalize (w4.setCell ⟨rb, 0, none⟩ (.int .i64 0)).setCell ⟨rb, 1, none⟩ (.int .i64 0) = WF at S2 ⊢
          have y0 := S2.out.1.c0
          have y1 := S2.out.1.c1
          refine bodyPost_ret (v := .tuple #[.agg #[.int .i64 0, .int .i64 0], .iface 60 (.int .i64 8)]) (by simp [results, Tryz.f11, go_sem, y0, y1]) rfl ?_
          exact ⟨0, 0, 8, s.k, by rw [errV_ne (by decide)]; rfl, .inr ⟨HA.out, n, rfl, hn, .inr (.inl ⟨by rw [HLC.out]; exact EL.out, by rw [HLC.out]; exact AL.out, rfl, rfl, rfl, rfl⟩)⟩, S2.out.2⟩
  · have FIN : Hid (Kn.WaiTo s.k z 0 0 (Kn.actE s.k z) s.k) := Hid.intro (.inl ⟨a, rfl, rfl, rfl, rfl⟩)
    have HE := Hid.intro (errV_ne a)
    rw [errV_ne a] at AC
    clear h hv h0 a b0
    generalize aptE kb z (Kn.actE s.k z) = ap at *
    go_enter Tryz.func11, Tryz.ntmps11
    go_wp2_with fail
    refine AC.out.mono ?_
    rintro e w4 ⟨rfl, hw⟩
    rw [← hw] at R0
    clear hw AC
    obtain ⟨rb, hrb⟩ : ∃ rb, w.heap.size = rb := ⟨_, rfl⟩
    have HR := Hid.intro hrb
    rw [hrb] at R0 ⊢
    have x0 := R0.out.1.c0
    have x1 := R0.out.1.c1
    have xf := R0.out.1.frozen
    clear hrb
    go_wp2_with fail
    have S2 : Hid (CB ((w4.setCell ⟨rb, 0, none⟩ (.int .i64 0)).setCell ⟨rb, 1, none⟩ (.int .i64 0)) rb 0 0 ∧ KKt ((w4.setCell ⟨rb, 0, none⟩ (.int .i64 0)).setCell ⟨rb, 1, none⟩ (.int .i64 0)) base s ∧ KF s w s ((w4.setCell ⟨rb, 0, none⟩ (.int .i64 0)).setCell ⟨rb, 1, none⟩ (.int .i64 0))) := Hid.intro ⟨R0.out.1.set 0 0, (H.out.1.below (by rw [HR.out]; exact R0.out.2)).fresh (CB.frm _ _ _ _) (H.out.1.not_new (by rw [HR.out]; exact Nat.le_refl _)), (KF.below (by rw [HR.out]; exact R0.out.2)).fresh (CB.frm _ _ _ _) (by rw [HR.out]; exact Nat.le_refl _)⟩
    generalize (w4.setCell ⟨rb, 0, none⟩ (.int .i64 0)).setCell ⟨rb, 1, none⟩ (.int .i64 0) = WF at S2 ⊢
    have y0 := S2.out.1.c0
    have y1 := S2.out.1.c1
    refine bodyPost_ret (v := .tuple #[.agg #[.int .i64 0, .int .i64 0], .iface 60 (.int .i64 (Kn.actE s.k z))]) (by simp [results, Tryz.f11, go_sem, y0, y1]) rfl ?_
    exact ⟨0, 0, Kn.actE s.k z, s.k, by rw [HE.out]; rfl, FIN.out, S2.out.2⟩
end
end Go.Proofs.YtghogbngmcolmaaGreat

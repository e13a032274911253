import Derived.Deep.CutRange
import Derived.Deep.CutBlock
import Derived.Deep.DeepCutAuto
import Derived.Test.YtghogbngmcolmaaGreatQbr
namespace Go.Proofs.YtghogbngmcolmaaGreat
open Go.RowKit
open Tr (Fo Nd)
open Mo (Wh Mt)
open Mv (Me Bk)
open Kn (Pr Kp St us KB KJ VI EI KH TK)
structure TKS (w : World) (kb c5 c6 N : Nat) (d : Nat → Nat) (s : St) (cd : Nat → Int) (en : Nat → Bool) (W : World) : Prop where
  bel : Below w.heap.size w W
  kk : KKt W w.heap.size s
  kh : KH N d s.k
  tk : TK s.k cd en
  cz : ZAt W c5 21 45 cd
  bz : BAt W c6 21 46 en
  n5 : ¬ KB s c5
  n6 : ¬ KB s c6
  ge : w.heap.size ≤ c5 ∧ w.heap.size ≤ c6 ∧ c5 ≠ c6
  a0 : s.A 0 = kb
section
variable {w W W' : World} {kb c5 c6 N N' : Nat} {d d' : Nat → Nat} {s s' : St} {cd : Nat → Int} {en : Nat → Bool}
theorem TKS.below (h : TKS w kb c5 c6 N d s cd en W) (k : Below W.heap.size W W') : TKS w kb c5 c6 N d s cd en W' := ⟨h.bel.trans (k.mono h.bel.size), h.kk.below k, h.kh, h.tk, h.cz.same (k.block _ h.cz.lt), h.bz.same (k.block _ h.bz.lt), h.n5, h.n6, h.ge, h.a0⟩
theorem TKS.step (h : TKS w kb c5 c6 N d s cd en W) (k : KKt W' w.heap.size s') (f : KF s W s' W') (kh : KH N' d' s'.k) (tk : TK s'.k cd en) : TKS w kb c5 c6 N' d' s' cd en W' :=
  ⟨f.behind h.kk h.bel (Nat.le_refl _) h.bel.size, k, kh, tk, h.cz.same (f.keep h.cz.lt h.n5), h.bz.same (f.keep h.bz.lt h.n6), f.apart h.cz.lt h.n5, f.apart h.bz.lt h.n6, h.ge, f.a0.trans h.a0⟩
end
set_option maxRecDepth 100000 in
set_option maxHeartbeats 1000000 in
theorem tkd_far (a0 : Option Addr) (n0 c0 : Nat) (w : World) (h : 150 < n0) :
    Calls Tryz.prog 4 #[.slice a0 n0 c0] w fun e w' => e = .returned (.bool true) ∧ Below w.heap.size w w' := by
  go_enter Tryz.func4, Tryz.ntmps4
  go_wp2_with fail
  refine (kbegun_any _).mono ?_
  rintro e w1 ⟨s, rfl, bg, kh, kk, b1⟩
  have B1 := Hid.intro b1
  clear bg kh kk b1
  go_wp2_with fail
  refine (few_far _ _ _ _ _ (by omega)).mono ?_
  rintro e w2 ⟨rfl, hw⟩
  subst w2
  go_wp2_with fail
  go_ret
  exact ⟨rfl, B1.out⟩
set_option maxRecDepth 100000 in
set_option maxHeartbeats 8000000 in
theorem tkd_near (a0 : Option Addr) (b0 o0 n0 c0 : Nat) (ax : Nat → Act8) (w : World) (hn : n0 ≤ 150) (ha : 0 < n0 → a0 = some ⟨b0, o0, none⟩) (hc : ∀ i, i < n0 → ∀ j, j < 8 → w.cell? ⟨b0, o0 + i * 8 + j, none⟩ = some ((ax i).cell j)) :
    Calls Tryz.prog 4 #[.slice a0 n0 c0] w fun e w' => e = .returned (.bool true) ∧ Below w.heap.size w w' := by
  have H0 := Hid.intro (And.intro ha hc)
  clear ha hc
  go_enter Tryz.func4, Tryz.ntmps4
  go_wp2_with fail
  refine (kbegun_any _).mono ?_
  rintro e w1 ⟨s, rfl, bg, kh, kk, b1⟩
  have S1 := Hid.intro (And.intro bg (And.intro kh (And.intro kk b1)))
  clear bg kh kk b1
  have FW : Hid (Calls Tryz.prog 8 #[.slice a0 n0 c0, .int .i64 150] w1 fun e w' => ∃ v : Bool, e = .returned (.bool v) ∧ w' = w1) := Hid.intro (few_near a0 b0 o0 n0 c0 150 ax w1 (by omega) (by omega) H0.out.1 (fun i hi j hj => by
    have bl : b0 < w.heap.size := World.block_lt_of_cell? _ _ (H0.out.2 i hi j hj)
    exact (S1.out.2.2.2.cell (p := ⟨b0, o0 + i * 8 + j, none⟩) bl).trans (H0.out.2 i hi j hj)))
  obtain ⟨kb, hkb⟩ : ∃ kb, s.A 0 = kb := ⟨_, rfl⟩
  have HK := Hid.intro hkb
  rw [hkb]
  clear hkb
  go_wp2_with fail
  refine FW.out.mono ?_
  rintro e w2 ⟨v, rfl, hw⟩
  subst w2
  cases v
  · go_wp2_with fail
    go_ret
    exact ⟨rfl, S1.out.2.2.2⟩
  · have S0 : Hid (∀ C D, C = arrZ 21 (fun _ => 0) → D = arrB 21 (fun _ => false) → TKS w kb w1.heap.size (w1.heap.size + 1) 2 (fun _ => 1) s (fun _ => 0) (fun _ => false) ((w1.alloc (.cells C 45)).alloc (.cells D 46))) := Hid.intro (fun C D hC hD => by
      subst hC; subst hD
      have z1 : (w1.alloc (.cells (arrZ 21 (fun _ => 0)) 45)).heap.size = w1.heap.size + 1 := by simp
      have e1 : Below w1.heap.size w1 (w1.alloc (.cells (arrZ 21 (fun _ => 0)) 45)) := (Below.refl _ _).alloc (Nat.le_refl _) _
      have e2 : Below (w1.alloc (.cells (arrZ 21 (fun _ => 0)) 45)).heap.size (w1.alloc (.cells (arrZ 21 (fun _ => 0)) 45)) ((w1.alloc (.cells (arrZ 21 (fun _ => 0)) 45)).alloc (.cells (arrB 21 (fun _ => false)) 46)) := (Below.refl _ _).alloc (Nat.le_refl _) _
      have e3 := e1.trans (e2.mono (by omega))
      have N2 := heap_alloc_new (w1.alloc (.cells (arrZ 21 (fun _ => 0)) 45)) (.cells (arrB 21 (fun _ => false)) 46)
      rw [z1] at N2
      have bs := S1.out.2.2.2.size
      exact ⟨S1.out.2.2.2.trans (e3.mono bs), S1.out.2.2.1.below e3, S1.out.2.1, TK.beg S1.out.1, (e2.block _ (by omega)).trans (heap_alloc_new w1 _), N2, S1.out.2.2.1.not_new (Nat.le_refl _), S1.out.2.2.1.not_new (by omega), ⟨by omega, by omega, by omega⟩, HK.out⟩)
    go_upto_region 6 with fail
    refine wp_gen (fun W => TKS w kb w1.heap.size (w1.heap.size + 1) 2 (fun _ => 1) s (fun _ => 0) (fun _ => false) W) (S0.out _ _ (by kernel_rfl) (by kernel_rfl)) ?_
    intro W2 h2
    have S2 := Hid.intro h2
    clear h2 S0 FW S1
    obtain ⟨c5, h5⟩ : ∃ c5, w1.heap.size = c5 := ⟨_, rfl⟩
    obtain ⟨c6, h6⟩ : ∃ c6, w1.heap.size + 1 = c6 := ⟨_, rfl⟩
    rw [h6] at S2 ⊢
    rw [h5] at S2 ⊢
    clear h5 h6 HK
    go_wp2_with fail
    go_loopw [7] (fun i wr => ∃ (k : Nat) (s : St) (N : Nat) (d : Nat → Nat) (cd : Nat → Int) (en : Nat → Bool), i = .int .i64 k ∧ k ≤ n0 ∧ N ≤ 2 + 2 * k ∧ Hid (TKS w kb c5 c6 N d s cd en wr)) (fun i _ => n0 - (intOf i).toNat)
    case atStart => exact ⟨0, s, 2, _, _, _, rfl, by omega, by omega, S2⟩
    case round =>
      clear S2
      obtain ⟨k, s, N, d, cd, en, rfl, hk, hN, S⟩ := hrel
      by_cases hlt : k < n0
      · have hltI : (k : Int) < (n0 : Int) := by omega
        have N9 : Hid (N ≤ 300) := Hid.intro (by omega)
        have HN := Hid.intro hN
        have hae := H0.out.1 (by omega)
        subst hae
        have hc := H0.out.2
        obtain ⟨kd, A, Q, R, K, On, S1, T1, hax⟩ : ∃ kd A B C K On S1 T1, ax k = ⟨kd, A, B, C, K, On, S1, T1⟩ := ⟨_, _, _, _, _, _, _, _, rfl⟩
        have bl : b0 < w.heap.size := World.block_lt_of_cell? _ _ (hc k hlt 0 (by omega))
        have cl : ∀ j, j < 8 → wr.cell? ⟨b0, o0 + k * 8 + j, none⟩ = some ((⟨kd, A, Q, R, K, On, S1, T1⟩ : Act8).cell j) := fun j hj => by
          rw [← hax]; exact (S.out.bel.cell (p := ⟨b0, o0 + k * 8 + j, none⟩) bl).trans (hc k hlt j hj)
        have q0 : wr.cell? ⟨b0, o0 + k * 8, none⟩ = some (.string kd) := cl 0 (by omega)
        have q1 : wr.cell? ⟨b0, o0 + k * 8 + 1, none⟩ = some (.int .i64 A) := cl 1 (by omega)
        have q2 : wr.cell? ⟨b0, o0 + k * 8 + 2, none⟩ = some (.int .i64 Q) := cl 2 (by omega)
        have q3 : wr.cell? ⟨b0, o0 + k * 8 + 3, none⟩ = some (.int .i64 R) := cl 3 (by omega)
        have q4 : wr.cell? ⟨b0, o0 + k * 8 + 4, none⟩ = some (.int .u64 K) := cl 4 (by omega)
        have q5 : wr.cell? ⟨b0, o0 + k * 8 + 5, none⟩ = some (.bool On) := cl 5 (by omega)
        have q6 : wr.cell? ⟨b0, o0 + k * 8 + 6, none⟩ = some (.string S1) := cl 6 (by omega)
        have q7 : wr.cell? ⟨b0, o0 + k * 8 + 7, none⟩ = some (.string T1) := cl 7 (by omega)
        clear cl hax bl hc hN
        go_upto_region 10 with fail
        have bb : Hid (Below wr.heap.size wr (wr.alloc (.cells #[.string kd, .int .i64 A, .int .i64 Q, .int .i64 R, .int .u64 K, .bool On, .string S1, .string T1] 33)) ∧ w.heap.size ≤ wr.heap.size) := Hid.intro ⟨(Below.refl _ _).alloc (Nat.le_refl _) _, S.out.bel.size⟩
        refine wp_gen (fun W' => (TKS w kb c5 c6 N d s cd en W' ∧ ¬ KB s wr.heap.size ∧ wr.heap.size ≠ c5 ∧ wr.heap.size ≠ c6 ∧ w.heap.size ≤ wr.heap.size) ∧ W'.heap[wr.heap.size]? = some (.cells #[.string kd, .int .i64 A, .int .i64 Q, .int .i64 R, .int .u64 K, .bool On, .string S1, .string T1] 33 (0, 0))) ⟨⟨S.out.below bb.out.1, S.out.kk.not_new (Nat.le_refl _), by have := S.out.cz.lt; omega, by have := S.out.bz.lt; omega, bb.out.2⟩, heap_alloc_new wr _⟩ ?_
        rintro W3 ⟨hS3, hbx⟩
        clear q0 q1 q2 q3 q4 q5 q6 q7 S bb
        generalize wr.heap.size = ba at *
        have S3 := Hid.intro hS3
        have LB := Hid.intro (Array.getElem?_eq_some_iff.1 hbx).1
        have x0 := act_cells hbx 0 _ rfl
        have x1 := act_cells hbx 1 _ rfl
        have x2 := act_cells hbx 2 _ rfl
        have ACT : Hid (∀ W' s', KF s W3 s' W' → W'.cell? ⟨ba, 1, none⟩ = some (.int .i64 A) ∧ W'.cell? ⟨ba, 2, none⟩ = some (.int .i64 Q)) := Hid.intro (fun W' s' f => by
          have e := f.keep LB.out hS3.2.1
          exact ⟨(World.cell?_of_block e).trans x1, (World.cell?_of_block e).trans x2⟩)
        clear hS3 hbx
        go_upto_block 2 with fail
        go_cut [9, 10, 11, 12, 13, 14, 15, 16] from 44 to 138 (fun _ _ _ _ _ _ _ _ wc => ∃ (s' : St) (N' : Nat) (d' : Nat → Nat) (cd' : Nat → Int) (en' : Nat → Bool), N' ≤ 2 + 2 * (k + 1) ∧ Hid (TKS w kb c5 c6 N' d' s' cd' en' wc))
        case first =>
          by_cases t1 : (kd.toList == [102, 111, 114, 107]) = true
          · as_aux_lemma =>
            have FK := Hid.intro (kfork_any w.heap.size N d s W3 (by have := N9.out; omega) A false S3.out.1.kk S3.out.1.bel.size S3.out.1.kh.ki.vi)
            rw [S3.out.1.a0] at FK
            go_wp2_with fail
            refine FK.out.mono ?_
            rintro e w5 ⟨p, E, s', rfl, ft, k5, f5⟩
            have TF := S3.out.1.tk.fork S3.out.1.kh ft
            obtain ⟨d', kh'⟩ := S3.out.1.kh.fork ft
            by_cases e0 : E = 0
            · obtain ⟨p2, p20, ep, tk'⟩ := TF.2 e0
              subst e0
              have S5 := Hid.intro (S3.out.1.step k5 f5 kh' tk')
              have y1 : w5.cell? ⟨c6, p, none⟩ = some (.bool false) := by rw [S5.out.bz.cell p (by omega), ep]
              have p2I : ¬ (p : Int) < 2 := by omega
              have p20I : ¬ (20 : Int) < (p : Int) := by omega
              have p21I : (p : Int) < 21 := by omega
              rw [errV_zero]
              clear TF kh' tk' k5 f5 ft FK ep p2 p20
              go_wp2_with fail
              go_meet
              case rel => exact ⟨s', N + 2, d', cd, en, by have := HN.out; omega, S5⟩
            · have ek := TF.1 e0
              have S5 := Hid.intro (S3.out.1.step k5 f5 kh' (by rw [ek]; exact S3.out.1.tk))
              rw [errV_ne e0]
              clear TF kh' k5 f5 ft FK ek e0
              go_wp2_with fail
              go_meet
              case rel => exact ⟨s', N + 2, d', cd, en, by have := HN.out; omega, S5⟩
          · have t1 : (kd.toList == [102, 111, 114, 107]) = false := by simpa using t1
            by_cases t2 : (kd.toList == [101, 120, 105, 116]) = true
            · as_aux_lemma =>
              have SF := Hid.intro (kself_any w.heap.size s W3 A S3.out.1.kk S3.out.1.kh.ki.vi.iv.who0)
              have EX := Hid.intro (kexit_any w.heap.size N d s W3 (by have := N9.out; omega) A Q S3.out.1.kk S3.out.1.kh.ki)
              rw [S3.out.1.a0] at SF EX
              go_wp2_with fail
              refine SF.out.mono ?_
              rintro e w5 ⟨rfl, hw⟩
              subst w5
              go_wp2_with fail
              refine EX.out.mono ?_
              rintro e w5 ⟨k', rfl, et, k5, f5⟩
              have TE := S3.out.1.tk.exit S3.out.1.kh et
              have kh' := S3.out.1.kh.exit et
              have xx := ACT.out w5 _ f5
              by_cases e0 : Kn.exiE s.k A Q = 0
              · obtain ⟨a1, p2, p20, tk'⟩ := TE.2 e0
                rw [e0, a1, errV_zero]
                obtain ⟨pp, hpp⟩ : ∃ pp, Kn.selN s.k A = pp := ⟨_, rfl⟩
                rw [hpp] at p2 p20 tk' ⊢
                have p21I : (pp : Int) < 21 := by omega
                have S4 : Hid (KKt w5 w.heap.size { s with k := k' } ∧ Below w.heap.size w w5 ∧ ZAt w5 c5 21 45 cd ∧ BAt w5 c6 21 46 en ∧ ¬ KB { s with k := k' } c5 ∧ ¬ KB { s with k := k' } c6) := Hid.intro ⟨k5, f5.behind S3.out.1.kk S3.out.1.bel (Nat.le_refl _) S3.out.1.bel.size, S3.out.1.cz.same (f5.keep S3.out.1.cz.lt S3.out.1.n5), S3.out.1.bz.same (f5.keep S3.out.1.bz.lt S3.out.1.n6), f5.apart S3.out.1.cz.lt S3.out.1.n5, f5.apart S3.out.1.bz.lt S3.out.1.n6⟩
                have y1 := S4.out.2.2.1.cell pp (by omega)
                have y2 := S4.out.2.2.2.1.cell pp (by omega)
                have yf := S4.out.2.2.1.frozen
                have zf := S4.out.2.2.2.1.frozen
                generalize cd pp = v1 at y1
                generalize en pp = v2 at y2
                have nc : c5 ≠ c6 := S3.out.1.ge.2.2
                have nc2 : c6 ≠ c5 := fun e => nc e.symm
                have S6 : Hid (TKS w kb c5 c6 N d { s with k := k' } (updZ cd pp Q) (updB en pp true) ((w5.setCell ⟨c5, pp, none⟩ (.int .i64 Q)).setCell ⟨c6, pp, none⟩ (.bool true))) := Hid.intro (by
                  have g := S3.out.1.ge
                  have f1 : Frm c5 w5 (w5.setCell ⟨c5, pp, none⟩ (.int .i64 Q)) := (Frm.refl _ _).setCell _ _
                  have f2 : Frm c6 (w5.setCell ⟨c5, pp, none⟩ (.int .i64 Q)) ((w5.setCell ⟨c5, pp, none⟩ (.int .i64 Q)).setCell ⟨c6, pp, none⟩ (.bool true)) := (Frm.refl _ _).setCell _ _
                  have z1 := S4.out.2.2.1.set pp Q (by omega)
                  have b1 : BAt (w5.setCell ⟨c5, pp, none⟩ (.int .i64 Q)) c6 21 46 en := S4.out.2.2.2.1.same (f1.block _ S4.out.2.2.2.1.lt nc2)
                  have l1 := f1.below S4.out.2.1 g.1 S4.out.2.1.size
                  exact ⟨f2.below l1 g.2.1 l1.size, (S4.out.1.fresh f1 S4.out.2.2.2.2.1).fresh f2 S4.out.2.2.2.2.2, kh', tk', z1.same (f2.block _ z1.lt nc), b1.set pp true (by omega), S4.out.2.2.2.2.1, S4.out.2.2.2.2.2, g, S3.out.1.a0⟩)
                obtain ⟨u1, u2⟩ := xx
                clear TE kh' tk' k5 f5 et SF EX e0 a1 hpp p2 p20 S4 x0 x1 x2
                go_wp2_with fail
                go_meet
                case rel => exact ⟨_, N, d, _, _, by have := HN.out; omega, S6⟩
              · have ek := TE.1 e0
                have S5 := Hid.intro (S3.out.1.step (s' := { s with k := k' }) k5 f5 kh' (by rw [ek]; exact S3.out.1.tk))
                rw [errV_ne e0]
                clear TE kh' k5 f5 et SF EX ek e0 xx
                go_wp2_with fail
                go_meet
                case rel => exact ⟨_, N, d, cd, en, by have := HN.out; omega, S5⟩
            · have t2 : (kd.toList == [101, 120, 105, 116]) = false := by simpa using t2
              by_cases t3 : (kd.toList == [119, 97, 105, 116]) = true
              · as_aux_lemma =>
                have WT := Hid.intro (kwait_any w.heap.size N d s W3 (by have := N9.out; omega) A S3.out.1.kk S3.out.1.kh.ki.vi S3.out.1.kh.p0)
                rw [S3.out.1.a0] at WT
                go_wp2_with fail
                refine WT.out.mono ?_
                rintro e w5 ⟨p, c, E, k', rfl, wt, k5, f5⟩
                have TW := S3.out.1.tk.wait S3.out.1.kh wt
                have kh' := S3.out.1.kh.wait wt
                by_cases e0 : E = 0
                · obtain ⟨p2, p20, ep, ec, tk', sx⟩ := TW.2 e0
                  subst e0
                  rw [errV_zero]
                  have S4 : Hid (KKt w5 w.heap.size { s with k := k' } ∧ Below w.heap.size w w5 ∧ ZAt w5 c5 21 45 cd ∧ BAt w5 c6 21 46 en ∧ ¬ KB { s with k := k' } c5 ∧ ¬ KB { s with k := k' } c6 ∧ KH N d k' ∧ TK k' cd (updB en p false)) := Hid.intro ⟨k5, f5.behind S3.out.1.kk S3.out.1.bel (Nat.le_refl _) S3.out.1.bel.size, S3.out.1.cz.same (f5.keep S3.out.1.cz.lt S3.out.1.n5), S3.out.1.bz.same (f5.keep S3.out.1.bz.lt S3.out.1.n6), f5.apart S3.out.1.cz.lt S3.out.1.n5, f5.apart S3.out.1.bz.lt S3.out.1.n6, kh', tk'⟩
                  have SX := Hid.intro sx
                  have EP := Hid.intro (And.intro ep ec.symm)
                  have p2I : ¬ (p : Int) < 2 := by omega
                  have p20I : ¬ (20 : Int) < (p : Int) := by omega
                  have p21I : (p : Int) < 21 := by omega
                  clear TW kh' tk' k5 f5 wt WT ep ec sx x0 x1 x2
                  go_upto_region 26 with fail
                  refine wp_gen (fun W => CB W w5.heap.size p c ∧ KKt W w.heap.size { s with k := k' } ∧ Below w.heap.size w W ∧ ZAt W c5 21 45 cd ∧ BAt W c6 21 46 en ∧ w5.heap.size ≠ c6) (by
                    have b5 : Below w5.heap.size w5 (w5.alloc (.cells #[.int .i64 p, .int .i64 c] 38)) := (Below.refl _ _).alloc (Nat.le_refl _) _
                    exact ⟨heap_alloc_new w5 _, S4.out.1.below b5, S4.out.2.1.trans (b5.mono S4.out.2.1.size), S4.out.2.2.1.same (b5.block _ S4.out.2.2.1.lt), S4.out.2.2.2.1.same (b5.block _ S4.out.2.2.2.1.lt), by have := S4.out.2.2.2.1.lt; omega⟩) ?_
                  intro W6 h6
                  have S6 := Hid.intro h6
                  clear h6
                  generalize w5.heap.size = ca at *
                  have z0 := S6.out.1.c0
                  have z1 := S6.out.1.c1
                  have z2 : W6.cell? ⟨c6, p, none⟩ = some (.bool true) := by rw [S6.out.2.2.2.2.1.cell p (by omega), EP.out.1]
                  have z3 : W6.cell? ⟨c5, p, none⟩ = some (.int .i64 c) := by rw [S6.out.2.2.2.1.cell p (by omega), EP.out.2]
                  have p2D : decide ((p : Int) < 2) = false := by simp; omega
                  have p20D : decide ((20 : Int) < (p : Int)) = false := by simp; omega
                  go_big_quiet (fail)
                  have F7 : Hid (∀ q, TKS w kb c5 c6 N d { s with k := k' } cd (updB en p false) ((W6.drewN q).setCell ⟨c6, p, none⟩ (.bool false)) ∧ ((W6.drewN q).setCell ⟨c6, p, none⟩ (.bool false)).cell? ⟨ca, 0, none⟩ = some (.int .i64 p) ∧ (W6.drewN q).cell? ⟨c6, p, none⟩ = some (.bool true) ∧ (W6.drewN q).cell? ⟨ca, 0, none⟩ = some (.int .i64 p) ∧ ∀ o, (W6.drewN q).frozen? ⟨c6, o, none⟩ = false) := Hid.intro (fun q => by
                    have g := S3.out.1.ge
                    have f2 : Frm c6 (W6.drewN q) ((W6.drewN q).setCell ⟨c6, p, none⟩ (.bool false)) := (Frm.refl _ _).setCell _ _
                    have b6 : BAt (W6.drewN q) c6 21 46 en := S6.out.2.2.2.2.1
                    have z6 : ZAt (W6.drewN q) c5 21 45 cd := S6.out.2.2.2.1
                    have c6' : CB (W6.drewN q) ca p c := S6.out.1
                    have l6 : Below w.heap.size w (W6.drewN q) := below_drewN S6.out.2.2.1 q
                    exact ⟨⟨f2.below l6 g.2.1 l6.size, (S6.out.2.1.drewN q).fresh f2 S4.out.2.2.2.2.2.1, S4.out.2.2.2.2.2.2.1, S4.out.2.2.2.2.2.2.2, z6.same (f2.block _ z6.lt g.2.2), b6.set p false (by omega), S4.out.2.2.2.2.1, S4.out.2.2.2.2.2.1, g, S3.out.1.a0⟩, (c6'.same (f2.block _ c6'.lt S6.out.2.2.2.2.2)).c0, z2, z0, b6.frozen⟩)
                  clear z0 z1 z2 z3 S6
                  have y1 := fun q => (F7.out q).2.2.1
                  have y2 := fun q => (F7.out q).2.1
                  have y3 := fun q => (F7.out q).2.2.2.1
                  have yf := fun q => (F7.out q).2.2.2.2
                  have SE : Hid (∀ q, Calls Tryz.prog 15 #[.pointer (some ⟨kb, 0, none⟩), .int .i64 0, .int .i64 p] ((W6.drewN q).setCell ⟨c6, p, none⟩ (.bool false)) fun e w' => ∃ v, e = .returned (.tuple #[.int .i64 v, errV 2]) ∧ TKS w kb c5 c6 N d { s with k := k' } cd (updB en p false) w') := Hid.intro (fun q => by
                    have qq := ksee_any w.heap.size { s with k := k' } ((W6.drewN q).setCell ⟨c6, p, none⟩ (.bool false)) 0 (p : Int) (F7.out q).1.kk (F7.out q).1.kh.ki.vi.iv.wle
                    rw [(F7.out q).1.a0] at qq
                    refine qq.mono ?_
                    rintro e w' ⟨rfl, bl⟩
                    rw [show Kn.seeE ({ s with k := k' } : St).k 0 (p : Int) = 2 from SX.out]
                    exact ⟨_, rfl, (F7.out q).1.below bl⟩)
                  go_wp2_with fail
                  refine (SE.out _).mono ?_
                  rintro e w7 ⟨v7, rfl, h7⟩
                  have S7 := Hid.intro h7
                  clear h7 F7 SE y1 y2 y3 yf
                  go_wp2_with (go_at_call 16; refine (knumber_any 2 _).mono ?_; rintro e w8 ⟨rfl, hw8⟩; subst w8)
                  go_meet
                  case rel => exact ⟨_, N, d, _, _, by have := HN.out; omega, S7⟩
                · have ek := TW.1 e0
                  have S5 : Hid (∀ o, TKS w kb c5 c6 N d { s with k := k' } cd en (w5.alloc o)) := Hid.intro (fun o => (S3.out.1.step (s' := { s with k := k' }) k5 f5 kh' (by rw [ek]; exact S3.out.1.tk)).below ((Below.refl _ _).alloc (Nat.le_refl _) _))
                  rw [errV_ne e0]
                  clear TW kh' k5 f5 wt WT ek e0
                  go_wp2_with fail
                  go_roundw
                  case rel => exact ⟨k + 1, _, N, d, cd, en, by go_num, by omega, by have := HN.out; omega, Hid.intro (S5.out _)⟩
                  case measure => simp [intOf]; omega
              · as_aux_lemma =>
                have t3 : (kd.toList == [119, 97, 105, 116]) = false := by simpa using t3
                go_wp2_with fail
                go_meet
                case rel => exact ⟨s, N, d, cd, en, by have := HN.out; omega, Hid.intro S3.out.1⟩
        obtain ⟨s', N', d', cd', en', hN', S5⟩ := hcut
        clear S3 ACT x0 x1 x2 LB N9 HN
        have HN' := Hid.intro hN'
        clear hN'
        as_aux_lemma =>
        go_wp2_with fail
        go_loopw [17] (fun i wr => ∃ (j : Nat), i = .int .i64 j ∧ 2 ≤ j ∧ j ≤ 21 ∧ Hid (TKS w kb c5 c6 N' d' s' cd' en' wr)) (fun i _ => 21 - (intOf i).toNat)
        case atStart => exact ⟨2, rfl, by omega, by omega, S5⟩
        case round =>
          clear S5
          obtain ⟨j, rfl, j2, j21, S⟩ := hrel
          by_cases jlt : j < 21
          · have jltI : (j : Int) < 21 := by omega
            have SE := Hid.intro (ksee_any w.heap.size s' wr 0 (j : Int) S.out.kk S.out.kh.ki.vi.iv.wle)
            rw [S.out.a0] at SE
            have TS := S.out.tk.see S.out.kh (p := j) (by omega) (by omega)
            obtain ⟨E, hE⟩ : ∃ E, Kn.seeE s'.k 0 (j : Int) = E := ⟨_, rfl⟩
            rw [hE] at TS SE
            generalize Kn.seeN s'.k 0 (j : Int) = sn at SE
            clear hE
            go_wp2_with fail
            refine SE.out.mono ?_
            rintro e w7 ⟨rfl, bl⟩
            have S7 := Hid.intro (S.out.below bl)
            have y1 := S7.out.bz.cell j (by omega)
            rw [← TS] at y1
            have NB := Hid.intro (fun q => knumber_any E (w7.drewN q))
            have F7 : Hid (∀ q, TKS w kb c5 c6 N' d' s' cd' en' (w7.drewN q)) := Hid.intro (fun q => S7.out.below (below_drewN (Below.refl _ _) q))
            clear bl SE S TS S7
            obtain ⟨ev, hev⟩ : ∃ ev, errV E = ev := ⟨_, rfl⟩
            rw [hev] at NB ⊢
            clear hev
            by_cases e8 : E = 8
            · subst e8
              have y1' : w7.cell? ⟨c6, j, none⟩ = some (.bool true) := y1
              clear y1
              go_upto_region 36 with fail
              go_quiet ((go_at_call 16; exact Calls.quiet_of_same (NB.out _)))
              go_wp2_with fail
              go_roundw
              case rel => exact ⟨j + 1, by go_num, by omega, by omega, Hid.intro (F7.out _)⟩
              case measure => simp [intOf]; omega
            · have y1' : w7.cell? ⟨c6, j, none⟩ = some (.bool false) := by rw [y1, decide_eq_false e8]
              have e8b : (E == 8) = false := by simpa using e8
              clear y1
              go_upto_region 36 with fail
              go_quiet ((go_at_call 16; exact Calls.quiet_of_same (NB.out _)))
              go_wp2_with fail
              go_roundw
              case rel => exact ⟨j + 1, by go_num, by omega, by omega, Hid.intro (F7.out _)⟩
              case measure => simp [intOf]; omega
          · obtain rfl : j = 21 := by omega
            go_wp2_with fail
            go_roundw
            case rel => exact ⟨k + 1, s', N', d', cd', en', by go_num, by omega, by have := HN'.out; omega, S⟩
            case measure => simp [intOf]; omega
      · obtain rfl : k = n0 := by omega
        go_wp2_with fail
        go_ret
        exact ⟨rfl, S.out.bel⟩
theorem tkd_any (a : Option Addr) (len cap : Nat) (w : World) (h : IsActs0 w a len) :
    Calls Tryz.prog 4 #[.slice a len cap] w fun e w' => e = .returned (.bool true) ∧ Below w.heap.size w w' := by
  by_cases hf : 150 < len
  · exact tkd_far a len cap w hf
  · by_cases h0 : len = 0
    · subst h0
      exact tkd_near a 0 0 0 cap (fun _ => ⟨⟨#[]⟩, 0, 0, 0, 0, false, ⟨#[]⟩, ⟨#[]⟩⟩) w (by omega) (fun c => absurd c (by omega)) (fun i hi => absurd hi (by omega))
    · obtain ⟨b, o, ax, ha, hc⟩ := h.2 (by omega)
      exact tkd_near a b o len cap ax w (by omega) (fun _ => ha) hc
end Go.Proofs.YtghogbngmcolmaaGreat

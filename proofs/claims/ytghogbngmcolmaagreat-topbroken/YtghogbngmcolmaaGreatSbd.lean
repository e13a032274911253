import Derived.BigQuiet
import Derived.Test.YtghogbngmcolmaaGreatSbc
namespace Go.Proofs.YtghogbngmcolmaaGreat
open Go.RowKit
open Tr (Fo Nd)
open Mo (Wh Mt)
open Mv (Me Bk)
open Kn (Pr Kp St us KB KJ VI EI)
namespace Kn
theorem VI.mid {X : Nat → Prop} {N : Nat} {d : Nat → Nat} {k k1 k2 : Kp} {n z r : Nat} (h : VI X N d k) (hn : n < 20) (n0 : n ≠ 0) (hX : ¬ X n) (ho : k.sp.of n = z + 1) (hx : hd k n = n → ∀ m, m < 20 → X m → ¬ Sp.mem k.sp z m) (h1 : lv k n = true → StrTo k n k1) (h2 : lv k n = false → k1 = k)
    (h3 : hd k n ≠ n → k2 = k1) (h4 : hd k n = n → ∃ j, IterN (VanN r) (z : Int) j k1 k2) : VI (fun m => X m ∨ m = n) N d k2 ∧ (k2.p n).has = false ∧ k2.sp.of n = z + 1 := by
  obtain ⟨a, sp, tb, hh, s0, oth⟩ := h.first hn hX ho h1 h2
  by_cases c : hd k n = n
  · obtain ⟨j, ri⟩ := h4 c
    have ei : EI (fun m => X m ∨ m = n) N d n z k1 := ⟨a, hn, n0, .inr rfl, by rw [sp]; exact ho, by rw [sp]; exact (hd_eq h.iv h.hs hn ho).1 c, fun m m20 xm mn mz => by
      rw [sp] at mz
      exact hx c m m20 (xm.elim id (fun q => absurd q mn)) mz⟩
    obtain ⟨b, g, e, l⟩ := EI.iter (van_ok r) j k1 ei ri
    exact ⟨b.vi, by rw [e]; exact hh, b.ho⟩
  · have := h3 c
    subst this
    exact ⟨a, hh, by rw [sp]; exact ho⟩
theorem VI.ei {X : Nat → Prop} {N : Nat} {d : Nat → Nat} {k k1 : Kp} {n z : Nat} (h : VI X N d k) (hn : n < 20) (n0 : n ≠ 0) (hX : ¬ X n) (ho : k.sp.of n = z + 1) (c : hd k n = n) (hx : ∀ m, m < 20 → X m → ¬ Sp.mem k.sp z m) (h1 : lv k n = true → StrTo k n k1) (h2 : lv k n = false → k1 = k) : EI (fun m => X m ∨ m = n) N d n z k1 := by
  obtain ⟨a, sp, tb, hh, s0, oth⟩ := h.first hn hX ho h1 h2
  exact ⟨a, hn, n0, .inr rfl, by rw [sp]; exact ho, by rw [sp]; exact (hd_eq h.iv h.hs hn ho).1 c, fun m m20 xm mn mz => by
    rw [sp] at mz
    exact hx m m20 (xm.elim id (fun q => absurd q mn)) mz⟩
end Kn
section
variable {ops : Array Oper} {rest : List Oper} {x : Oper} {a : Act} {w : World} {Q : Exit → Act → World → Prop}
set_option maxRecDepth 100000 in
theorem proc_zero (a b : Nat) : Tryz.prog.built 65 [] = some (prA a b Pr.no) := by rw [prA_no]; kernel_rfl
theorem wp_buildP0 (hgd : x.guard = none) (ho : x.op = .build 65 #[]) (h : wpList Tryz.prog ops Q rest (a.put x.dst (.agg (prA 0 0 Pr.no))) w) : wpList Tryz.prog ops Q (x :: rest) a w :=
  wpList_build hgd 65 #[] ho (by simp [proc_zero 0 0]) (by simpa [proc_zero 0 0] using h)
end
set_option maxRecDepth 100000 in
set_option maxHeartbeats 4000000 in
theorem kvanish_step (base N : Nat) (d : Nat → Nat) (r : Nat) (hN : N ≤ 900) (hV : 1 ≤ r → VanC base N d r) : VanC base N d (r + 1) := by
  intro X s w n z h hv hn n0 hX ho hx hr
  have hnI : (n : Int) < 20 := by omega
  obtain ⟨_, z6, zh⟩ := hv.iv.mem_self hn ho
  have z6I : (z : Int) < 6 := by omega
  obtain ⟨tl, htl⟩ : ∃ tl, Kn.lv s.k n = tl := ⟨_, rfl⟩
  obtain ⟨th, hth⟩ : ∃ th, decide (Kn.hd s.k n = n) = th := ⟨_, rfl⟩
  have SP := Hid.intro (kspace_any base s w (n : Int) h)
  rw [Sp.inN_of hn ho] at SP
  have IH := Hid.intro (kisHead_any base s w n h th hth)
  have LV := Hid.intro (klive_any base s w n h hn tl htl)
  have KS := Hid.intro (fun (c : Kn.lv s.k n = true) => kstrip_any base s w X N n h hv.kj hN hn (hv.kj.lv n hn hX (by unfold Kn.lv at c; simpa using c)))
  have HT : Hid ((Kn.lv s.k n = true → tl = true) ∧ (Kn.lv s.k n = false → tl = false) ∧ (tl = true → Kn.lv s.k n = true) ∧ (th = true → Kn.hd s.k n = n) ∧ (th = false → Kn.hd s.k n ≠ n)) := Hid.intro ⟨fun c => by rw [← htl]; exact c, fun c => by rw [← htl]; exact c, fun c => by rw [htl]; exact c, fun c => by rw [← hth] at c; exact of_decide_eq_true c, fun c => by rw [← hth] at c; exact of_decide_eq_false c⟩
  obtain ⟨kb, hkb⟩ : ∃ kb, s.A 0 = kb := ⟨_, rfl⟩
  have HK := Hid.intro hkb
  have H := Hid.intro (And.intro h (And.intro hv (And.intro hX (And.intro ho hx))))
  have HV := Hid.intro (And.intro hV (And.intro hN zh))
  rw [hkb] at SP IH LV KS ⊢
  clear h hv hX ho hx hr hV hN zh htl hth
  go_enter Tryz.func41, Tryz.ntmps41
  go_wp2_with fail
  refine SP.out.mono ?_
  rintro e w1 ⟨rfl, hw⟩
  subst w1
  go_wp2_with fail
  refine IH.out.mono ?_
  rintro e w1 ⟨rfl, hw⟩
  subst w1
  go_wp2_with fail
  refine LV.out.mono ?_
  rintro e w1 ⟨rfl, hw⟩
  subst w1
  go_upto_if 14 with fail
  go_cut [15] from 16 to 17 (fun _ wx => ∃ k1, Hid (KKt wx base { s with k := k1 } ∧ KF s w { s with k := k1 } wx ∧ (Kn.lv s.k n = true → Kn.StrTo s.k n k1) ∧ (Kn.lv s.k n = false → k1 = s.k)))
  case first =>
    cases tl
    · go_wp2_with fail
      go_meet
      case rel => exact ⟨s.k, Hid.intro ⟨H.out.1, KF.refl _ _, fun c => absurd (HT.out.1 c) (by decide), fun _ => rfl⟩⟩
    · go_wp2_with fail
      refine (KS.out (HT.out.2.2.1 (by first | rfl | trivial))).mono ?_
      rintro e w2 ⟨k1, rfl, st, ka, kf⟩
      have S2 : Hid (KKt w2 base { s with k := k1 } ∧ KF s w { s with k := k1 } w2 ∧ (Kn.lv s.k n = true → Kn.StrTo s.k n k1) ∧ (Kn.lv s.k n = false → k1 = s.k)) := Hid.intro ⟨ka, kf, fun _ => st, fun c => absurd (HT.out.2.1 c) (by decide)⟩
      clear st ka kf
      go_wp2_with fail
      go_meet
      case rel => exact ⟨k1, S2⟩
  obtain ⟨k1, S1⟩ := hcut
  clear SP IH LV KS
  go_upto_if 18 with fail
  go_cut [19] from 20 to 21 (fun _ wx => ∃ k2, Hid (KKt wx base { s with k := k2 } ∧ KF s w { s with k := k2 } wx ∧ (Kn.hd s.k n ≠ n → k2 = k1) ∧ (Kn.hd s.k n = n → ∃ j, Kn.IterN (Kn.VanN r) (z : Int) j k1 k2)))
  case first =>
    cases th
    · go_wp2_with fail
      go_meet
      case rel => exact ⟨k1, Hid.intro ⟨S1.out.1, S1.out.2.1, fun _ => rfl, fun c => absurd c (HT.out.2.2.2.2 (by first | rfl | trivial))⟩⟩
    · have hd1 := HT.out.2.2.2.1 (by first | rfl | trivial)
      have HD := Hid.intro hd1
      have DZ : Hid (1 ≤ r ∧ 5 ≤ d z + r) := Hid.intro (by
        have a := (H.out.2.2.2.2 hd1).1
        have b := (H.out.2.1.iv.tree.le z z6 HV.out.2.2).2
        omega)
      have EE := Hid.intro (H.out.2.1.ei hn n0 H.out.2.2.1 H.out.2.2.2.1 hd1 (H.out.2.2.2.2 hd1).2 S1.out.2.2.1 S1.out.2.2.2)
      have EM := Hid.intro (kempty_any base N d r _ { s with k := k1 } wc n z (HV.out.1 DZ.out.1) DZ.out.1 DZ.out.2 S1.out.1 EE.out)
      rw [show ({ s with k := k1 } : St).A 0 = kb from HK.out] at EM
      clear hd1
      go_wp2_with fail
      refine EM.out.mono ?_
      rintro e w2 ⟨k2, j, rfl, it, ka, kf⟩
      have S2 : Hid (KKt w2 base { s with k := k2 } ∧ KF s w { s with k := k2 } w2 ∧ (Kn.hd s.k n ≠ n → k2 = k1) ∧ (Kn.hd s.k n = n → ∃ j, Kn.IterN (Kn.VanN r) (z : Int) j k1 k2)) := Hid.intro ⟨ka, S1.out.2.1.trans kf, fun c => absurd HD.out c, fun _ => ⟨j, it⟩⟩
      clear it ka kf
      go_wp2_with fail
      go_meet
      case rel => exact ⟨k2, S2⟩
  obtain ⟨k2, S2⟩ := hcut
  have MD := Hid.intro (H.out.2.1.mid hn n0 H.out.2.2.1 H.out.2.2.2.1 (fun c => (H.out.2.2.2.2 c).2) S1.out.2.2.1 S1.out.2.2.2 S2.out.2.2.1 S2.out.2.2.2)
  have RES : Hid ((Kn.hd s.k n ≠ n → Kn.VanN (r + 1) s.k n (Kn.finK k2 n)) ∧ (Kn.hd s.k n = n → Kn.VanN (r + 1) s.k n (Kn.shuK (Kn.finK k2 n) z))) := Hid.intro ⟨fun c => ⟨k1, S1.out.2.2.1, S1.out.2.2.2, .inl ⟨c, by rw [S2.out.2.2.1 c]⟩⟩, fun c => ⟨k1, S1.out.2.2.1, S1.out.2.2.2, .inr ⟨c, k2, by
    rw [Sp.inN_of hn H.out.2.2.2.1]
    obtain ⟨j, it⟩ := S2.out.2.2.2 c
    exact ⟨j, it, rfl⟩⟩⟩⟩
  have S3 : Hid (KKt wc base { s with k := k2 } ∧ KF s w { s with k := k2 } wc) := Hid.intro ⟨S2.out.1, S2.out.2.1⟩
  clear S1 S2
  go_upto_region 5 with fail
  obtain ⟨g2, hg2⟩ : ∃ g2, s.A 2 = g2 := ⟨_, rfl⟩
  have HG := Hid.intro hg2
  obtain ⟨gz, hgz⟩ : ∃ gz, (k2.p n).grp = gz := ⟨_, rfl⟩
  have HGZ := Hid.intro hgz
  have KC : Hid (∀ W k, KKt W base { s with k := k } → (k.p n).grp = gz → W.cell? ⟨kb, 247, none⟩ = some (.pointer (some ⟨g2, 0, none⟩)) ∧ W.cell? ⟨kb, n * 12 + 2, none⟩ = some (.int .i64 gz)) := Hid.intro (fun W k hW e => by
    have a := hW.cGr
    have b := hW.cGrp n hn
    rw [show ({ s with k := k } : St).A 0 = kb from HK.out] at a b
    rw [show ({ s with k := k } : St).A 2 = g2 from HG.out] at a
    have b2 : W.cell? ⟨kb, n * 12 + 2, none⟩ = some (.int .i64 (k.p n).grp) := b
    rw [e] at b2
    exact ⟨a, b2⟩)
  have K0 := Hid.intro (KC.out wc k2 S3.out.1 hgz)
  have UC := Hid.intro (Gr.uncharge_any (s.A 2) (k2.p n).grp 1 0 k2.gr wc.drew S3.out.1.drew.gr (by obtain ⟨Wy, g⟩ := MD.out.1.kj.gr; exact g.small (by have := HV.out.2.1; omega)))
  rw [hg2, hgz] at UC
  clear hg2 hgz
  obtain ⟨y1, y2⟩ := K0.out
  go_region_held3 (fun w' => w'.cell? ⟨kb, 247, none⟩ = some (.pointer (some ⟨g2, 0, none⟩)) ∧ w'.cell? ⟨kb, n * 12 + 2, none⟩ = some (.int .i64 gz)) (first | exact K0.out | exact K4.out) (
    (go_at_call 33; refine UC.out.mono ?_; rintro e w4 ⟨rfl, t4, f4⟩; have S4 : Hid (KKt w4 base { s with k := { k2 with gr := Gr.uncT k2.gr (k2.p n).grp 1 0 } } ∧ KF s w { s with k := { k2 with gr := Gr.uncT k2.gr (k2.p n).grp 1 0 } } w4) := Hid.intro (by
        rw [← HG.out] at t4 f4
        rw [← HGZ.out] at t4
        have q := S3.out.1.drew.setGr t4 f4.std
        exact ⟨q.1, S3.out.2.trans ((KF.drew _ _).trans q.2)⟩); have K4 := Hid.intro (KC.out w4 _ S4.out.1 HGZ.out); clear t4 f4))
  clear y1 y2 K0 KC UC S3
  generalize Gr.errV (Gr.uncE k2.gr gz 1 0) = ev
  have c6 := S4.out.1.cSp
  rw [show ({ s with k := { k2 with gr := Gr.uncT k2.gr (k2.p n).grp 1 0 } } : St).A 0 = kb from HK.out] at c6
  obtain ⟨p1, hp1⟩ : ∃ p1, s.A 1 = p1 := ⟨_, rfl⟩
  have HP := Hid.intro hp1
  have LE := Hid.intro (leave_any (s.A 1) (n : Int) k2.sp d w4 S4.out.1.sp MD.out.1.iv)
  rw [show ({ s with k := { k2 with gr := Gr.uncT k2.gr (k2.p n).grp 1 0 } } : St).A 1 = p1 from hp1] at c6
  rw [hp1] at LE
  clear hp1
  go_wp2_with fail
  refine LE.out.mono ?_
  rintro e w5 ⟨rfl, t5, f5⟩
  generalize errV (Sp.inE k2.sp (n : Int)) = ev2
  have S5 : Hid (KKt w5 base { s with k := { k2 with gr := Gr.uncT k2.gr (k2.p n).grp 1 0, sp := Sp.leaT k2.sp (n : Int) } } ∧ KF s w { s with k := { k2 with gr := Gr.uncT k2.gr (k2.p n).grp 1 0, sp := Sp.leaT k2.sp (n : Int) } } w5) := Hid.intro (by
    rw [← HP.out] at t5 f5
    have q := S4.out.1.setSp t5 f5
    exact ⟨q.1, S4.out.2.trans q.2⟩)
  clear t5 f5 c6 S4 K4
  have TH : Hid (w5.there kb (n * 12) (prA 0 0 Pr.no).size) := Hid.intro (by rw [prA_size, ← HK.out]; exact S5.out.1.there hn)
  have SZ : Hid ((Tryz.prog.info? 65).map (·.size) = some (prA 0 0 Pr.no).size) := Hid.intro (by rw [prA_size]; kernel_rfl)
  have S6 : Hid (KKt (w5.setCells kb (n * 12) (prA 0 0 Pr.no).toList) base { s with k := Kn.finK k2 n } ∧ KF s w { s with k := Kn.finK k2 n } (w5.setCells kb (n * 12) (prA 0 0 Pr.no).toList)) := Hid.intro (by
    have q := S5.out.1.whole hn (x := Pr.no) MD.out.2.1 rfl 0 0
    rw [show ({ s with k := { k2 with gr := Gr.uncT k2.gr (k2.p n).grp 1 0, sp := Sp.leaT k2.sp (n : Int) } } : St).A 0 = kb from HK.out] at q
    exact ⟨q.1, S5.out.2.trans q.2⟩)
  obtain ⟨PA, hPA⟩ : ∃ PA, prA 0 0 Pr.no = PA := ⟨_, rfl⟩
  have H1 : Hid (PA.all (·.oneCell') = true) := Hid.intro (by rw [← hPA]; exact prA_one 0 0 Pr.no)
  rw [hPA] at TH SZ S6
  clear S5
  cases th
  · have FIN := Hid.intro (RES.out.1 (HT.out.2.2.2.2 (by first | rfl | trivial)))
    go_wp2_with (first | (refine wp_buildP0 rfl rfl ?_; rw [hPA]) | (refine wpList_store_mid rfl 65 _ _ rfl kb (n * 12) PA rfl rfl TH.out SZ.out H1.out ?_))
    go_end0
    exact ⟨_, rfl, FIN.out, S6.out⟩
  · have FIN := Hid.intro (RES.out.2 (HT.out.2.2.2.1 (by first | rfl | trivial)))
    go_upto_region 9 with (first | (refine wp_buildP0 rfl rfl ?_; rw [hPA]) | (refine wpList_store_mid rfl 65 _ _ rfl kb (n * 12) PA rfl rfl TH.out SZ.out H1.out ?_))
    generalize w5.setCells kb (n * 12) PA.toList = w6 at *
    have HH : Hid (k2.ht z = true) := Hid.intro (by
      obtain ⟨_, _, b⟩ := MD.out.1.iv.mem_self hn MD.out.2.2
      rw [MD.out.1.kj.ht z z6]; exact b)
    have c6 := S6.out.1.cSp
    rw [show ({ s with k := Kn.finK k2 n } : St).A 0 = kb from HK.out, show ({ s with k := Kn.finK k2 n } : St).A 1 = p1 from HP.out] at c6
    have DR := Hid.intro (drop_any (s.A 1) (z : Int) (Kn.finK k2 n).sp w6 S6.out.1.sp)
    rw [HP.out] at DR
    go_wp2_with fail
    refine DR.out.mono ?_
    rintro e w7 ⟨rfl, t7, f7⟩
    generalize errV (Sp.dropE (Kn.finK k2 n).sp (z : Int)) = ev3
    have S7 : Hid (KKt w7 base { s with k := { Kn.finK k2 n with sp := Sp.dropT (Kn.finK k2 n).sp (z : Int) } } ∧ KF s w { s with k := { Kn.finK k2 n with sp := Sp.dropT (Kn.finK k2 n).sp (z : Int) } } w7) := Hid.intro (by
      rw [← HP.out] at t7 f7
      have q := S6.out.1.setSp t7 f7
      exact ⟨q.1, S6.out.2.trans q.2⟩)
    clear t7 f7 c6
    have ct := S7.out.1.cTab z z6 HH.out
    rw [show ({ s with k := { Kn.finK k2 n with sp := Sp.dropT (Kn.finK k2 n).sp (z : Int) } } : St).A 0 = kb from HK.out] at ct
    obtain ⟨tbk, htbk⟩ : ∃ tbk, s.A (49 + z) = tbk := ⟨_, rfl⟩
    have HTB := Hid.intro htbk
    rw [show ({ s with k := { Kn.finK k2 n with sp := Sp.dropT (Kn.finK k2 n).sp (z : Int) } } : St).A (49 + z) = tbk from htbk] at ct
    have CL := Hid.intro (close_any base (s.A (49 + z)) (s.A 6) 102 (k2.tb z) (s.V z) k2.fo w7 (S7.out.1.tb z z6 HH.out) S7.out.1.fo MD.out.1.kj.hb (by decide))
    rw [htbk] at CL
    clear htbk
    go_wp2_with fail
    refine CL.out.mono ?_
    rintro e w8 ⟨rfl, u8, f8⟩
    have S8 : Hid (KKt (w8.setCell ⟨kb, 240 + z, none⟩ (.pointer none)) base { s with k := Kn.shuK (Kn.finK k2 n) z } ∧ KF s w { s with k := Kn.shuK (Kn.finK k2 n) z } (w8.setCell ⟨kb, 240 + z, none⟩ (.pointer none))) := Hid.intro (by
      rw [← HTB.out] at f8
      have q := S7.out.1.shutT z6 HH.out u8 f8
      rw [show ({ s with k := { Kn.finK k2 n with sp := Sp.dropT (Kn.finK k2 n).sp (z : Int) } } : St).A 0 = kb from HK.out] at q
      exact ⟨q.1, S7.out.2.trans q.2⟩)
    have hb8 : w8.heap[kb]? = w7.heap[kb]? := by
      refine f8.block kb ?_ ?_
      · rw [← HK.out]; exact S7.out.1.lt (us9 (by omega))
      · rintro (c | c)
        · rw [← HK.out, ← HTB.out] at c
          exact S7.out.1.ne (us9 (by omega)) (Kn.us_t z6 HH.out) (by omega) c
        · rw [← HK.out] at c
          exact S7.out.1.ne (us9 (by omega)) (us9 (by omega)) (by omega) c
    have ct8 : w8.cell? ⟨kb, 240 + z, none⟩ = some (.pointer (some ⟨tbk, 0, none⟩)) := by
      rw [← ct]
      exact World.cell?_of_block hb8
    have fz : ∀ o, (w8).frozen? ⟨kb, o, none⟩ = false := fun o => by
      have q := S7.out.1.frozen o
      rw [show ({ s with k := { Kn.finK k2 n with sp := Sp.dropT (Kn.finK k2 n).sp (z : Int) } } : St).A 0 = kb from HK.out] at q
      rw [← q]
      exact World.frozen?_of_block hb8
    clear hb8
    clear u8 f8 ct
    go_wp2_with fail
    go_end0
    exact ⟨_, rfl, FIN.out, S8.out⟩
end Go.Proofs.YtghogbngmcolmaaGreat
namespace Go.Proofs.YtghogbngmcolmaaGreat
open Go.RowKit
open Tr (Fo Nd)
open Mo (Wh Mt)
open Mv (Me Bk)
open Kn (Pr Kp St us KB KJ VI EI)
theorem kvanish_deep (base N : Nat) (d : Nat → Nat) (hN : N ≤ 900) : ∀ r, VanC base N d r
  | 0 => fun _ _ _ _ _ _ _ _ _ _ _ _ h => absurd h (by omega)
  | r + 1 => kvanish_step base N d r hN (fun _ => kvanish_deep base N d hN r)
theorem kvanish_any (base N : Nat) (d : Nat → Nat) (hN : N ≤ 900) (X : Nat → Prop) (s : St) (w : World) (n z : Nat) (h : KKt w base s) (hv : VI X N d s.k) (hn : n < 20) (n0 : n ≠ 0) (hX : ¬ X n) (ho : s.k.sp.of n = z + 1) (hx : Kn.hd s.k n = n → ∀ m, m < 20 → X m → ¬ Sp.mem s.k.sp z m) :
    Calls Tryz.prog 41 #[.pointer (some ⟨s.A 0, 0, none⟩), .int .i64 n] w fun e w' => ∃ k', e = .returned (.tuple #[]) ∧ Kn.VanN 6 s.k n k' ∧ KKt w' base { s with k := k' } ∧ KF s w { s with k := k' } w' :=
  kvanish_deep base N d hN 6 X s w n z h hv hn n0 hX ho (fun c => ⟨by omega, hx c⟩) (by omega)
theorem Kn.memL_len (t : Sp.T) (z : Int) : (membL t z).length ≤ 21 := by
  unfold membL
  split
  · unfold Sp.memb
    rw [List.length_map]
    exact Nat.le_trans (List.length_filter_le _ _) (by simp)
  · simp
def Kn.chK (k : Kp) (n : Int) (L : List Nat) : List Nat := L.filter (fun m => decide ((k.p m).par = n))
theorem Kn.chK_yes {k : Kp} {n : Int} {L : List Nat} {i m : Nat} (h : L[i]? = some m) (e : (k.p m).par = n) : Kn.chK k n (L.take (i + 1)) = Kn.chK k n (L.take i) ++ [m] := by
  unfold Kn.chK
  rw [List.take_add_one, List.filter_append, h]
  simp [e]
theorem Kn.chK_no {k : Kp} {n : Int} {L : List Nat} {i m : Nat} (h : L[i]? = some m) (e : (k.p m).par ≠ n) : Kn.chK k n (L.take (i + 1)) = Kn.chK k n (L.take i) := by
  unfold Kn.chK
  rw [List.take_add_one, List.filter_append, h]
  simp [e]
theorem Kn.chK_len (k : Kp) (n : Int) (L : List Nat) : (Kn.chK k n L).length ≤ L.length := List.length_filter_le _ _
def Kn.chL (k : Kp) (n : Nat) : List Nat := Kn.chK k (n : Int) (membL k.sp ((Sp.inN k.sp (n : Int) : Nat) : Int))
section
variable (base : Nat) (s : St) (w : World)
set_option maxRecDepth 100000 in
set_option maxHeartbeats 1000000 in
theorem kchildren_any (n : Nat) (h : KKt w base s) (hM : ∀ x ∈ membL s.k.sp ((Sp.inN s.k.sp (n : Int) : Nat) : Int), x < 20) :
    Calls Tryz.prog 39 #[.pointer (some ⟨s.A 0, 0, none⟩), .int .i64 n] w fun e w' => ∃ v w0, e = .returned v ∧ Below w.heap.size w w0 ∧ LO w0 (Kn.chL s.k n) v w' := by
  obtain ⟨i0, hi, hz0, hz1, hz2⟩ := info_parts info3
  have SP := Hid.intro (kspace_any base s w (n : Int) h)
  have MM := Hid.intro (kmembers_any base s w ((Sp.inN s.k.sp (n : Int) : Nat) : Int) h)
  have HL : Hid ((membL s.k.sp ((Sp.inN s.k.sp (n : Int) : Nat) : Int)).length ≤ 21) := Hid.intro (Kn.memL_len _ _)
  unfold Kn.chL
  generalize Sp.inN s.k.sp (n : Int) = z at *
  generalize membL s.k.sp (z : Int) = L at *
  have H := Hid.intro (And.intro h hM)
  obtain ⟨kb, hkb⟩ : ∃ kb, s.A 0 = kb := ⟨_, rfl⟩
  have HK := Hid.intro hkb
  rw [hkb] at SP MM ⊢
  clear h hM hkb
  go_enter Tryz.func39, Tryz.ntmps39
  go_wp2_with fail
  refine SP.out.mono ?_
  rintro e w1 ⟨rfl, hw⟩
  subst w1
  go_wp2_with fail
  refine MM.out.mono ?_
  rintro e w1 ⟨v1, rfl, hL⟩
  obtain ⟨a1, c1, hv1⟩ := own_form hL.own
  obtain ⟨NN, hNN⟩ : ∃ NN, L.length = NN := ⟨_, rfl⟩
  have HN := Hid.intro hNN
  have hN21 : NN ≤ 21 := by rw [← hNN]; exact HL.out
  have LL := Hid.intro hL
  have KW := Hid.intro (H.out.1.below hL.bel)
  rw [hNN] at hv1
  have HV1 := Hid.intro hv1
  rw [hv1]
  clear hL hv1 hNN SP MM
  go_wp2_with fail
  go_loopw [5, 7, 14] (fun l _ i wr => ∃ (k : Nat), i = .int .i64 k ∧ k ≤ NN ∧ Hid (LO w1 (Kn.chK s.k (n : Int) (L.take k)) l wr)) (fun _ _ i _ => NN - (intOf i).toNat)
  case atStart => exact ⟨0, rfl, by omega, LO.nil w1⟩
  case round =>
    obtain ⟨k, rfl, hk, R⟩ := hrel
    by_cases hlt : k < NN
    · have hltI : (k : Int) < NN := by omega
      have hkL : k < L.length := by rw [HN.out]; exact hlt
      obtain ⟨m, hm⟩ : ∃ m, L[k]? = some m := ⟨_, List.getElem?_eq_getElem hkL⟩
      have m20 : m < 20 := H.out.2 m (List.mem_of_getElem? hm)
      have m20I : (m : Int) < 20 := by omega
      obtain ⟨gg, cap, hv, hg, hc⟩ := LL.out.cells (by omega)
      rw [HV1.out] at hv
      cases hv
      have cm : wr.cell? ⟨gg, k, none⟩ = some (.int .i64 (m : Int)) := by
        have q := hc k hkL
        rw [show 0 + k = k by omega] at q
        rw [R.out.bel.cell (p := ⟨gg, k, none⟩) hg, q]
        simp [List.getD_eq_getElem?_getD, hm]
      have cp := (KW.out.below R.out.bel).cPar m m20
      rw [HK.out] at cp
      clear hc hg
      by_cases d : (s.k.p m).par = (n : Int)
      · have HM := Hid.intro (Kn.chK_yes hm d)
        rw [d] at cp
        obtain ⟨a, cap, hv⟩ := own_form R.out.own
        rw [hv]
        have HV := Hid.intro hv
        have hlm := Kn.chK_len s.k (n : Int) (L.take k)
        rw [List.length_take, Nat.min_eq_left (by omega)] at hlm
        generalize hN : (Kn.chK s.k (n : Int) (L.take k)).length = N at *
        have HNN := Hid.intro hN
        clear hv hN d hm hkL
        go_wp2_with (at_builtin; refine wpList_append_lies _ rfl _ _ 55 (by rfl) w1.heap.size 3 i0 (.int .i64 0) 1 8 Tryz.underlying55 hi hz0 hz1 hz2 rfl (by decide) (.slice a N cap) N (rowOf (Kn.chK s.k (n : Int) (L.take k))) (by rfl) (by rw [← HV.out, ← HNN.out]; exact R.out.own.alloc _) ⟨wr.heap.size, 0, none⟩ 1 1 [.int .i64 m] (by rfl) rfl (cell_one_new _ _ _) (by simp [Value.oneCell']) (by decide) (by unfold maxLen; omega) (by omega) (by have := R.out.bel.size; simp; omega) (wr.heap.size + 1) (by simp) ?_; intro gg2 cap2 w2 hown hgrow hat hlt2; have Q1 : Hid (LO w1 (Kn.chK s.k (n : Int) (L.take k) ++ [m]) (.slice (some ⟨gg2, 0, none⟩) (N + 1) cap2) w2) := R.out.more HNN.out hown _ (by rw [HV.out]; exact hgrow); clear hown hgrow hat hlt2)
        go_roundw
        case rel => exact ⟨k + 1, by go_num, by omega, by rw [HM.out]; exact Q1⟩
        case measure => simp [intOf]; omega
      · have HM := Hid.intro (Kn.chK_no hm d)
        generalize (s.k.p m).par = pp at *
        have d1 : ((pp : Int) == (n : Int)) = false := by simpa using d
        clear d hm hkL
        go_wp2_with fail
        go_roundw
        case rel => exact ⟨k + 1, by go_num, by omega, by rw [HM.out]; exact R⟩
        case measure => simp [intOf]; omega
    · obtain rfl : k = NN := by omega
      go_wp2_with fail
      go_ret
      exact ⟨_, _, rfl, LL.out.bel, by have q := R.out; rw [← HN.out, List.take_length] at q; exact q⟩
end
end Go.Proofs.YtghogbngmcolmaaGreat
namespace Go.Proofs.YtghogbngmcolmaaGreat
open Go.RowKit
open Tr (Fo Nd)
open Mo (Wh Mt)
open Mv (Me Bk)
open Kn (Pr Kp St us KB KJ VI EI)
theorem Sg.kid_none {X : Nat → S1} (h : Sg.FirTo X 0 0) : Sg.FirTo (Sg.senF X 3) 0 0 := by
  rcases h with ⟨_, h⟩ | ⟨h, _⟩
  · refine .inl ⟨rfl, fun j h1 h2 => ?_⟩
    unfold Sg.senF
    rw [if_pos (by rfl)]
    by_cases c : j = 3
    · subst c
      unfold Sg.ok Sg.put
      simp [Sg.ign]
      intro _ c _
      exact c
    · have := h j h1 h2
      unfold Sg.ok Sg.put at *
      simpa [c] using this
  · omega
section
variable (base : Nat) (s : St) (w : World)
set_option maxRecDepth 100000 in
set_option maxHeartbeats 400000 in
theorem klook_none (n : Nat) (h : KKt w base s) (hn : n < 20) (hh : (s.k.p n).has = true) (hf : Sg.FirTo (s.k.p n).box 0 0) :
    Calls Tryz.prog 94 #[.pointer (some ⟨s.A 0, 0, none⟩), .int .i64 n] w fun e w' => e = .returned (.tuple #[]) ∧ Below w.heap.size w w' := by
  have hnI : (n : Int) < 20 := by omega
  have c5 := h.cBox n hn hh
  have EN := Hid.intro (ends_any (s.A (29 + n)) (s.k.p n).box w (h.bx n hn hh))
  have HF := Hid.intro hf
  clear h hh hf
  generalize s.A 0 = kb at *
  generalize s.A (29 + n) = bb at *
  go_enter Tryz.func94, Tryz.ntmps94
  go_wp2_with fail
  refine EN.out.mono ?_
  rintro e w1 ⟨m, rfl, hm, hb⟩
  obtain rfl : m = 0 := hm.unique HF.out
  have HB := Hid.intro hb
  clear hm hb
  rw [show Sg.isB 0 = false from rfl]
  go_wp2_with fail
  go_end0
  exact ⟨rfl, HB.out⟩
set_option maxRecDepth 100000 in
set_option maxHeartbeats 400000 in
theorem klookB_none (n : Nat) (h : KKt w base s) (hn : n < 20) (hh : (s.k.p n).has = true) (hf : Kn.hd s.k n ≠ n → Sg.FirTo (s.k.p n).box 0 0) :
    Calls Tryz.prog 48 #[.pointer (some ⟨s.A 0, 0, none⟩), .int .i64 n] w fun e w' => e = .returned (.tuple #[]) ∧ Below w.heap.size w w' := by
  obtain ⟨th, hth⟩ : ∃ th, decide (Kn.hd s.k n = n) = th := ⟨_, rfl⟩
  have IH := Hid.intro (kisHead_any base s w n h th hth)
  cases th
  · have LK := Hid.intro (klook_none base s w n h hn hh (hf (of_decide_eq_false hth)))
    clear h hh hf hth
    generalize s.A 0 = kb at *
    go_enter Tryz.func48, Tryz.ntmps48
    go_wp2_with fail
    refine IH.out.mono ?_
    rintro e w1 ⟨rfl, hw⟩
    subst w1
    go_wp2_with fail
    refine LK.out.mono ?_
    rintro e w1 ⟨rfl, hb⟩
    have HB := Hid.intro hb
    clear hb
    go_wp2_with fail
    go_end0
    exact ⟨rfl, HB.out⟩
  · clear h hh hf hth
    generalize s.A 0 = kb at *
    go_enter Tryz.func48, Tryz.ntmps48
    go_wp2_with fail
    refine IH.out.mono ?_
    rintro e w1 ⟨rfl, hw⟩
    subst w1
    go_wp2_with fail
    go_end0
    exact ⟨rfl, Below.refl _ _⟩
def Kn.senK (k : Kp) (n : Nat) (z : Int) : Kp := k.put n { k.p n with box := Sg.senF (k.p n).box z }
set_option maxRecDepth 100000 in
set_option maxHeartbeats 400000 in
theorem ksend_kid (n : Nat) (h : KKt w base s) (hn : n < 20) (hh : (s.k.p n).has = true) (hf : Kn.hd s.k n ≠ n → Sg.FirTo (s.k.p n).box 0 0) :
    Calls Tryz.prog 44 #[.pointer (some ⟨s.A 0, 0, none⟩), .int .i64 n, .int .i64 3] w fun e w' => e = .returned (.tuple #[]) ∧ KKt w' base { s with k := Kn.senK s.k n 3 } ∧ KF s w { s with k := Kn.senK s.k n 3 } w' := by
  have hnI : (n : Int) < 20 := by omega
  have c5 := h.cBox n hn hh
  have SE := Hid.intro (send_any (s.A (29 + n)) 3 (s.k.p n).box w (h.bx n hn hh))
  have H := Hid.intro (And.intro h (And.intro hh hf))
  obtain ⟨kb, hkb⟩ : ∃ kb, s.A 0 = kb := ⟨_, rfl⟩
  have HK := Hid.intro hkb
  obtain ⟨bb, hbb⟩ : ∃ bb, s.A (29 + n) = bb := ⟨_, rfl⟩
  have HB := Hid.intro hbb
  rw [hkb] at c5 ⊢
  rw [hbb] at c5 SE
  clear h hh hf hkb hbb
  go_enter Tryz.func44, Tryz.ntmps44
  go_wp2_with fail
  refine SE.out.mono ?_
  rintro e w1 ⟨rfl, u1, f1⟩
  generalize errV (Sg.isE 3) = ev
  have S1 : Hid (KKt w1 base { s with k := Kn.senK s.k n 3 } ∧ KF s w { s with k := Kn.senK s.k n 3 } w1) := Hid.intro (by
    rw [← HB.out] at u1 f1
    exact H.out.1.setBx hn H.out.2.1 u1 f1)
  clear u1 f1 c5
  have LK := Hid.intro (klookB_none base { s with k := Kn.senK s.k n 3 } w1 n S1.out.1 hn (by show ((Kn.senK s.k n 3).p n).has = true; unfold Kn.senK; rw [Kn.put_same]; exact H.out.2.1) (fun c => by
    show Sg.FirTo ((Kn.senK s.k n 3).p n).box 0 0
    unfold Kn.senK
    rw [Kn.put_same]
    exact Sg.kid_none (H.out.2.2 c)))
  rw [show ({ s with k := Kn.senK s.k n 3 } : St).A 0 = kb from HK.out] at LK
  go_wp2_with fail
  refine LK.out.mono ?_
  rintro e w2 ⟨rfl, hb⟩
  have S2 : Hid (KKt w2 base { s with k := Kn.senK s.k n 3 } ∧ KF s w { s with k := Kn.senK s.k n 3 } w2) := Hid.intro ⟨S1.out.1.below hb, S1.out.2.trans (KF.below hb)⟩
  clear hb
  go_wp2_with fail
  go_end0
  exact ⟨rfl, S2.out⟩
end
end Go.Proofs.YtghogbngmcolmaaGreat
namespace Go.Proofs.YtghogbngmcolmaaGreat
open Go.RowKit
open Tr (Fo Nd)
open Mo (Wh Mt)
open Mv (Me Bk)
open Kn (Pr Kp St us KB KJ VI EI)
namespace Kn
def goneK (k : Kp) (n : Nat) (c : Int) : Kp := k.put n { k.p n with st := 2, code := c }
theorem goneK_two (k : Kp) (n : Nat) (c : Int) : (k.put n { k.p n with st := 2 }).put n { (k.put n { k.p n with st := 2 }).p n with code := c } = goneK k n c := by
  rw [put_same]
  unfold goneK Kp.put
  congr 1
  funext m
  by_cases e : m = n
  · rw [if_pos e, if_pos e]
  · rw [if_neg e, if_neg e]
    exact if_neg e
def adK (k : Kp) (L : List Nat) (h : Int) : Kp := { k with p := fun m => { k.p m with par := if m ∈ L then h else (k.p m).par } }
theorem adK_nil (k : Kp) (h : Int) : adK k [] h = k := by
  unfold adK
  simp only [List.not_mem_nil, if_false]
theorem adK_step (k : Kp) (L : List Nat) (h : Int) (c : Nat) : (adK k L h).put c { (adK k L h).p c with par := h } = adK k (L ++ [c]) h := by
  unfold adK Kp.put
  congr 1
  funext m
  by_cases e : m = c
  · subst e
    rw [if_pos rfl]
    have : m ∈ L ++ [m] := by simp
    rw [if_pos this]
  · rw [if_neg e]
    have : (m ∈ L ++ [c]) ↔ m ∈ L := by simp [e]
    have p : (if m ∈ L then h else (k.p m).par) = (if m ∈ L ++ [c] then h else (k.p m).par) := by
      by_cases q : m ∈ L
      · rw [if_pos q, if_pos (this.2 q)]
      · rw [if_neg q, if_neg (fun x => q (this.1 x))]
    exact congrArg (fun v => ({ k.p m with par := v } : Pr)) p
section
variable {X : Nat → Prop} {N : Nat} {d : Nat → Nat} {k k1 k2 k3 : Kp} {n z : Nat}
theorem KJ.gone (h : KJ X N k) (hX : X n) (hn : n < 20) (s0 : (k.p n).st ≠ 0) (hh : (k.p n).has = false) (c : Int) : KJ X N (goneK k n c) := by
  have e : ∀ m, m ≠ n → (goneK k n c).p m = k.p m := fun m q => put_ne _ _ _ _ q
  have e2 : (goneK k n c).p n = { k.p n with st := 2, code := c } := put_same _ _ _
  refine ⟨h.sp, h.gr, h.si, h.sy, h.nw, ?_, h.wx, h.rf, h.ok, h.tb, fun m hm => ?_, fun m hm q => ?_, fun m hm x => ?_, fun m hm => ?_, h.ht, fun m hm => ?_⟩
  · rw [show (fun m => ((goneK k n c).p m).mem) = fun m => (k.p m).mem from funext fun m => by
      by_cases q : m = n
      · subst q; rw [e2]
      · rw [e m q]]
    exact h.me
  · by_cases q : m = n
    · subst q; rw [e2]; exact Nat.le_refl 2
    · rw [e m q]; exact h.st m hm
  · by_cases r : m = n
    · subst r; rw [e2] at q
      have q2 : (k.p m).has = true := q
      rw [hh] at q2; cases q2
    · rw [e m r] at q ⊢; exact h.hs m hm q
  · by_cases q : m = n
    · subst q; exact absurd hX x
    · rw [e m q]; exact h.lv m hm x
  · by_cases q : m = n
    · subst q; rw [e2]
      exact ⟨fun _ => Nat.succ_ne_zero 1, fun _ => (h.of m hm).2 s0⟩
    · rw [e m q]; exact h.of m hm
  · by_cases q : m = n
    · subst q; rw [e2]; exact h.nm m hm
    · rw [e m q]; exact h.nm m hm
theorem KJ.ad (h : KJ X N k) (L : List Nat) (v : Int) : KJ X N (adK k L v) := ⟨h.sp, h.gr, h.si, h.sy, h.nw, h.me, h.wx, h.rf, h.ok, h.tb, h.st, h.hs, h.lv, h.of, h.ht, h.nm⟩
theorem VI.gone (h : VI X N d k) (hX : X n) (hn : n < 20) (s0 : (k.p n).st ≠ 0) (hh : (k.p n).has = false) (c : Int) : VI X N d (goneK k n c) := ⟨h.kj.gone hX hn s0 hh c, h.iv, h.hs⟩
theorem EI.gone (h : EI X N d n z k) (s0 : (k.p n).st ≠ 0) (hh : (k.p n).has = false) (c : Int) : EI X N d n z (goneK k n c) := ⟨h.vi.gone h.xn h.hn s0 hh c, h.hn, h.n0, h.xn, h.ho, h.hw, h.hx⟩
theorem Gz.head (g : Gz k k1 z) (h : VI X N d k) (h1 : VI X N d k1) {q : Nat} (hq : q < 20) (o : k1.sp.of q ≠ 0) (c : hd k1 q ≠ q) : hd k q ≠ q := by
  intro e
  obtain ⟨y, hy⟩ : ∃ y, k1.sp.of q = y + 1 := ⟨k1.sp.of q - 1, by omega⟩
  have hk : k.sp.of q = y + 1 := by
    rcases g.kp q hq with ⟨_, b⟩ | ⟨_, b, _⟩
    · rw [← b]; exact hy
    · exact absurd b o
  have y6 := (h.iv.mem_self hq hk).2.1
  have w := (hd_eq h.iv h.hs hq hk).1 e
  exact c ((hd_eq h1.iv h1.hs hq hy).2 (g.wk y 1 q y6 (by omega) hq w o))
def MidTo (r : Nat) (k2 : Kp) (n z : Nat) (k3 : Kp) : Prop := (hd k2 n ≠ n ∧ k3 = k2) ∨ (hd k2 n = n ∧ ∃ j, IterN (VanN r) (z : Int) j k2 k3)
structure Mid (N : Nat) (d : Nat → Nat) (n z : Nat) (k k3 : Kp) (c : Int) : Prop where
  vi : VI (fun m => False ∨ m = n) N d k3
  ho : k3.sp.of n = z + 1
  pn : (k3.p n).st = 2 ∧ (k3.p n).has = false ∧ (k3.p n).par = (k.p n).par ∧ (k3.p n).code = c
  ot : ∀ q, q < 20 → q ≠ n → (k3.p q = k.p q ∧ (k3.sp.of q ≠ 0 → hd k3 q ≠ q → hd k q ≠ q)) ∨ k3.p q = Pr.no
theorem VI.end_mid (h : VI (fun _ => False) N d k) (hn : n < 20) (n0 : n ≠ 0) (l : lv k n = true) (ho : k.sp.of n = z + 1) {k1 k3 : Kp} {c : Int} {r : Nat} (s1 : StrTo k n k1) (m : MidTo r (goneK k1 n c) n z k3) : Mid N d n z k k3 c := by
  obtain ⟨a, sp, tb, hh, s0, oth⟩ := h.first hn (fun x => x) ho (fun _ => s1) (fun x => by rw [l] at x; cases x)
  have pa := (s1.p n).2.1
  have e2 : (goneK k1 n c).p n = { k1.p n with st := 2, code := c } := put_same _ _ _
  have v2 := a.gone (.inr rfl) hn s0 hh c
  have o2 : (goneK k1 n c).sp.of n = z + 1 := by show k1.sp.of n = z + 1; rw [sp]; exact ho
  have pn2 : ((goneK k1 n c).p n).st = 2 ∧ ((goneK k1 n c).p n).has = false ∧ ((goneK k1 n c).p n).par = (k.p n).par ∧ ((goneK k1 n c).p n).code = c := by
    rw [e2]; exact ⟨rfl, hh, pa, rfl⟩
  have oth2 : ∀ q, q ≠ n → (goneK k1 n c).p q = k.p q := fun q e => (put_ne _ _ _ _ e).trans (oth q e)
  have hd2 : ∀ q, hd (goneK k1 n c) q = hd k q := fun q => by
    show hd k1 q = hd k q
    unfold hd; rw [sp]
  rcases m with ⟨_, rfl⟩ | ⟨ih, j, it⟩
  · exact ⟨v2, o2, pn2, fun q _ qn => .inl ⟨oth2 q qn, fun _ e => by rw [← hd2 q]; exact e⟩⟩
  · have ei : EI (fun m => False ∨ m = n) N d n z k1 := h.ei hn n0 (fun x => x) ho (by rw [← hd2 n]; exact ih) (fun _ _ x => absurd x (fun x => x)) (fun _ => s1) (fun x => by rw [l] at x; cases x)
    obtain ⟨b, g, e, _⟩ := EI.iter (van_ok r) j _ (ei.gone s0 hh c) it
    refine ⟨b.vi, b.ho, by rw [e]; exact pn2, fun q q20 qn => ?_⟩
    rcases g.kp q q20 with ⟨x, y⟩ | ⟨x, _, _⟩
    · exact .inl ⟨x.trans (oth2 q qn), fun o c1 => by rw [← hd2 q]; exact g.head v2 b.vi q20 o c1⟩
    · exact .inr x
end
end Kn
end Go.Proofs.YtghogbngmcolmaaGreat
namespace Go.Proofs.YtghogbngmcolmaaGreat
open Go.RowKit
open Tr (Fo Nd)
open Mo (Wh Mt)
open Mv (Me Bk)
open Kn (Pr Kp St us KB KJ VI EI)
namespace Kn
def kidK (k : Kp) (q : Nat) : Kp := if lv k q = true then senK k q 3 else k
def EndTo (k : Kp) (n : Nat) (c : Int) (z q : Nat) (k' : Kp) : Prop := ∃ k1 k3, StrTo k n k1 ∧ MidTo 6 (goneK k1 n c) n z k3 ∧ k' = kidK (adK k3 (chL k3 n) (Sp.findN k3.sp (z : Int) 1 : Nat)) q
theorem VI.mems {X : Nat → Prop} {N : Nat} {d : Nat → Nat} {k : Kp} {n z : Nat} (h : VI X N d k) (hn : n < 20) (ho : k.sp.of n = z + 1) : ∀ x ∈ membL k.sp ((Sp.inN k.sp (n : Int) : Nat) : Int), x < 20 := by
  intro x hx
  obtain ⟨_, z6, zh⟩ := h.iv.mem_self hn ho
  rw [Sp.inN_of hn ho] at hx
  unfold membL at hx
  rw [Sp.isE_nat z6 zh, if_pos rfl, Int.toNat_natCast] at hx
  obtain ⟨i, hi⟩ := List.getElem?_of_mem hx
  exact (Sp.memb_of hi (fun p hp => h.iv.wle z p z6 hp)).1
theorem Mid.par {N : Nat} {d : Nat → Nat} {n z q : Nat} {k k3 : Kp} {c : Int} (m : Mid N d n z k k3 c) (hp : (k.p n).par = (q : Int)) (qn : q ≠ n) (L : List Nat) (h : Int) (hL : ∀ x ∈ L, (k3.p x).par = (n : Int)) : ((adK k3 L h).p n).par = (q : Int) := by
  show (if n ∈ L then h else (k3.p n).par) = (q : Int)
  have e := m.pn.2.2.1
  rw [if_neg (fun c => by have := hL n c; rw [e, hp] at this; omega), e, hp]
theorem chL_par {k : Kp} {n : Nat} : ∀ x ∈ chL k n, (k.p x).par = (n : Int) := fun x hx => by
  unfold chL chK at hx
  have := (List.mem_filter.1 hx).2
  simpa using this
theorem chL_lt {X : Nat → Prop} {N : Nat} {d : Nat → Nat} {k : Kp} {n z : Nat} (h : VI X N d k) (hn : n < 20) (ho : k.sp.of n = z + 1) : ∀ x ∈ chL k n, x < 20 := fun x hx => by
  unfold chL chK at hx
  exact h.mems hn ho x (List.mem_filter.1 hx).1
theorem Mid.told {N : Nat} {d : Nat → Nat} {n z q : Nat} {k k3 : Kp} {c : Int} (m : Mid N d n z k k3 c) (qn : q ≠ n) (q20 : q < 20) (L : List Nat) (h : Int) (hl : lv (adK k3 L h) q = true) (hF : ∀ m, m < 20 → m ≠ n → lv k m = true → hd k m ≠ m → Sg.FirTo (k.p m).box 0 0) :
    ((adK k3 L h).p q).has = true ∧ (hd (adK k3 L h) q ≠ q → Sg.FirTo ((adK k3 L h).p q).box 0 0) := by
  have l3 : (k3.p q).st = 1 := by
    have : decide ((k3.p q).st = 1) = true := hl
    simpa using this
  refine ⟨m.vi.kj.lv q q20 (fun x => x.elim id (fun y => qn y)) l3, fun e => ?_⟩
  show Sg.FirTo (k3.p q).box 0 0
  have o := (m.vi.kj.of q q20).2 (by omega)
  rcases m.ot q q20 qn with ⟨a, b⟩ | a
  · rw [a]
    rw [a] at l3
    exact hF q q20 qn (by unfold lv; simpa using l3) (b o e)
  · rw [a] at l3; cases l3
end Kn
set_option maxRecDepth 100000 in
set_option maxHeartbeats 4000000 in
theorem kend_any (base N : Nat) (d : Nat → Nat) (hN : N ≤ 900) (s : St) (w : World) (n z q : Nat) (c : Int) (h : KKt w base s) (hv : VI (fun _ => False) N d s.k) (hn : n < 20) (n0 : n ≠ 0) (l : Kn.lv s.k n = true) (ho : s.k.sp.of n = z + 1) (q20 : q < 20) (qn : q ≠ n) (hp : (s.k.p n).par = (q : Int)) (hF : ∀ m, m < 20 → m ≠ n → Kn.lv s.k m = true → Kn.hd s.k m ≠ m → Sg.FirTo (s.k.p m).box 0 0) :
    Calls Tryz.prog 38 #[.pointer (some ⟨s.A 0, 0, none⟩), .int .i64 n, .int .i64 c] w fun e w' => ∃ k', e = .returned (.tuple #[]) ∧ Kn.EndTo s.k n c z q k' ∧ KKt w' base { s with k := k' } ∧ KF s w { s with k := k' } w' := by
  have hnI : (n : Int) < 20 := by omega
  have q20I : (q : Int) < 20 := by omega
  have KS := Hid.intro (kstrip_any base s w (fun _ => False) N n h hv.kj hN hn (hv.kj.lv n hn (fun x => x) (by unfold Kn.lv at l; simpa using l)))
  obtain ⟨kb, hkb⟩ : ∃ kb, s.A 0 = kb := ⟨_, rfl⟩
  have HK := Hid.intro hkb
  have H := Hid.intro (And.intro h (And.intro hv (And.intro l (And.intro ho (And.intro hp (And.intro hF hN))))))
  rw [hkb] at KS ⊢
  clear h hv l ho hp hF hN
  go_enter Tryz.func38, Tryz.ntmps38
  go_wp2_with fail
  refine KS.out.mono ?_
  rintro e w1 ⟨k1, rfl, st, ka, kf⟩
  have S1 : Hid (Kn.StrTo s.k n k1 ∧ KKt w1 base { s with k := k1 } ∧ KF s w { s with k := k1 } w1) := Hid.intro ⟨st, ka, kf⟩
  clear st ka kf KS
  have c0 := S1.out.2.1.cSt n hn
  have c3 := S1.out.2.1.cCode n hn
  have fz := S1.out.2.1.frozen
  rw [show ({ s with k := k1 } : St).A 0 = kb from HK.out] at c0 c3 fz
  have S2 : Hid (KKt ((w1.setCell ⟨kb, n * 12, none⟩ (.int .i64 2)).setCell ⟨kb, n * 12 + 3, none⟩ (.int .i64 c)) base { s with k := Kn.goneK k1 n c } ∧ KF s w { s with k := Kn.goneK k1 n c } ((w1.setCell ⟨kb, n * 12, none⟩ (.int .i64 2)).setCell ⟨kb, n * 12 + 3, none⟩ (.int .i64 c))) := Hid.intro (by
    have q1 := S1.out.2.1.setSt hn 2
    have q2 := q1.1.setCode hn c
    rw [show ({ s with k := k1 } : St).A 0 = kb from HK.out] at q1
    have e2 := Kn.goneK_two k1 n c
    have q3 : KKt ((w1.setCell ⟨s.A 0, n * 12, none⟩ (.int .i64 2)).setCell ⟨s.A 0, n * 12 + 3, none⟩ (.int .i64 c)) base { s with k := (k1.put n { k1.p n with st := 2 }).put n { (k1.put n { k1.p n with st := 2 }).p n with code := c } } ∧ KF { s with k := k1.put n { k1.p n with st := 2 } } (w1.setCell ⟨s.A 0, n * 12, none⟩ (.int .i64 2)) { s with k := (k1.put n { k1.p n with st := 2 }).put n { (k1.put n { k1.p n with st := 2 }).p n with code := c } } ((w1.setCell ⟨s.A 0, n * 12, none⟩ (.int .i64 2)).setCell ⟨s.A 0, n * 12 + 3, none⟩ (.int .i64 c)) := q2
    rw [e2, HK.out] at q3
    exact ⟨q3.1, (S1.out.2.2.trans q1.2).trans q3.2⟩)
  generalize (({ s with k := k1 } : St).k.p n).st = v0 at c0
  generalize (({ s with k := k1 } : St).k.p n).code = v3 at c3
  obtain ⟨th, hth⟩ : ∃ th, decide (Kn.hd (Kn.goneK k1 n c) n = n) = th := ⟨_, rfl⟩
  have IH := Hid.intro (kisHead_any base { s with k := Kn.goneK k1 n c } _ n S2.out.1 th hth)
  rw [show ({ s with k := Kn.goneK k1 n c } : St).A 0 = kb from HK.out] at IH
  have HT : Hid ((th = true → Kn.hd (Kn.goneK k1 n c) n = n) ∧ (th = false → Kn.hd (Kn.goneK k1 n c) n ≠ n)) := Hid.intro ⟨fun c => by rw [← hth] at c; exact of_decide_eq_true c, fun c => by rw [← hth] at c; exact of_decide_eq_false c⟩
  clear hth
  go_wp2_with fail
  refine IH.out.mono ?_
  rintro e w2 ⟨rfl, hw⟩
  rw [← hw] at S2
  clear hw IH c0 c3 fz
  go_upto_if 27 with fail
  go_cut [28] from 29 to 30 (fun _ wx => ∃ k3, Hid (KKt wx base { s with k := k3 } ∧ KF s w { s with k := k3 } wx ∧ Kn.MidTo 6 (Kn.goneK k1 n c) n z k3))
  case first =>
    cases th
    · go_wp2_with fail
      go_meet
      case rel => exact ⟨_, Hid.intro ⟨S2.out.1, S2.out.2, .inl ⟨HT.out.2 (by first | rfl | trivial), rfl⟩⟩⟩
    · have HD := Hid.intro (HT.out.1 (by first | rfl | trivial))
      have EE : Hid (EI (fun m => False ∨ m = n) N d n z (Kn.goneK k1 n c)) := Hid.intro (by
        obtain ⟨a, sp, tb, hh, s0, oth⟩ := H.out.2.1.first hn (fun x => x) H.out.2.2.2.1 (fun _ => S1.out.1) (fun x => by rw [H.out.2.2.1] at x; cases x)
        refine EI.gone (H.out.2.1.ei hn n0 (fun x => x) H.out.2.2.2.1 ?_ (fun _ _ x => absurd x (fun x => x)) (fun _ => S1.out.1) (fun x => by rw [H.out.2.2.1] at x; cases x)) s0 hh c
        have q := HD.out
        have q2 : Kn.hd k1 n = n := q
        unfold Kn.hd at q2 ⊢
        rw [← sp]; exact q2)
      have EM := Hid.intro (kempty_any base N d 6 _ { s with k := Kn.goneK k1 n c } w2 n z (kvanish_deep base N d H.out.2.2.2.2.2.2 6) (by omega) (by omega) S2.out.1 EE.out)
      rw [show ({ s with k := Kn.goneK k1 n c } : St).A 0 = kb from HK.out] at EM
      go_wp2_with fail
      refine EM.out.mono ?_
      rintro e w3 ⟨k3, j, rfl, it, ka, kf⟩
      have S3 : Hid (KKt w3 base { s with k := k3 } ∧ KF s w { s with k := k3 } w3 ∧ Kn.MidTo 6 (Kn.goneK k1 n c) n z k3) := Hid.intro ⟨ka, S2.out.2.trans kf, .inr ⟨HD.out, j, it⟩⟩
      clear it ka kf
      go_wp2_with fail
      go_meet
      case rel => exact ⟨k3, S3⟩
  obtain ⟨k3, S3⟩ := hcut
  have MD := Hid.intro (H.out.2.1.end_mid hn n0 H.out.2.2.1 H.out.2.2.2.1 S1.out.1 S3.out.2.2)
  have SP := Hid.intro (kspace_any base { s with k := k3 } wc (n : Int) S3.out.1)
  rw [show Sp.inN ({ s with k := k3 } : St).k.sp (n : Int) = z from Sp.inN_of hn MD.out.ho, show ({ s with k := k3 } : St).A 0 = kb from HK.out] at SP
  have HD := Hid.intro (khead_any base { s with k := k3 } wc (z : Int) S3.out.1)
  rw [show ({ s with k := k3 } : St).A 0 = kb from HK.out] at HD
  obtain ⟨hd0, hhd⟩ : ∃ hd0, Sp.findN ({ s with k := k3 } : St).k.sp (z : Int) 1 = hd0 := ⟨_, rfl⟩
  rw [hhd] at HD
  have HHD := Hid.intro hhd
  have CH := Hid.intro (kchildren_any base { s with k := k3 } wc n S3.out.1 (MD.out.vi.mems hn MD.out.ho))
  rw [show ({ s with k := k3 } : St).A 0 = kb from HK.out] at CH
  clear hhd S2
  go_wp2_with fail
  refine SP.out.mono ?_
  rintro e w4 ⟨rfl, hw⟩
  subst w4
  go_wp2_with fail
  refine HD.out.mono ?_
  rintro e w4 ⟨rfl, hw⟩
  subst w4
  go_wp2_with fail
  refine CH.out.mono ?_
  rintro e w4 ⟨v4, u4, rfl, hb4, hL⟩
  clear SP HD CH
  obtain ⟨LC, hLC⟩ : ∃ LC, Kn.chL ({ s with k := k3 } : St).k n = LC := ⟨_, rfl⟩
  rw [hLC] at hL
  have HLC : Hid (Kn.chL k3 n = LC) := Hid.intro hLC
  have LP : Hid ((∀ x ∈ LC, x < 20) ∧ ∀ x ∈ LC, (k3.p x).par = (n : Int)) := Hid.intro (by rw [← HLC.out]; exact ⟨Kn.chL_lt MD.out.vi hn MD.out.ho, Kn.chL_par⟩)
  obtain ⟨a1, cp1, hv1⟩ := own_form hL.own
  obtain ⟨NN, hNN⟩ : ∃ NN, LC.length = NN := ⟨_, rfl⟩
  have HN := Hid.intro hNN
  have NL : NN ≤ 21 := by
    rw [← hNN, ← HLC.out]
    exact Nat.le_trans (Kn.chK_len _ _ _) (Kn.memL_len _ _)
  have BB : Hid (Below wc.heap.size wc w4) := Hid.intro (hb4.trans (hL.bel.mono hb4.size))
  have S4 : Hid (KKt w4 base { s with k := Kn.adK k3 (LC.take 0) (hd0 : Int) } ∧ KF s w { s with k := Kn.adK k3 (LC.take 0) (hd0 : Int) } w4 ∧ ∀ b, b ≠ kb → w4.heap[b]? = w4.heap[b]?) := Hid.intro (by
    rw [List.take_zero, Kn.adK_nil]
    exact ⟨S3.out.1.below BB.out, S3.out.2.1.trans (KF.below BB.out), fun _ _ => rfl⟩)
  have LL : Hid (∀ i, i < LC.length → ∃ gg cap, v4 = .slice (some ⟨gg, 0, none⟩) LC.length cap ∧ gg ≠ kb ∧ w4.cell? ⟨gg, i, none⟩ = some (.int .i64 ((LC.getD i 0 : Nat) : Int))) := Hid.intro (fun i hi => by
    obtain ⟨gg, cap, hv, hg, hc⟩ := hL.cells (by omega)
    refine ⟨gg, cap, hv, fun e => ?_, ?_⟩
    · have a := (hL.own.lt gg (by rw [hv]; rfl)).1
      have b : kb < wc.heap.size := by rw [← HK.out]; exact S3.out.1.lt (us9 (by omega))
      have := hb4.size
      omega
    · have q := hc i hi
      rw [show 0 + i = i by omega] at q
      exact q)
  rw [hNN] at hv1
  have HV1 := Hid.intro hv1
  rw [hv1]
  clear hL hv1 hNN hb4 hLC
  go_wp2_with fail
  go_loopw [9, 40] (fun _ i wr => ∃ (k : Nat), i = .int .i64 k ∧ k ≤ NN ∧ Hid (KKt wr base { s with k := Kn.adK k3 (LC.take k) (hd0 : Int) } ∧ KF s w { s with k := Kn.adK k3 (LC.take k) (hd0 : Int) } wr ∧ ∀ b, b ≠ kb → wr.heap[b]? = w4.heap[b]?)) (fun _ i _ => NN - (intOf i).toNat)
  case atStart => exact ⟨0, rfl, by omega, Hid.intro ⟨S4.out.1, S4.out.2.1, fun _ _ => rfl⟩⟩
  case round =>
    obtain ⟨k, rfl, hk, R⟩ := hrel
    by_cases hlt : k < NN
    · have hltI : (k : Int) < NN := by omega
      have hkL : k < LC.length := by rw [HN.out]; exact hlt
      obtain ⟨m, hm⟩ : ∃ m, LC[k]? = some m := ⟨_, List.getElem?_eq_getElem hkL⟩
      have m20 : m < 20 := LP.out.1 m (List.mem_of_getElem? hm)
      have m20I : (m : Int) < 20 := by omega
      obtain ⟨gg, cap, hv, hg, hc⟩ := LL.out k hkL
      rw [HV1.out] at hv
      cases hv
      have cm : wr.cell? ⟨gg, k, none⟩ = some (.int .i64 (m : Int)) := by
        rw [show wr.cell? ⟨gg, k, none⟩ = w4.cell? ⟨gg, k, none⟩ from World.cell?_of_block (R.out.2.2 gg hg), hc]
        simp [List.getD_eq_getElem?_getD, hm]
      have cp := R.out.1.cPar m m20
      have fz := R.out.1.frozen
      rw [show ({ s with k := Kn.adK k3 (LC.take k) (hd0 : Int) } : St).A 0 = kb from HK.out] at cp fz
      generalize (({ s with k := Kn.adK k3 (LC.take k) (hd0 : Int) } : St).k.p m).par = pv at cp
      have R1 : Hid (KKt (wr.setCell ⟨kb, m * 12 + 1, none⟩ (.int .i64 (hd0 : Int))) base { s with k := Kn.adK k3 (LC.take (k + 1)) (hd0 : Int) } ∧ KF s w { s with k := Kn.adK k3 (LC.take (k + 1)) (hd0 : Int) } (wr.setCell ⟨kb, m * 12 + 1, none⟩ (.int .i64 (hd0 : Int))) ∧ ∀ b, b ≠ kb → (wr.setCell ⟨kb, m * 12 + 1, none⟩ (.int .i64 (hd0 : Int))).heap[b]? = w4.heap[b]?) := Hid.intro (by
        have q := R.out.1.setPar m20 (hd0 : Int)
        rw [show ({ s with k := Kn.adK k3 (LC.take k) (hd0 : Int) } : St).A 0 = kb from HK.out] at q
        have e := Kn.adK_step k3 (LC.take k) (hd0 : Int) m
        rw [show LC.take k ++ [m] = LC.take (k + 1) by rw [List.take_add_one, hm]; rfl] at e
        rw [← e]
        exact ⟨q.1, R.out.2.1.trans q.2, fun b hb => (setBlk _ _ _ _ hb).trans (R.out.2.2 b hb)⟩)
      clear hc hm hkL hg
      go_wp2_with fail
      go_roundw
      case rel => exact ⟨k + 1, by go_num, by omega, R1⟩
      case measure => simp [intOf]; omega
    · obtain rfl : k = NN := by omega
      have R1 : Hid (KKt wr base { s with k := Kn.adK k3 LC (hd0 : Int) } ∧ KF s w { s with k := Kn.adK k3 LC (hd0 : Int) } wr) := Hid.intro (by
        have q := R.out
        rw [← HN.out, List.take_length] at q
        exact ⟨q.1, q.2.1⟩)
      clear R S4
      have cp := R1.out.1.cPar n hn
      rw [show ({ s with k := Kn.adK k3 LC (hd0 : Int) } : St).A 0 = kb from HK.out, show (({ s with k := Kn.adK k3 LC (hd0 : Int) } : St).k.p n).par = (q : Int) from MD.out.par H.out.2.2.2.2.1 qn LC (hd0 : Int) LP.out.2] at cp
      obtain ⟨tl, htl⟩ : ∃ tl, Kn.lv (Kn.adK k3 LC (hd0 : Int)) q = tl := ⟨_, rfl⟩
      have LV := Hid.intro (klive_any base { s with k := Kn.adK k3 LC (hd0 : Int) } wr q R1.out.1 q20 tl htl)
      rw [show ({ s with k := Kn.adK k3 LC (hd0 : Int) } : St).A 0 = kb from HK.out] at LV
      have ET : Hid (∀ k', k' = Kn.kidK (Kn.adK k3 LC (hd0 : Int)) q → Kn.EndTo s.k n c z q k') := Hid.intro (fun k' e => ⟨k1, k3, S1.out.1, S3.out.2.2, by rw [HLC.out, show Sp.findN k3.sp (z : Int) 1 = hd0 from HHD.out]; exact e⟩)
      cases tl
      · have FIN := Hid.intro (ET.out _ (by unfold Kn.kidK; rw [if_neg (by rw [htl]; decide)]))
        clear htl ET
        go_wp2_with fail
        refine LV.out.mono ?_
        rintro e w5 ⟨rfl, hw⟩
        subst w5
        go_wp2_with fail
        go_end0
        exact ⟨_, rfl, FIN.out, R1.out⟩
      · have FIN := Hid.intro (ET.out _ (by unfold Kn.kidK; rw [if_pos htl]))
        have TD := MD.out.told qn q20 LC (hd0 : Int) htl H.out.2.2.2.2.2.1
        have SE := Hid.intro (ksend_kid base { s with k := Kn.adK k3 LC (hd0 : Int) } wr q R1.out.1 q20 TD.1 TD.2)
        rw [show ({ s with k := Kn.adK k3 LC (hd0 : Int) } : St).A 0 = kb from HK.out] at SE
        clear htl ET TD
        go_wp2_with fail
        refine LV.out.mono ?_
        rintro e w5 ⟨rfl, hw⟩
        subst w5
        go_wp2_with fail
        refine SE.out.mono ?_
        rintro e w5 ⟨rfl, ka, kf⟩
        have S5 : Hid (KKt w5 base { s with k := Kn.senK (Kn.adK k3 LC (hd0 : Int)) q 3 } ∧ KF s w { s with k := Kn.senK (Kn.adK k3 LC (hd0 : Int)) q 3 } w5) := Hid.intro ⟨ka, R1.out.2.trans kf⟩
        clear ka kf
        go_wp2_with fail
        go_end0
        exact ⟨_, rfl, FIN.out, S5.out⟩
end Go.Proofs.YtghogbngmcolmaaGreat
namespace Go.Proofs.YtghogbngmcolmaaGreat
open Go.RowKit
open Tr (Fo Nd)
open Mo (Wh Mt)
open Mv (Me Bk)
open Kn (Pr Kp St us KB KJ VI EI)
def Kn.selN (k : Kp) (z : Int) : Nat := if Kn.actE k z = 0 then Sp.pidN k.sp z (Sp.inN k.sp z : Nat) else 0
section
variable (base : Nat) (s : St) (w : World)
set_option maxRecDepth 100000 in
set_option maxHeartbeats 400000 in
theorem kself_any (z : Int) (h : KKt w base s) (h0 : ∀ n, n < 6 → s.k.sp.who n 0 = 0) :
    Calls Tryz.prog 14 #[.pointer (some ⟨s.A 0, 0, none⟩), .int .i64 z] w fun e w' => e = .returned (.tuple #[.int .i64 (Kn.selN s.k z : Int), errV (Kn.actE s.k z)]) ∧ w' = w := by
  have AC := Hid.intro (kacting_any base s w z h)
  by_cases c : Kn.actE s.k z = 0
  · have E : Kn.selN s.k z = Sp.pidN s.k.sp z (Sp.inN s.k.sp z : Nat) := if_pos c
    have SP := Hid.intro (kspace_any base s w z h)
    have PI := Hid.intro (kpid_any base s w z (Sp.inN s.k.sp z : Nat) h h0)
    rw [c, errV_zero] at AC
    rw [E, c, errV_zero]
    clear h h0 c E
    generalize aptE (s.A 0) z 0 = ap at *
    generalize s.A 0 = kb at *
    generalize Sp.pidN s.k.sp z (Sp.inN s.k.sp z : Nat) = pp at *
    generalize Sp.inN s.k.sp z = ss at *
    go_enter Tryz.func14, Tryz.ntmps14
    go_wp2_with fail
    refine AC.out.mono ?_
    rintro e w1 ⟨rfl, hw⟩
    subst w1
    go_wp2_with fail
    refine SP.out.mono ?_
    rintro e w1 ⟨rfl, hw⟩
    subst w1
    go_wp2_with fail
    refine PI.out.mono ?_
    rintro e w1 ⟨rfl, hw⟩
    subst w1
    go_wp2_with fail
    go_ret2
    exact ⟨rfl, rfl⟩
  · have E : Kn.selN s.k z = 0 := if_neg c
    rw [errV_ne c] at AC
    rw [E, errV_ne c]
    clear h h0 E c
    generalize aptE (s.A 0) z (Kn.actE s.k z) = ap at *
    generalize Kn.actE s.k z = ae at *
    generalize s.A 0 = kb at *
    go_enter Tryz.func14, Tryz.ntmps14
    go_wp2_with fail
    refine AC.out.mono ?_
    rintro e w1 ⟨rfl, hw⟩
    subst w1
    go_wp2_with fail
    go_ret2
    exact ⟨rfl, rfl⟩
end
end Go.Proofs.YtghogbngmcolmaaGreat
namespace Go.Proofs.YtghogbngmcolmaaGreat
open Go.RowKit
open Tr (Fo Nd)
open Mo (Wh Mt)
open Mv (Me Bk)
open Kn (Pr Kp St us KB KJ VI EI)
structure Kn.KI (N : Nat) (d : Nat → Nat) (k : Kp) : Prop where
  vi : VI (fun _ => False) N d k
  fi : ∀ m, m < 20 → Kn.lv k m = true → Kn.hd k m ≠ m → Sg.FirTo (k.p m).box 0 0
  pr : ∀ m, m < 20 → m ≠ 0 → (k.p m).st ≠ 0 → ∃ q, q < 20 ∧ q ≠ m ∧ (k.p m).par = (q : Int)
  h0 : Kn.hd k 0 = 0
def Kn.exiE (k : Kp) (z c : Int) : Int := if Kn.actE k z = 0 then (if c < 0 ∨ 255 < c then 1 else if z = 0 then 8 else 0) else Kn.actE k z
def Kn.ExiTo (k : Kp) (z c : Int) (k' : Kp) : Prop := (Kn.exiE k z c ≠ 0 ∧ k' = k) ∨ (Kn.exiE k z c = 0 ∧ ∃ n y q, z = (n : Nat) ∧ n < 20 ∧ n ≠ 0 ∧ Kn.lv k n = true ∧ k.sp.of n = y + 1 ∧ q < 20 ∧ q ≠ n ∧ (k.p n).par = (q : Nat) ∧ Kn.EndTo k n c y q k')
section
variable (base N : Nat) (d : Nat → Nat) (s : St) (w : World)
set_option maxRecDepth 100000 in
set_option maxHeartbeats 1000000 in
theorem kexit_any (hN : N ≤ 900) (z c : Int) (h : KKt w base s) (hi : Kn.KI N d s.k) :
    Calls Tryz.prog 10 #[.pointer (some ⟨s.A 0, 0, none⟩), .int .i64 z, .int .i64 c] w fun e w' => ∃ k', e = .returned (errV (Kn.exiE s.k z c)) ∧ Kn.ExiTo s.k z c k' ∧ KKt w' base { s with k := k' } ∧ KF s w { s with k := k' } w' := by
  have AC := Hid.intro (kacting_any base s w z h)
  have H := Hid.intro (And.intro h hi)
  by_cases a : Kn.actE s.k z = 0
  · obtain ⟨n, rfl, hn, hl⟩ := Kn.actE_ok a
    rw [a, errV_zero] at AC
    generalize aptE (s.A 0) (n : Int) 0 = ap at *
    by_cases b : c < 0 ∨ 255 < c
    · have E : Kn.exiE s.k (n : Int) c = 1 := by unfold Kn.exiE; rw [if_pos a, if_pos b]
      have FIN : Hid (Kn.ExiTo s.k (n : Int) c s.k) := Hid.intro (.inl ⟨by rw [E]; decide, rfl⟩)
      rw [E]
      clear h hi a E
      generalize s.A 0 = kb at *
      by_cases b1 : c < 0
      · clear b
        go_enter Tryz.func10, Tryz.ntmps10
        go_wp2_with fail
        refine AC.out.mono ?_
        rintro e w1 ⟨rfl, hw⟩
        subst w1
        go_wp2_with fail
        go_ret
        exact ⟨s.k, rfl, FIN.out, H.out.1, KF.refl _ _⟩
      · have b2 : 255 < c := by omega
        clear b
        go_enter Tryz.func10, Tryz.ntmps10
        go_wp2_with fail
        refine AC.out.mono ?_
        rintro e w1 ⟨rfl, hw⟩
        subst w1
        go_wp2_with fail
        go_ret
        exact ⟨s.k, rfl, FIN.out, H.out.1, KF.refl _ _⟩
    · have b1 : ¬ c < 0 := by omega
      have b2 : ¬ 255 < c := by omega
      by_cases n0 : n = 0
      · subst n0
        have E : Kn.exiE s.k ((0 : Nat) : Int) c = 8 := by unfold Kn.exiE; rw [if_pos a, if_neg b]; rfl
        have FIN : Hid (Kn.ExiTo s.k ((0 : Nat) : Int) c s.k) := Hid.intro (.inl ⟨by rw [E]; decide, rfl⟩)
        rw [E]
        clear h hi a E b hl
        generalize s.A 0 = kb at *
        go_enter Tryz.func10, Tryz.ntmps10
        go_wp2_with fail
        refine AC.out.mono ?_
        rintro e w1 ⟨rfl, hw⟩
        subst w1
        go_wp2_with fail
        go_ret
        exact ⟨s.k, rfl, FIN.out, H.out.1, KF.refl _ _⟩
      · have E : Kn.exiE s.k (n : Int) c = 0 := by unfold Kn.exiE; rw [if_pos a, if_neg b, if_neg (by omega)]
        have st0 : (s.k.p n).st ≠ 0 := by
          have : decide ((s.k.p n).st = 1) = true := hl
          have : (s.k.p n).st = 1 := by simpa using this
          omega
        obtain ⟨q, q20, qn, hp⟩ := hi.pr n hn n0 st0
        obtain ⟨y, hy⟩ : ∃ y, s.k.sp.of n = y + 1 := ⟨s.k.sp.of n - 1, by have := (hi.vi.kj.of n hn).2 st0; omega⟩
        have EN := Hid.intro (kend_any base N d hN s w n y q c h hi.vi hn n0 hl hy q20 qn hp (fun m hm _ => hi.fi m hm))
        have FIN : Hid (∀ k', Kn.EndTo s.k n c y q k' → Kn.ExiTo s.k (n : Int) c k') := Hid.intro (fun k' e => .inr ⟨E, n, y, q, rfl, hn, n0, hl, hy, q20, qn, hp, e⟩)
        rw [E, errV_zero]
        have nI : ((n : Int) == 0) = false := by simpa using n0
        have nI2 : ¬ (n : Int) = 0 := by omega
        clear h hi a E b hl st0 hp hy
        generalize s.A 0 = kb at *
        go_enter Tryz.func10, Tryz.ntmps10
        go_wp2_with fail
        refine AC.out.mono ?_
        rintro e w1 ⟨rfl, hw⟩
        subst w1
        go_wp2_with fail
        refine EN.out.mono ?_
        rintro e w1 ⟨k', rfl, et, ka, kf⟩
        have S1 : Hid (Kn.ExiTo s.k (n : Int) c k' ∧ KKt w1 base { s with k := k' } ∧ KF s w { s with k := k' } w1) := Hid.intro ⟨FIN.out k' et, ka, kf⟩
        clear et ka kf
        go_wp2_with fail
        go_ret
        exact ⟨k', rfl, S1.out⟩
  · have E : Kn.exiE s.k z c = Kn.actE s.k z := if_neg a
    have FIN : Hid (Kn.ExiTo s.k z c s.k) := Hid.intro (.inl ⟨by rw [E]; exact a, rfl⟩)
    rw [errV_ne a] at AC
    rw [E, errV_ne a]
    clear h hi E a
    generalize aptE (s.A 0) z (Kn.actE s.k z) = ap at *
    generalize Kn.actE s.k z = ae at *
    generalize s.A 0 = kb at *
    go_enter Tryz.func10, Tryz.ntmps10
    go_wp2_with fail
    refine AC.out.mono ?_
    rintro e w1 ⟨rfl, hw⟩
    subst w1
    go_wp2_with fail
    go_ret
    exact ⟨s.k, rfl, FIN.out, H.out.1, KF.refl _ _⟩
end
end Go.Proofs.YtghogbngmcolmaaGreat

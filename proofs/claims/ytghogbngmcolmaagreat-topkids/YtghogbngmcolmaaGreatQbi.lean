import Derived.BigQuiet
import Derived.Test.YtghogbngmcolmaaGreatQbh
namespace Go.Proofs.YtghogbngmcolmaaGreat
open Go.RowKit
open Tr (Fo Nd)
open Mo (Wh Mt)
open Mv (Me Bk)
open Kn (Pr Kp St us KB KJ VI EI)
namespace Kn
def kidK (k : Kp) (q : Nat) : Kp := if lv k q = true then senK k q 3 else k
def EndTo (k : Kp) (n : Nat) (c : Int) (z q : Nat) (k' : Kp) : Prop := ∃ k1 k3, StrTo k n k1 ∧ MidTo 6 (goneK k1 n c) n z k3 ∧ k' = kidK (adK k3 (chL k3 n) (Sp.findN k3.sp (z : Int) 1 : Nat)) q
theorem VI.mems {X : Nat → Prop} {N : Nat} {d : Nat → Nat} {k : Kp} {n z : Nat} (h : VI X N d k) (hn : n < 20) (ho : k.sp.of n = z + 1) : ∀ x ∈ membL k.sp ((Sp.inN k.sp (n : Int) : Nat) : Int), x < 20 := by
  intro x hx
  obtain ⟨_, z6, zh⟩ := h.iv.mem_self hn ho
  rw [Sp.inN_of hn ho] at hx
  unfold membL at hx
  rw [Sp.isE_nat z6 zh, if_pos rfl, Int.toNat_natCast] at hx
  obtain ⟨i, hi⟩ := List.getElem?_of_mem hx
  exact (Sp.memb_of hi (fun p hp => h.iv.wle z p z6 hp)).1
theorem Mid.par {N : Nat} {d : Nat → Nat} {n z q : Nat} {k k3 : Kp} {c : Int} (m : Mid N d n z k k3 c) (hp : (k.p n).par = (q : Int)) (qn : q ≠ n) (L : List Nat) (h : Int) (hL : ∀ x ∈ L, (k3.p x).par = (n : Int)) : ((adK k3 L h).p n).par = (q : Int) := by
  show (if n ∈ L then h else (k3.p n).par) = (q : Int)
  have e := m.pn.2.2.1
  rw [if_neg (fun c => by have := hL n c; rw [e, hp] at this; omega), e, hp]
theorem chL_par {k : Kp} {n : Nat} : ∀ x ∈ chL k n, (k.p x).par = (n : Int) := fun x hx => by
  unfold chL chK at hx
  have := (List.mem_filter.1 hx).2
  simpa using this
theorem chL_lt {X : Nat → Prop} {N : Nat} {d : Nat → Nat} {k : Kp} {n z : Nat} (h : VI X N d k) (hn : n < 20) (ho : k.sp.of n = z + 1) : ∀ x ∈ chL k n, x < 20 := fun x hx => by
  unfold chL chK at hx
  exact h.mems hn ho x (List.mem_filter.1 hx).1
theorem Mid.told {N : Nat} {d : Nat → Nat} {n z q : Nat} {k k3 : Kp} {c : Int} (m : Mid N d n z k k3 c) (qn : q ≠ n) (q20 : q < 20) (L : List Nat) (h : Int) (hl : lv (adK k3 L h) q = true) (hF : ∀ m, m < 20 → m ≠ n → lv k m = true → hd k m ≠ m → Sg.FirTo (k.p m).box 0 0) :
    ((adK k3 L h).p q).has = true ∧ (hd (adK k3 L h) q ≠ q → Sg.FirTo ((adK k3 L h).p q).box 0 0) := by
  have l3 : (k3.p q).st = 1 := by
    have : decide ((k3.p q).st = 1) = true := hl
    simpa using this
  refine ⟨m.vi.kj.lv q q20 (fun x => x.elim id (fun y => qn y)) l3, fun e => ?_⟩
  show Sg.FirTo (k3.p q).box 0 0
  have o := (m.vi.kj.of q q20).2 (by omega)
  rcases m.ot q q20 qn with ⟨a, b⟩ | a
  · rw [a]
    rw [a] at l3
    exact hF q q20 qn (by unfold lv; simpa using l3) (b o e)
  · rw [a] at l3; cases l3
end Kn
set_option maxRecDepth 100000 in
set_option maxHeartbeats 4000000 in
theorem kend_any (base N : Nat) (d : Nat → Nat) (hN : N ≤ 900) (s : St) (w : World) (n z q : Nat) (c : Int) (h : KKt w base s) (hv : VI (fun _ => False) N d s.k) (hn : n < 20) (n0 : n ≠ 0) (l : Kn.lv s.k n = true) (ho : s.k.sp.of n = z + 1) (q20 : q < 20) (qn : q ≠ n) (hp : (s.k.p n).par = (q : Int)) (hF : ∀ m, m < 20 → m ≠ n → Kn.lv s.k m = true → Kn.hd s.k m ≠ m → Sg.FirTo (s.k.p m).box 0 0) :
    Calls Tryz.prog 38 #[.pointer (some ⟨s.A 0, 0, none⟩), .int .i64 n, .int .i64 c] w fun e w' => ∃ k', e = .returned (.tuple #[]) ∧ Kn.EndTo s.k n c z q k' ∧ KKt w' base { s with k := k' } ∧ KF s w { s with k := k' } w' := by
  have hnI : (n : Int) < 20 := by omega
  have q20I : (q : Int) < 20 := by omega
  have KS := Hid.intro (kstrip_any base s w (fun _ => False) N n h hv.kj hN hn (hv.kj.lv n hn (fun x => x) (by unfold Kn.lv at l; simpa using l)))
  obtain ⟨kb, hkb⟩ : ∃ kb, s.A 0 = kb := ⟨_, rfl⟩
  have HK := Hid.intro hkb
  have H := Hid.intro (And.intro h (And.intro hv (And.intro l (And.intro ho (And.intro hp (And.intro hF hN))))))
  rw [hkb] at KS ⊢
  clear h hv l ho hp hF hN
  go_enter Tryz.func38, Tryz.ntmps38
  go_wp2_with fail
  refine KS.out.mono ?_
  rintro e w1 ⟨k1, rfl, st, ka, kf⟩
  have S1 : Hid (Kn.StrTo s.k n k1 ∧ KKt w1 base { s with k := k1 } ∧ KF s w { s with k := k1 } w1) := Hid.intro ⟨st, ka, kf⟩
  clear st ka kf KS
  have c0 := S1.out.2.1.cSt n hn
  have c3 := S1.out.2.1.cCode n hn
  have fz := S1.out.2.1.frozen
  rw [show ({ s with k := k1 } : St).A 0 = kb from HK.out] at c0 c3 fz
  have S2 : Hid (KKt ((w1.setCell ⟨kb, n * 12, none⟩ (.int .i64 2)).setCell ⟨kb, n * 12 + 3, none⟩ (.int .i64 c)) base { s with k := Kn.goneK k1 n c } ∧ KF s w { s with k := Kn.goneK k1 n c } ((w1.setCell ⟨kb, n * 12, none⟩ (.int .i64 2)).setCell ⟨kb, n * 12 + 3, none⟩ (.int .i64 c))) := Hid.intro (by
    have q1 := S1.out.2.1.setSt hn 2
    have q2 := q1.1.setCode hn c
    rw [show ({ s with k := k1 } : St).A 0 = kb from HK.out] at q1
    have e2 := Kn.goneK_two k1 n c
    have q3 : KKt ((w1.setCell ⟨s.A 0, n * 12, none⟩ (.int .i64 2)).setCell ⟨s.A 0, n * 12 + 3, none⟩ (.int .i64 c)) base { s with k := (k1.put n { k1.p n with st := 2 }).put n { (k1.put n { k1.p n with st := 2 }).p n with code := c } } ∧ KF { s with k := k1.put n { k1.p n with st := 2 } } (w1.setCell ⟨s.A 0, n * 12, none⟩ (.int .i64 2)) { s with k := (k1.put n { k1.p n with st := 2 }).put n { (k1.put n { k1.p n with st := 2 }).p n with code := c } } ((w1.setCell ⟨s.A 0, n * 12, none⟩ (.int .i64 2)).setCell ⟨s.A 0, n * 12 + 3, none⟩ (.int .i64 c)) := q2
    rw [e2, HK.out] at q3
    exact ⟨q3.1, (S1.out.2.2.trans q1.2).trans q3.2⟩)
  generalize (({ s with k := k1 } : St).k.p n).st = v0 at c0
  generalize (({ s with k := k1 } : St).k.p n).code = v3 at c3
  obtain ⟨th, hth⟩ : ∃ th, decide (Kn.hd (Kn.goneK k1 n c) n = n) = th := ⟨_, rfl⟩
  have IH := Hid.intro (kisHead_any base { s with k := Kn.goneK k1 n c } _ n S2.out.1 th hth)
  rw [show ({ s with k := Kn.goneK k1 n c } : St).A 0 = kb from HK.out] at IH
  have HT : Hid ((th = true → Kn.hd (Kn.goneK k1 n c) n = n) ∧ (th = false → Kn.hd (Kn.goneK k1 n c) n ≠ n)) := Hid.intro ⟨fun c => by rw [← hth] at c; exact of_decide_eq_true c, fun c => by rw [← hth] at c; exact of_decide_eq_false c⟩
  clear hth
  go_wp2_with fail
  refine IH.out.mono ?_
  rintro e w2 ⟨rfl, hw⟩
  rw [← hw] at S2
  clear hw IH c0 c3 fz
  go_upto_if 27 with fail
  go_cut [28] from 29 to 30 (fun _ wx => ∃ k3, Hid (KKt wx base { s with k := k3 } ∧ KF s w { s with k := k3 } wx ∧ Kn.MidTo 6 (Kn.goneK k1 n c) n z k3))
  case first =>
    cases th
    · go_wp2_with fail
      go_meet
      case rel => exact ⟨_, Hid.intro ⟨S2.out.1, S2.out.2, .inl ⟨HT.out.2 (by first | rfl | trivial), rfl⟩⟩⟩
    · have HD := Hid.intro (HT.out.1 (by first | rfl | trivial))
      have EE : Hid (EI (fun m => False ∨ m = n) N d n z (Kn.goneK k1 n c)) := Hid.intro (by
        obtain ⟨a, sp, tb, hh, s0, oth⟩ := H.out.2.1.first hn (fun x => x) H.out.2.2.2.1 (fun _ => S1.out.1) (fun x => by rw [H.out.2.2.1] at x; cases x)
        refine EI.gone (H.out.2.1.ei hn n0 (fun x => x) H.out.2.2.2.1 ?_ (fun _ _ x => absurd x (fun x => x)) (fun _ => S1.out.1) (fun x => by rw [H.out.2.2.1] at x; cases x)) s0 hh c
        have q := HD.out
        have q2 : Kn.hd k1 n = n := q
        unfold Kn.hd at q2 ⊢
        rw [← sp]; exact q2)
      have EM := Hid.intro (kempty_any base N d 6 _ { s with k := Kn.goneK k1 n c } w2 n z (kvanish_deep base N d H.out.2.2.2.2.2.2 6) (by omega) (by omega) S2.out.1 EE.out)
      rw [show ({ s with k := Kn.goneK k1 n c } : St).A 0 = kb from HK.out] at EM
      go_wp2_with fail
      refine EM.out.mono ?_
      rintro e w3 ⟨k3, j, rfl, it, ka, kf⟩
      have S3 : Hid (KKt w3 base { s with k := k3 } ∧ KF s w { s with k := k3 } w3 ∧ Kn.MidTo 6 (Kn.goneK k1 n c) n z k3) := Hid.intro ⟨ka, S2.out.2.trans kf, .inr ⟨HD.out, j, it⟩⟩
      clear it ka kf
      go_wp2_with fail
      go_meet
      case rel => exact ⟨k3, S3⟩
  obtain ⟨k3, S3⟩ := hcut
  have MD := Hid.intro (H.out.2.1.end_mid hn n0 H.out.2.2.1 H.out.2.2.2.1 S1.out.1 S3.out.2.2)
  have SP := Hid.intro (kspace_any base { s with k := k3 } wc (n : Int) S3.out.1)
  rw [show Sp.inN ({ s with k := k3 } : St).k.sp (n : Int) = z from Sp.inN_of hn MD.out.ho, show ({ s with k := k3 } : St).A 0 = kb from HK.out] at SP
  have HD := Hid.intro (khead_any base { s with k := k3 } wc (z : Int) S3.out.1)
  rw [show ({ s with k := k3 } : St).A 0 = kb from HK.out] at HD
  obtain ⟨hd0, hhd⟩ : ∃ hd0, Sp.findN ({ s with k := k3 } : St).k.sp (z : Int) 1 = hd0 := ⟨_, rfl⟩
  rw [hhd] at HD
  have HHD := Hid.intro hhd
  have CH := Hid.intro (kchildren_any base { s with k := k3 } wc n S3.out.1 (MD.out.vi.mems hn MD.out.ho))
  rw [show ({ s with k := k3 } : St).A 0 = kb from HK.out] at CH
  clear hhd S2
  go_wp2_with fail
  refine SP.out.mono ?_
  rintro e w4 ⟨rfl, hw⟩
  subst w4
  go_wp2_with fail
  refine HD.out.mono ?_
  rintro e w4 ⟨rfl, hw⟩
  subst w4
  go_wp2_with fail
  refine CH.out.mono ?_
  rintro e w4 ⟨v4, u4, rfl, hb4, hL⟩
  clear SP HD CH
  obtain ⟨LC, hLC⟩ : ∃ LC, Kn.chL ({ s with k := k3 } : St).k n = LC := ⟨_, rfl⟩
  rw [hLC] at hL
  have HLC : Hid (Kn.chL k3 n = LC) := Hid.intro hLC
  have LP : Hid ((∀ x ∈ LC, x < 20) ∧ ∀ x ∈ LC, (k3.p x).par = (n : Int)) := Hid.intro (by rw [← HLC.out]; exact ⟨Kn.chL_lt MD.out.vi hn MD.out.ho, Kn.chL_par⟩)
  obtain ⟨a1, cp1, hv1⟩ := own_form hL.own
  obtain ⟨NN, hNN⟩ : ∃ NN, LC.length = NN := ⟨_, rfl⟩
  have HN := Hid.intro hNN
  have NL : NN ≤ 21 := by
    rw [← hNN, ← HLC.out]
    exact Nat.le_trans (Kn.chK_len _ _ _) (Kn.memL_len _ _)
  have BB : Hid (Below wc.heap.size wc w4) := Hid.intro (hb4.trans (hL.bel.mono hb4.size))
  have S4 : Hid (KKt w4 base { s with k := Kn.adK k3 (LC.take 0) (hd0 : Int) } ∧ KF s w { s with k := Kn.adK k3 (LC.take 0) (hd0 : Int) } w4 ∧ ∀ b, b ≠ kb → w4.heap[b]? = w4.heap[b]?) := Hid.intro (by
    rw [List.take_zero, Kn.adK_nil]
    exact ⟨S3.out.1.below BB.out, S3.out.2.1.trans (KF.below BB.out), fun _ _ => rfl⟩)
  have LL : Hid (∀ i, i < LC.length → ∃ gg cap, v4 = .slice (some ⟨gg, 0, none⟩) LC.length cap ∧ gg ≠ kb ∧ w4.cell? ⟨gg, i, none⟩ = some (.int .i64 ((LC.getD i 0 : Nat) : Int))) := Hid.intro (fun i hi => by
    obtain ⟨gg, cap, hv, hg, hc⟩ := hL.cells (by omega)
    refine ⟨gg, cap, hv, fun e => ?_, ?_⟩
    · have a := (hL.own.lt gg (by rw [hv]; rfl)).1
      have b : kb < wc.heap.size := by rw [← HK.out]; exact S3.out.1.lt (us9 (by omega))
      have := hb4.size
      omega
    · have q := hc i hi
      rw [show 0 + i = i by omega] at q
      exact q)
  rw [hNN] at hv1
  have HV1 := Hid.intro hv1
  rw [hv1]
  clear hL hv1 hNN hb4 hLC
  go_wp2_with fail
  go_loopw [9, 40] (fun _ i wr => ∃ (k : Nat), i = .int .i64 k ∧ k ≤ NN ∧ Hid (KKt wr base { s with k := Kn.adK k3 (LC.take k) (hd0 : Int) } ∧ KF s w { s with k := Kn.adK k3 (LC.take k) (hd0 : Int) } wr ∧ ∀ b, b ≠ kb → wr.heap[b]? = w4.heap[b]?)) (fun _ i _ => NN - (intOf i).toNat)
  case atStart => exact ⟨0, rfl, by omega, Hid.intro ⟨S4.out.1, S4.out.2.1, fun _ _ => rfl⟩⟩
  case round =>
    obtain ⟨k, rfl, hk, R⟩ := hrel
    by_cases hlt : k < NN
    · have hltI : (k : Int) < NN := by omega
      have hkL : k < LC.length := by rw [HN.out]; exact hlt
      obtain ⟨m, hm⟩ : ∃ m, LC[k]? = some m := ⟨_, List.getElem?_eq_getElem hkL⟩
      have m20 : m < 20 := LP.out.1 m (List.mem_of_getElem? hm)
      have m20I : (m : Int) < 20 := by omega
      obtain ⟨gg, cap, hv, hg, hc⟩ := LL.out k hkL
      rw [HV1.out] at hv
      cases hv
      have cm : wr.cell? ⟨gg, k, none⟩ = some (.int .i64 (m : Int)) := by
        rw [show wr.cell? ⟨gg, k, none⟩ = w4.cell? ⟨gg, k, none⟩ from World.cell?_of_block (R.out.2.2 gg hg), hc]
        simp [List.getD_eq_getElem?_getD, hm]
      have cp := R.out.1.cPar m m20
      have fz := R.out.1.frozen
      rw [show ({ s with k := Kn.adK k3 (LC.take k) (hd0 : Int) } : St).A 0 = kb from HK.out] at cp fz
      generalize (({ s with k := Kn.adK k3 (LC.take k) (hd0 : Int) } : St).k.p m).par = pv at cp
      have R1 : Hid (KKt (wr.setCell ⟨kb, m * 12 + 1, none⟩ (.int .i64 (hd0 : Int))) base { s with k := Kn.adK k3 (LC.take (k + 1)) (hd0 : Int) } ∧ KF s w { s with k := Kn.adK k3 (LC.take (k + 1)) (hd0 : Int) } (wr.setCell ⟨kb, m * 12 + 1, none⟩ (.int .i64 (hd0 : Int))) ∧ ∀ b, b ≠ kb → (wr.setCell ⟨kb, m * 12 + 1, none⟩ (.int .i64 (hd0 : Int))).heap[b]? = w4.heap[b]?) := Hid.intro (by
        have q := R.out.1.setPar m20 (hd0 : Int)
        rw [show ({ s with k := Kn.adK k3 (LC.take k) (hd0 : Int) } : St).A 0 = kb from HK.out] at q
        have e := Kn.adK_step k3 (LC.take k) (hd0 : Int) m
        rw [show LC.take k ++ [m] = LC.take (k + 1) by rw [List.take_add_one, hm]; rfl] at e
        rw [← e]
        exact ⟨q.1, R.out.2.1.trans q.2, fun b hb => (setBlk _ _ _ _ hb).trans (R.out.2.2 b hb)⟩)
      clear hc hm hkL hg
      go_wp2_with fail
      go_roundw
      case rel => exact ⟨k + 1, by go_num, by omega, R1⟩
      case measure => simp [intOf]; omega
    · obtain rfl : k = NN := by omega
      have R1 : Hid (KKt wr base { s with k := Kn.adK k3 LC (hd0 : Int) } ∧ KF s w { s with k := Kn.adK k3 LC (hd0 : Int) } wr) := Hid.intro (by
        have q := R.out
        rw [← HN.out, List.take_length] at q
        exact ⟨q.1, q.2.1⟩)
      clear R S4
      have cp := R1.out.1.cPar n hn
      rw [show ({ s with k := Kn.adK k3 LC (hd0 : Int) } : St).A 0 = kb from HK.out, show (({ s with k := Kn.adK k3 LC (hd0 : Int) } : St).k.p n).par = (q : Int) from MD.out.par H.out.2.2.2.2.1 qn LC (hd0 : Int) LP.out.2] at cp
      obtain ⟨tl, htl⟩ : ∃ tl, Kn.lv (Kn.adK k3 LC (hd0 : Int)) q = tl := ⟨_, rfl⟩
      have LV := Hid.intro (klive_any base { s with k := Kn.adK k3 LC (hd0 : Int) } wr q R1.out.1 q20 tl htl)
      rw [show ({ s with k := Kn.adK k3 LC (hd0 : Int) } : St).A 0 = kb from HK.out] at LV
      have ET : Hid (∀ k', k' = Kn.kidK (Kn.adK k3 LC (hd0 : Int)) q → Kn.EndTo s.k n c z q k') := Hid.intro (fun k' e => ⟨k1, k3, S1.out.1, S3.out.2.2, by rw [HLC.out, show Sp.findN k3.sp (z : Int) 1 = hd0 from HHD.out]; exact e⟩)
      cases tl
      · have FIN := Hid.intro (ET.out _ (by unfold Kn.kidK; rw [if_neg (by rw [htl]; decide)]))
        clear htl ET
        go_wp2_with fail
        refine LV.out.mono ?_
        rintro e w5 ⟨rfl, hw⟩
        subst w5
        go_wp2_with fail
        go_end0
        exact ⟨_, rfl, FIN.out, R1.out⟩
      · have FIN := Hid.intro (ET.out _ (by unfold Kn.kidK; rw [if_pos htl]))
        have TD := MD.out.told qn q20 LC (hd0 : Int) htl H.out.2.2.2.2.2.1
        have SE := Hid.intro (ksend_kid base { s with k := Kn.adK k3 LC (hd0 : Int) } wr q R1.out.1 q20 TD.1 TD.2)
        rw [show ({ s with k := Kn.adK k3 LC (hd0 : Int) } : St).A 0 = kb from HK.out] at SE
        clear htl ET TD
        go_wp2_with fail
        refine LV.out.mono ?_
        rintro e w5 ⟨rfl, hw⟩
        subst w5
        go_wp2_with fail
        refine SE.out.mono ?_
        rintro e w5 ⟨rfl, ka, kf⟩
        have S5 : Hid (KKt w5 base { s with k := Kn.senK (Kn.adK k3 LC (hd0 : Int)) q 3 } ∧ KF s w { s with k := Kn.senK (Kn.adK k3 LC (hd0 : Int)) q 3 } w5) := Hid.intro ⟨ka, R1.out.2.trans kf⟩
        clear ka kf
        go_wp2_with fail
        go_end0
        exact ⟨_, rfl, FIN.out, S5.out⟩
end Go.Proofs.YtghogbngmcolmaaGreat
namespace Go.Proofs.YtghogbngmcolmaaGreat
open Go.RowKit
open Tr (Fo Nd)
open Mo (Wh Mt)
open Mv (Me Bk)
open Kn (Pr Kp St us KB KJ VI EI)
def Kn.selN (k : Kp) (z : Int) : Nat := if Kn.actE k z = 0 then Sp.pidN k.sp z (Sp.inN k.sp z : Nat) else 0
def Kn.seeE (k : Kp) (z p : Int) : Int := if Kn.actE k z = 0 then (if Sp.findE k.sp (Sp.inN k.sp z : Nat) p = 0 then (if Kn.lv k (Sp.findN k.sp (Sp.inN k.sp z : Nat) p) = true then 0 else 8) else Sp.findE k.sp (Sp.inN k.sp z : Nat) p) else Kn.actE k z
def Kn.seeN (k : Kp) (z p : Int) : Nat := if Kn.seeE k z p = 0 then Sp.findN k.sp (Sp.inN k.sp z : Nat) p else 0
section
variable (base : Nat) (s : St) (w : World)
set_option maxRecDepth 100000 in
set_option maxHeartbeats 400000 in
theorem kself_any (z : Int) (h : KKt w base s) (h0 : ∀ n, n < 6 → s.k.sp.who n 0 = 0) :
    Calls Tryz.prog 14 #[.pointer (some ⟨s.A 0, 0, none⟩), .int .i64 z] w fun e w' => e = .returned (.tuple #[.int .i64 (Kn.selN s.k z : Int), errV (Kn.actE s.k z)]) ∧ w' = w := by
  have AC := Hid.intro (kacting_any base s w z h)
  by_cases c : Kn.actE s.k z = 0
  · have E : Kn.selN s.k z = Sp.pidN s.k.sp z (Sp.inN s.k.sp z : Nat) := if_pos c
    have SP := Hid.intro (kspace_any base s w z h)
    have PI := Hid.intro (kpid_any base s w z (Sp.inN s.k.sp z : Nat) h h0)
    rw [c, errV_zero] at AC
    rw [E, c, errV_zero]
    clear h h0 c E
    generalize aptE (s.A 0) z 0 = ap at *
    generalize s.A 0 = kb at *
    generalize Sp.pidN s.k.sp z (Sp.inN s.k.sp z : Nat) = pp at *
    generalize Sp.inN s.k.sp z = ss at *
    go_enter Tryz.func14, Tryz.ntmps14
    go_wp2_with fail
    refine AC.out.mono ?_
    rintro e w1 ⟨rfl, hw⟩
    subst w1
    go_wp2_with fail
    refine SP.out.mono ?_
    rintro e w1 ⟨rfl, hw⟩
    subst w1
    go_wp2_with fail
    refine PI.out.mono ?_
    rintro e w1 ⟨rfl, hw⟩
    subst w1
    go_wp2_with fail
    go_ret2
    exact ⟨rfl, rfl⟩
  · have E : Kn.selN s.k z = 0 := if_neg c
    rw [errV_ne c] at AC
    rw [E, errV_ne c]
    clear h h0 E c
    generalize aptE (s.A 0) z (Kn.actE s.k z) = ap at *
    generalize Kn.actE s.k z = ae at *
    generalize s.A 0 = kb at *
    go_enter Tryz.func14, Tryz.ntmps14
    go_wp2_with fail
    refine AC.out.mono ?_
    rintro e w1 ⟨rfl, hw⟩
    subst w1
    go_wp2_with fail
    go_ret2
    exact ⟨rfl, rfl⟩
theorem Kn.find_lt {t : Sp.T} (hw : ∀ z p, z < 6 → p < 21 → t.who z p ≤ 20) (z p : Int) : Sp.findN t z p < 20 := by
  unfold Sp.findN
  by_cases c : Sp.findE t z p = 0
  · rw [if_pos c]
    unfold Sp.findE at c
    by_cases i : Sp.isE t z = 0
    · rw [if_pos i] at c
      by_cases j : p < 1 ∨ 20 < p ∨ t.who z.toNat p.toNat = 0
      · rw [if_pos j] at c; omega
      · have z6 : z.toNat < 6 := by
          unfold Sp.isE at i
          split at i
          · omega
          · omega
        have := hw z.toNat p.toNat z6 (by omega)
        omega
    · rw [if_neg i] at c; exact absurd c i
  · rw [if_neg c]; omega
set_option maxRecDepth 100000 in
set_option maxHeartbeats 400000 in
theorem ksee_any (z p : Int) (h : KKt w base s) (hw : ∀ z p, z < 6 → p < 21 → s.k.sp.who z p ≤ 20) :
    Calls Tryz.prog 15 #[.pointer (some ⟨s.A 0, 0, none⟩), .int .i64 z, .int .i64 p] w fun e w' => e = .returned (.tuple #[.int .i64 (Kn.seeN s.k z p : Int), errV (Kn.seeE s.k z p)]) ∧ Below w.heap.size w w' := by
  have AC := Hid.intro (kacting_any base s w z h)
  by_cases c : Kn.actE s.k z = 0
  · have SP := Hid.intro (fun q => kspace_any base s (w.drewN q) z (h.drewN q))
    have FI := Hid.intro (fun q => find_any (s.A 1) (Sp.inN s.k.sp z : Nat) p s.k.sp (w.drewN q) (h.drewN q).sp)
    have c6 := h.cSp
    have lt := Kn.find_lt hw (Sp.inN s.k.sp z : Nat) p
    have LV := Hid.intro (fun q v hv => klive_any base s (w.drewN q) (Sp.findN s.k.sp (Sp.inN s.k.sp z : Nat) p) (h.drewN q) lt v hv)
    rw [c, errV_zero] at AC
    generalize aptE (s.A 0) z 0 = ap at *
    by_cases f : Sp.findE s.k.sp (Sp.inN s.k.sp z : Nat) p = 0
    · rw [f, errV_zero] at FI
      obtain ⟨v, hv⟩ : ∃ v, Kn.lv s.k (Sp.findN s.k.sp (Sp.inN s.k.sp z : Nat) p) = v := ⟨_, rfl⟩
      have LV2 := Hid.intro (fun q => LV.out q v hv)
      have E1 : Kn.seeE s.k z p = if v = true then 0 else 8 := by unfold Kn.seeE; rw [if_pos c, if_pos f, hv]
      have E2 : Kn.seeN s.k z p = if v = true then Sp.findN s.k.sp (Sp.inN s.k.sp z : Nat) p else 0 := by
        unfold Kn.seeN; rw [E1]
        cases v <;> rfl
      rw [E1, E2]
      clear h hw c f hv E1 E2 LV
      generalize s.A 0 = kb at *
      generalize s.A 1 = sb at *
      generalize Sp.findN s.k.sp (Sp.inN s.k.sp z : Nat) p = ff at *
      generalize Sp.inN s.k.sp z = ss at *
      have ltI : (ff : Int) < 20 := by omega
      go_enter Tryz.func15, Tryz.ntmps15
      go_wp2_with fail
      refine AC.out.mono ?_
      rintro e w1 ⟨rfl, hw⟩
      subst w1
      go_wp2_with fail
      go_quiet ((first | (go_at_call 37; exact Calls.quiet_of_same (SP.out _)) | (go_at_call 46; exact Calls.quiet_of_same (FI.out _))))
      go_wp2_with fail
      refine (LV2.out _).mono ?_
      rintro e w1 ⟨rfl, hw⟩
      subst w1
      cases v
      · go_wp2_with fail
        go_ret2
        exact ⟨rfl, below_drewN (Below.refl _ _) _⟩
      · go_wp2_with fail
        go_ret2
        exact ⟨rfl, below_drewN (Below.refl _ _) _⟩
    · have E1 : Kn.seeE s.k z p = Sp.findE s.k.sp (Sp.inN s.k.sp z : Nat) p := by unfold Kn.seeE; rw [if_pos c, if_neg f]
      have E2 : Kn.seeN s.k z p = 0 := by unfold Kn.seeN; rw [E1, if_neg f]
      rw [errV_ne f] at FI
      rw [E1, E2, errV_ne f]
      clear h hw c f E1 E2 LV
      generalize s.A 0 = kb at *
      generalize s.A 1 = sb at *
      generalize Sp.findN s.k.sp (Sp.inN s.k.sp z : Nat) p = ff at *
      generalize Sp.findE s.k.sp (Sp.inN s.k.sp z : Nat) p = fe at *
      generalize Sp.inN s.k.sp z = ss at *
      go_enter Tryz.func15, Tryz.ntmps15
      go_wp2_with fail
      refine AC.out.mono ?_
      rintro e w1 ⟨rfl, hw⟩
      subst w1
      go_wp2_with fail
      go_quiet ((first | (go_at_call 37; exact Calls.quiet_of_same (SP.out _)) | (go_at_call 46; exact Calls.quiet_of_same (FI.out _))))
      go_wp2_with fail
      go_ret2
      exact ⟨rfl, below_drewN (Below.refl _ _) _⟩
  · have E1 : Kn.seeE s.k z p = Kn.actE s.k z := if_neg c
    have E2 : Kn.seeN s.k z p = 0 := by unfold Kn.seeN; rw [E1, if_neg c]
    rw [errV_ne c] at AC
    rw [E1, E2, errV_ne c]
    clear h hw E1 E2 c
    generalize aptE (s.A 0) z (Kn.actE s.k z) = ap at *
    generalize Kn.actE s.k z = ae at *
    generalize s.A 0 = kb at *
    go_enter Tryz.func15, Tryz.ntmps15
    go_wp2_with fail
    refine AC.out.mono ?_
    rintro e w1 ⟨rfl, hw⟩
    subst w1
    go_wp2_with fail
    go_ret2
    exact ⟨rfl, Below.refl _ _⟩
end
end Go.Proofs.YtghogbngmcolmaaGreat
namespace Go.Proofs.YtghogbngmcolmaaGreat
open Go.RowKit
open Tr (Fo Nd)
open Mo (Wh Mt)
open Mv (Me Bk)
open Kn (Pr Kp St us KB KJ VI EI)
structure Kn.KI (N : Nat) (d : Nat → Nat) (k : Kp) : Prop where
  vi : VI (fun _ => False) N d k
  fi : ∀ m, m < 20 → Kn.lv k m = true → Kn.hd k m ≠ m → Sg.FirTo (k.p m).box 0 0
  pr : ∀ m, m < 20 → m ≠ 0 → (k.p m).st ≠ 0 → ∃ q, q < 20 ∧ q ≠ m ∧ (k.p m).par = (q : Int)
  h0 : Kn.hd k 0 = 0
def Kn.exiE (k : Kp) (z c : Int) : Int := if Kn.actE k z = 0 then (if c < 0 ∨ 255 < c then 1 else if z = 0 then 8 else 0) else Kn.actE k z
def Kn.ExiTo (k : Kp) (z c : Int) (k' : Kp) : Prop := (Kn.exiE k z c ≠ 0 ∧ k' = k) ∨ (Kn.exiE k z c = 0 ∧ ∃ n y q, z = (n : Nat) ∧ n < 20 ∧ n ≠ 0 ∧ Kn.lv k n = true ∧ k.sp.of n = y + 1 ∧ q < 20 ∧ q ≠ n ∧ (k.p n).par = (q : Nat) ∧ Kn.EndTo k n c y q k')
section
variable (base N : Nat) (d : Nat → Nat) (s : St) (w : World)
set_option maxRecDepth 100000 in
set_option maxHeartbeats 1000000 in
theorem kexit_any (hN : N ≤ 900) (z c : Int) (h : KKt w base s) (hi : Kn.KI N d s.k) :
    Calls Tryz.prog 10 #[.pointer (some ⟨s.A 0, 0, none⟩), .int .i64 z, .int .i64 c] w fun e w' => ∃ k', e = .returned (errV (Kn.exiE s.k z c)) ∧ Kn.ExiTo s.k z c k' ∧ KKt w' base { s with k := k' } ∧ KF s w { s with k := k' } w' := by
  have AC := Hid.intro (kacting_any base s w z h)
  have H := Hid.intro (And.intro h hi)
  by_cases a : Kn.actE s.k z = 0
  · obtain ⟨n, rfl, hn, hl⟩ := Kn.actE_ok a
    rw [a, errV_zero] at AC
    generalize aptE (s.A 0) (n : Int) 0 = ap at *
    by_cases b : c < 0 ∨ 255 < c
    · have E : Kn.exiE s.k (n : Int) c = 1 := by unfold Kn.exiE; rw [if_pos a, if_pos b]
      have FIN : Hid (Kn.ExiTo s.k (n : Int) c s.k) := Hid.intro (.inl ⟨by rw [E]; decide, rfl⟩)
      rw [E]
      clear h hi a E
      generalize s.A 0 = kb at *
      by_cases b1 : c < 0
      · clear b
        go_enter Tryz.func10, Tryz.ntmps10
        go_wp2_with fail
        refine AC.out.mono ?_
        rintro e w1 ⟨rfl, hw⟩
        subst w1
        go_wp2_with fail
        go_ret
        exact ⟨s.k, rfl, FIN.out, H.out.1, KF.refl _ _⟩
      · have b2 : 255 < c := by omega
        clear b
        go_enter Tryz.func10, Tryz.ntmps10
        go_wp2_with fail
        refine AC.out.mono ?_
        rintro e w1 ⟨rfl, hw⟩
        subst w1
        go_wp2_with fail
        go_ret
        exact ⟨s.k, rfl, FIN.out, H.out.1, KF.refl _ _⟩
    · have b1 : ¬ c < 0 := by omega
      have b2 : ¬ 255 < c := by omega
      by_cases n0 : n = 0
      · subst n0
        have E : Kn.exiE s.k ((0 : Nat) : Int) c = 8 := by unfold Kn.exiE; rw [if_pos a, if_neg b]; rfl
        have FIN : Hid (Kn.ExiTo s.k ((0 : Nat) : Int) c s.k) := Hid.intro (.inl ⟨by rw [E]; decide, rfl⟩)
        rw [E]
        clear h hi a E b hl
        generalize s.A 0 = kb at *
        go_enter Tryz.func10, Tryz.ntmps10
        go_wp2_with fail
        refine AC.out.mono ?_
        rintro e w1 ⟨rfl, hw⟩
        subst w1
        go_wp2_with fail
        go_ret
        exact ⟨s.k, rfl, FIN.out, H.out.1, KF.refl _ _⟩
      · have E : Kn.exiE s.k (n : Int) c = 0 := by unfold Kn.exiE; rw [if_pos a, if_neg b, if_neg (by omega)]
        have st0 : (s.k.p n).st ≠ 0 := by
          have : decide ((s.k.p n).st = 1) = true := hl
          have : (s.k.p n).st = 1 := by simpa using this
          omega
        obtain ⟨q, q20, qn, hp⟩ := hi.pr n hn n0 st0
        obtain ⟨y, hy⟩ : ∃ y, s.k.sp.of n = y + 1 := ⟨s.k.sp.of n - 1, by have := (hi.vi.kj.of n hn).2 st0; omega⟩
        have EN := Hid.intro (kend_any base N d hN s w n y q c h hi.vi hn n0 hl hy q20 qn hp (fun m hm _ => hi.fi m hm))
        have FIN : Hid (∀ k', Kn.EndTo s.k n c y q k' → Kn.ExiTo s.k (n : Int) c k') := Hid.intro (fun k' e => .inr ⟨E, n, y, q, rfl, hn, n0, hl, hy, q20, qn, hp, e⟩)
        rw [E, errV_zero]
        have nI : ((n : Int) == 0) = false := by simpa using n0
        have nI2 : ¬ (n : Int) = 0 := by omega
        clear h hi a E b hl st0 hp hy
        generalize s.A 0 = kb at *
        go_enter Tryz.func10, Tryz.ntmps10
        go_wp2_with fail
        refine AC.out.mono ?_
        rintro e w1 ⟨rfl, hw⟩
        subst w1
        go_wp2_with fail
        refine EN.out.mono ?_
        rintro e w1 ⟨k', rfl, et, ka, kf⟩
        have S1 : Hid (Kn.ExiTo s.k (n : Int) c k' ∧ KKt w1 base { s with k := k' } ∧ KF s w { s with k := k' } w1) := Hid.intro ⟨FIN.out k' et, ka, kf⟩
        clear et ka kf
        go_wp2_with fail
        go_ret
        exact ⟨k', rfl, S1.out⟩
  · have E : Kn.exiE s.k z c = Kn.actE s.k z := if_neg a
    have FIN : Hid (Kn.ExiTo s.k z c s.k) := Hid.intro (.inl ⟨by rw [E]; exact a, rfl⟩)
    rw [errV_ne a] at AC
    rw [E, errV_ne a]
    clear h hi E a
    generalize aptE (s.A 0) z (Kn.actE s.k z) = ap at *
    generalize Kn.actE s.k z = ae at *
    generalize s.A 0 = kb at *
    go_enter Tryz.func10, Tryz.ntmps10
    go_wp2_with fail
    refine AC.out.mono ?_
    rintro e w1 ⟨rfl, hw⟩
    subst w1
    go_wp2_with fail
    go_ret
    exact ⟨s.k, rfl, FIN.out, H.out.1, KF.refl _ _⟩
end
end Go.Proofs.YtghogbngmcolmaaGreat

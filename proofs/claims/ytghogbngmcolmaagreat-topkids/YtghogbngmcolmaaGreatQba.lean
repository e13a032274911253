import Derived.Test.YtghogbngmcolmaaGreatQay
import Derived.Test.YtghogbngmcolmaaGreatQaz
namespace Go.Proofs.YtghogbngmcolmaaGreat.Fa
open Go.RowKit
open Hp (Q)
open Fr (Un M)
theorem Fair.ran {w : World} {b : Nat} {m : M} (h : Fair w b m) {n : Nat} (hn : n < 20) : w.cell? ⟨b, 2101 + n * 2 + 1, none⟩ = some (.int .i64 ((m.u (10 + n)).ran : Int)) := by
  obtain ⟨qs, hS, _⟩ := h; exact hS.cRan n hn
theorem Fair.frozen {w : World} {b : Nat} {m : M} (h : Fair w b m) (o : Nat) : w.frozen? ⟨b, o, none⟩ = false := by
  obtain ⟨qs, hS, _⟩ := h; exact hS.frozen o
theorem Fair.setRan {w : World} {b : Nat} {m : M} (h : Fair w b m) (n k : Nat) (hn : n < 20) : Fair (w.setCell ⟨b, 2101 + n * 2 + 1, none⟩ (.int .i64 (k : Int))) b (m.set (10 + n) { m.u (10 + n) with ran := k }) := by
  obtain ⟨qs, hS, hC⟩ := h; exact ⟨qs, hS.setRan n k hn, hC.set rfl rfl rfl (.inl rfl)⟩
theorem Fair.drew {w : World} {b : Nat} {m : M} (h : Fair w b m) : Fair w.drew b m := by obtain ⟨qs, h1, h2⟩ := h; exact ⟨qs, h1.drew, h2⟩
theorem InG.ranUp {m : M} {u g : Nat} (h : InG m u g) (v : Nat) : InG (Fr.ranUp m v) u g :=
  ⟨h.pos, h.lt, by rw [(Fr.ranUp_here m v u).1]; exact h.here, h.glt, by rw [(Fr.ranUp_here m v u).2.1]; exact h.inn⟩
structure RunI (w : World) (b : Nat) (m : M) (t : Nat) (rk : Nat → Nat) (R : Nat) (W : World) (v : Nat) (mi : M) : Prop where
  fair : Fair W b (Fr.ranUp mi v)
  frm : Frm b w W
  going : Fr.Going mi rk R v
  now : mi.now = m.now
  pays : ∀ m', Fr.Pays mi v m' → Fr.Pays m t m'
set_option maxRecDepth 100000 in
set_option maxHeartbeats 1000000 in
theorem run_any (b n : Nat) (m : M) (w : World) (h : Fair w b m) (rk : Nat → Nat) (R : Nat) (hG : Fr.Going m rk R (10 + n)) (hn : n < 20) (hnow : m.now ≤ 1000000) :
    Calls Tryz.prog 106 #[.pointer (some ⟨b, 0, none⟩), .int .i64 n] w fun e w' => e = .returned (.tuple #[]) ∧ ∃ m', Fr.Pays m (10 + n) m' ∧ Fair w' b m' ∧ Frm b w w' := by
  have c1 := h.ran hn
  have cf := h.frozen
  have hnI : (n : Int) < 20 := by omega
  have hr := (hG.inv.tm (10 + n) (by omega)).2.2.2
  obtain ⟨r, hr'⟩ : ∃ r, (m.u (10 + n)).ran = r := ⟨_, rfl⟩
  rw [hr'] at c1 hr
  have hrb : r ≤ 1000000 := by omega
  have HRn : Hid ((m.u (10 + n)).ran = r) := hr'
  have HF : Hid (Fair w b m) := h
  have HG : Hid (Fr.Going m rk R (10 + n)) := hG
  have HN : Hid (m.now ≤ 1000000) := hnow
  clear h hG hr hr'
  go_enter Tryz.func106, Tryz.ntmps106
  go_wp2
  go_region
  go_wp2_with fail
  have H0 : Hid (RunI w b m (10 + n) rk R (w.setCell ⟨b, 2101 + n * 2 + 1, none⟩ (.int .i64 ((r : Int) + 1))).drew (10 + n) m) := Hid.intro
    ⟨by
      have := (HF.out.setRan n (r + 1) hn).drew
      unfold Fr.ranUp
      rw [if_pos (by omega), HRn.out]
      exact this, ((Frm.refl b w).setCell _ _).drew, HG.out, rfl, fun _ k => k⟩
  clear c1 cf
  generalize (w.setCell ⟨b, 2101 + n * 2 + 1, none⟩ (.int .i64 ((r : Int) + 1))).drew = W0 at *
  go_loopw [4] (fun i wr => ∃ (v : Nat) (mi : M), i = .int .i64 v ∧ v < 30 ∧ Hid (RunI w b m (10 + n) rk R wr v mi)) (fun i _ => rk (intOf i).toNat)
  case atStart => exact ⟨10 + n, m, by go_num, by omega, H0⟩
  case round =>
    clear H0
    obtain ⟨v, mi, rfl, hv, H⟩ := hrel
    by_cases h0 : v = 0
    · subst h0
      go_wp2
      go_end0
      exact ⟨rfl, mi, H.out.pays mi (.root mi), H.out.fair, H.out.frm⟩
    · have k0 : ((v : Int) != 0) = true := by rw [bne_iff_ne]; omega
      have HX : Hid (InG mi v (Fr.grp mi v)) := InG.of H.out.going.inv (by omega) hv (H.out.going.facts (by omega)).1
      go_wp2_with fail
      refine (pay_any b v (Fr.grp mi v) (Fr.ranUp mi v) _ H.out.fair (H.out.going.ranUp (by omega)) (HX.out.ranUp v) (by rw [(Fr.ranUp_here mi v v).2.2.1]; exact (H.out.going.facts (by omega)).2.1) (by rw [Fr.ranUp_now, H.out.now]; exact HN.out)).mono ?_
      rintro e w1 ⟨rfl, f1, r1⟩
      have H1 : Hid (RunI w b m (10 + n) rk R w1 (Fr.grp mi v) (Fr.payR mi v)) := Hid.intro
        ⟨by
          have e : Fr.ranUp (Fr.payR mi v) (Fr.grp mi v) = Fr.payR mi v := by unfold Fr.ranUp; rw [if_neg (by have := HX.out.glt; omega)]
          rw [e]; exact f1, H.out.frm.trans r1, H.out.going.next (by omega), by rw [Fr.payR_now]; exact H.out.now, fun m' k => H.out.pays m' (.up h0 k)⟩
      have c1 : w1.cell? ⟨b, 1 + v * 4 + 1, none⟩ = some (.int .i64 (Fr.grp mi v : Int)) := f1.in_ ⟨HX.out.pos, HX.out.lt, by rw [Fr.payC_here, (Fr.ranUp_here mi v v).1]; exact HX.out.here, HX.out.glt, by rw [Fr.payC_inn, (Fr.ranUp_here mi v v).2.1]; exact HX.out.inn⟩
      have hvI : (v : Int) < 30 := by omega
      have HM : Hid (rk (Fr.grp mi v) < rk v) := (H.out.going.facts (by omega)).2.2.2.2.1
      clear f1 r1
      go_wp2_with fail
      go_roundw
      case rel => exact ⟨_, _, rfl, by have := HX.out.glt; omega, H1⟩
      case measure => simp [intOf]; exact HM.out
theorem first_any (b g : Nat) (m : M) (qs : Nat → Q) (w : World) (hS : SAt w b m qs) (hC : Cpl m qs) (hg : g < 10) (hk : Fr.hasKid m g = true) :
    Calls Tryz.prog 138 #[.pointer (some ⟨b, 121 + g * 198, none⟩)] w fun e w' => ∃ (j : Nat) (k : Int), e = .returned (.tuple #[.int .i64 j, .int .u64 k, .bool true]) ∧ (∃ n, w' = w.drewN n) ∧ Fr.Best m g j := by
  have hm := hC.many g hg
  rw [hk, decide_eq_true_eq] at hm
  refine (first_some b _ (qs g) w ⟨hS.at_ g hg, (hC.ok g hg).1, (hC.ok g hg).2⟩ hm).mono ?_
  rintro e w' ⟨j, rfl, hw, hj, hp, hl⟩
  have kj := (hC.has g j hg hj).1 hp
  refine ⟨j, _, rfl, hw, kj.1, kj.2, fun i hi ki => ?_⟩
  have := hl i (by omega) ((hC.has g i hg (by omega)).2 ⟨hi, ki⟩)
  unfold Hp.ah at this
  rw [hC.key g i hg hi ki, hC.key g j hg kj.1 kj.2] at this
  omega
end Go.Proofs.YtghogbngmcolmaaGreat.Fa
namespace Go.Proofs.YtghogbngmcolmaaGreat.Fa
open Go.RowKit
open Hp (Q)
open Fr (Un M)
def pickI : Option Nat → Int
  | none => -1
  | some t => (t : Int) - 10
structure NextI (w : World) (m : M) (W : World) (v : Nat) : Prop where
  world : ∃ n, W = w.drewN n
  lt : v < 30
  pick : ∀ r, Fr.Pick m v r → Fr.Pick m 0 r
set_option maxRecDepth 100000 in
set_option maxHeartbeats 1000000 in
theorem next_any (b : Nat) (m : M) (w : World) (h : Fair w b m) (hI : Fr.Inv m) :
    Calls Tryz.prog 105 #[.pointer (some ⟨b, 0, none⟩)] w fun e w' => ∃ r, e = .returned (.int .i64 (pickI r)) ∧ Fr.Pick m 0 r ∧ ∃ n, w' = w.drewN n := by
  obtain ⟨rk, R, hR⟩ := hI.tree
  obtain ⟨qs, hS, hC⟩ := h
  have H0 : Hid (NextI w m w 0) := ⟨⟨0, rfl⟩, by omega, fun _ k => k⟩
  have HS : Hid (SAt w b m qs) := hS
  have HC : Hid (Cpl m qs) := hC
  have HI : Hid (Fr.Inv m) := hI
  have HR : Hid (Fr.Rank m rk R) := hR
  clear hS hC hI hR
  go_enter Tryz.func105, Tryz.ntmps105
  go_wp2_with fail
  go_loopw [3] (fun i wr => ∃ (v : Nat), i = .int .i64 v ∧ v < 30 ∧ Hid (NextI w m wr v)) (fun i _ => R - rk (intOf i).toNat)
  case atStart => exact ⟨0, rfl, by omega, H0⟩
  case round =>
    clear H0
    obtain ⟨v, rfl, hv, H⟩ := hrel
    by_cases h10 : v < 10
    · have k0 : (v : Int) < 10 := by omega
      have HS2 : Hid (SAt wr b m qs) := Hid.intro (by obtain ⟨n, hn⟩ := H.out.world; rw [hn]; exact HS.out.drewN n)
      cases hk : Fr.hasKid m v
      · have HK : Hid (Fr.hasKid m v = false) := hk
        have hm : Hid ((qs v).many = 0) := Hid.intro (by
          have := HC.out.many v h10
          rw [hk, decide_eq_false_iff_not] at this
          omega)
        clear hk
        go_wp2_with fail
        refine (first_none b _ (qs v) _ (HS2.out.at_ v h10) hm.out).mono ?_
        rintro e w1 ⟨rfl, rfl⟩
        go_wp2_with fail
        go_ret
        exact ⟨none, rfl, H.out.pick _ (.none h10 HK.out), H.out.world⟩
      · have HK : Hid (Fr.hasKid m v = true) := hk
        clear hk
        go_wp2_with fail
        refine (first_any b v m qs _ HS2.out HC.out h10 HK.out).mono ?_
        rintro e w1 ⟨j, k, rfl, hw1, hB⟩
        have HX : Hid (NextI w m w1 j ∧ rk v < rk j ∧ rk j ≤ R ∧ rk v ≤ R) := Hid.intro (by
          obtain ⟨n, hn⟩ := H.out.world
          obtain ⟨n1, hn1⟩ := hw1
          have kb := Fr.kidB_iff.1 hB.kid
          obtain ⟨g, h1, h2, h3, h4⟩ := HR.out.up j kb.1 hB.lt kb.2.1
          have e : g = v := by have := kb.2.2.1; omega
          subst e
          exact ⟨⟨⟨n + n1, by rw [hn1, hn, World.drewN_drewN]⟩, hB.lt, fun r p => H.out.pick r (.down h10 hB p)⟩, h4, HR.out.le j hB.lt, HR.out.le g (by omega)⟩)
        have hj : j < 30 := hB.lt
        clear hw1 hB
        go_wp2_with fail
        go_roundw
        case rel => exact ⟨j, rfl, hj, HX.out.1⟩
        case measure => have := HX.out.2; simp [intOf]; omega
    · have k0 : ¬ (v : Int) < 10 := by omega
      go_wp2_with fail
      go_ret
      exact ⟨some v, rfl, H.out.pick _ (.task (by omega)), H.out.world⟩
structure RenI (w : World) (b : Nat) (m : M) (W : World) (k : Nat) (mi : M) : Prop where
  fair : Fair W b mi
  frm : Frm b w W
  inv : Fr.Inv mi
  now : mi.now = m.now
  ren : ∀ m', Fr.Renew mi k m' → Fr.Renew m 0 m'
theorem Fair.cNow {w : World} {b : Nat} {m : M} (h : Fair w b m) : w.cell? ⟨b, 0, none⟩ = some (.int .i64 (m.now : Int)) := by obtain ⟨qs, hS, _⟩ := h; exact hS.now
theorem Fair.cQuota {w : World} {b : Nat} {m : M} (h : Fair w b m) (g : Nat) (hg : g < 10) : w.cell? ⟨b, 121 + g * 198 + 195, none⟩ = some (.int .i64 ((m.u g).quota : Int)) := by obtain ⟨qs, hS, _⟩ := h; exact hS.cQuota g hg
theorem Fair.cPeriod {w : World} {b : Nat} {m : M} (h : Fair w b m) (g : Nat) (hg : g < 10) : w.cell? ⟨b, 121 + g * 198 + 196, none⟩ = some (.int .i64 ((m.u g).period : Int)) := by obtain ⟨qs, hS, _⟩ := h; exact hS.cPeriod g hg
theorem Fair.cUsed {w : World} {b : Nat} {m : M} (h : Fair w b m) (g : Nat) (hg : g < 10) : w.cell? ⟨b, 121 + g * 198 + 197, none⟩ = some (.int .i64 ((m.u g).used : Int)) := by obtain ⟨qs, hS, _⟩ := h; exact hS.cUsed g hg
theorem Fair.setUsed {w : World} {b : Nat} {m : M} (h : Fair w b m) (g n : Nat) (hg : g < 10) : Fair (w.setCell ⟨b, 121 + g * 198 + 197, none⟩ (.int .i64 (n : Int))) b (m.set g { m.u g with used := n }) := by
  obtain ⟨qs, hS, hC⟩ := h; exact ⟨qs, hS.setUsed g n hg, hC.set rfl rfl rfl (.inl rfl)⟩
theorem Fair.setNow {w : World} {b : Nat} {m : M} (h : Fair w b m) (n : Nat) : Fair (w.setCell ⟨b, 0, none⟩ (.int .i64 (n : Int))) b { m with now := n } := by
  obtain ⟨qs, hS, hC⟩ := h; exact ⟨qs, hS.setNow n, hC.turn (fun _ _ _ _ => rfl) (fun _ _ _ _ _ => rfl)⟩
set_option maxRecDepth 100000 in
set_option maxHeartbeats 1000000 in
theorem renew_any (b : Nat) (m : M) (w : World) (h : Fair w b m) (hI : Fr.Inv m) (hn : m.now ≤ 1000000) :
    Calls Tryz.prog 104 #[.pointer (some ⟨b, 0, none⟩)] w fun e w' => e = .returned (.tuple #[]) ∧ ∃ m', Fr.Renew m 0 m' ∧ Fair w' b m' ∧ Frm b w w' := by
  have H0 : Hid (RenI w b m w 0 m) := ⟨h, Frm.refl b w, hI, rfl, fun _ k => k⟩
  obtain ⟨N, hN⟩ : ∃ N, m.now = N := ⟨_, rfl⟩
  rw [hN] at hn
  have HN : Hid (m.now = N) := hN
  clear h hI hN
  go_enter Tryz.func104, Tryz.ntmps104
  go_wp2_with fail
  go_loopw [4] (fun i wr => ∃ (k : Nat) (mi : M), i = .int .i64 k ∧ k ≤ 10 ∧ Hid (RenI w b m wr k mi)) (fun i _ => 10 - (intOf i).toNat)
  case atStart => exact ⟨0, m, rfl, by omega, H0⟩
  case round =>
    clear H0
    obtain ⟨k, mi, rfl, hk, H⟩ := hrel
    by_cases h10 : k < 10
    · have k0 : (k : Int) < 10 := by omega
      have c0 : wr.cell? ⟨b, 0, none⟩ = some (.int .i64 (N : Int)) := by rw [← HN.out, ← H.out.now]; exact H.out.fair.cNow
      have c1 := H.out.fair.cQuota k h10
      have c2 := H.out.fair.cPeriod k h10
      have c3 := H.out.fair.cUsed k h10
      have cf := H.out.fair.frozen
      have hq := H.out.inv.quo k (by omega)
      have hp := H.out.inv.per k (by omega)
      obtain ⟨qu, hQu⟩ : ∃ x, (mi.u k).quota = x := ⟨_, rfl⟩
      obtain ⟨pe, hPe⟩ : ∃ x, (mi.u k).period = x := ⟨_, rfl⟩
      obtain ⟨us, hUs⟩ : ∃ x, (mi.u k).used = x := ⟨_, rfl⟩
      rw [hQu] at c1 hq hp
      rw [hPe] at c2 hq hp
      rw [hUs] at c3
      have HQ : Hid ((mi.u k).quota = qu ∧ (mi.u k).period = pe ∧ mi.now = N) := Hid.intro ⟨hQu, hPe, H.out.now.trans HN.out⟩
      clear hQu hPe hUs
      by_cases q0 : 0 < qu
      · have q1 : decide ((0 : Int) < (qu : Int)) = true := by simp; omega
        have p0 := (hq q0).2.2
        have p1 : ((pe : Int) == 0) = false := by simp; omega
        by_cases hz : N % pe = 0
        · have z1 : (((N : Int).tmod (pe : Int)) == 0) = true := by
            rw [Int.tmod_eq_emod_of_nonneg (by omega)]; simp; omega
          have HH : Hid ((mi.u k).here = true) := Fr.here_of_quota H.out.inv (by omega) (by rw [HQ.out.1]; exact q0)
          go_wp2_with fail
          go_quiet (fail)
          go_wp2_with fail
          refine (settle_any b k (Fr.zeroU mi k) _ ((H.out.fair.drewN nq).setUsed k 0 h10) (H.out.inv.zeroU (by omega) HH.out) (by omega) (by rw [Fr.zeroU_here]; exact HH.out)).mono ?_
          rintro e w1 ⟨rfl, m1, l1, f1, r1⟩
          have H1 : Hid (RenI w b m w1 (k + 1) m1) := Hid.intro (by
            have rs : Fr.RStep mi k m1 := .inl ⟨by rw [HQ.out.1]; exact q0, by rw [HQ.out.2.1, HQ.out.2.2]; exact hz, l1⟩
            exact ⟨f1, ((H.out.frm.drewN nq).setCell _ _).trans r1, H.out.inv.rstep h10 rs, (Fr.look_here l1).1.trans H.out.now, fun m' r => H.out.ren m' (.step h10 rs r)⟩)
          clear l1 f1 r1 c0 c1 c2 c3 cf
          go_wp2_with fail
          go_roundw
          case rel => exact ⟨k + 1, m1, by go_num, by omega, H1⟩
          case measure => simp [intOf]; omega
        · have z1 : (((N : Int).tmod (pe : Int)) == 0) = false := by
            rw [Int.tmod_eq_emod_of_nonneg (by omega)]; simp; omega
          go_wp2_with fail
          go_quiet (fail)
          go_wp2_with fail
          go_roundw
          case rel => exact ⟨k + 1, mi, by go_num, by omega, ⟨H.out.fair.drewN _, H.out.frm.drewN _, H.out.inv, H.out.now, fun m' r => H.out.ren m' (.step h10 (.inr ⟨fun c => hz (by have := c.2; rw [HQ.out.2.1, HQ.out.2.2] at this; exact this), rfl⟩) r)⟩⟩
          case measure => simp [intOf]; omega
      · have q1 : decide ((0 : Int) < (qu : Int)) = false := by simp; omega
        go_wp2_with fail
        go_quiet (fail)
        go_wp2_with fail
        go_roundw
        case rel => exact ⟨k + 1, mi, by go_num, by omega, ⟨H.out.fair.drewN _, H.out.frm.drewN _, H.out.inv, H.out.now, fun m' r => H.out.ren m' (.step h10 (.inr ⟨fun c => q0 (by have := c.1; rw [HQ.out.1] at this; exact this), rfl⟩) r)⟩⟩
        case measure => simp [intOf]; omega
    · have k0 : ¬ (k : Int) < 10 := by omega
      obtain rfl : k = 10 := by omega
      go_wp2_with fail
      go_end0
      exact ⟨rfl, mi, H.out.ren mi (.done mi), H.out.fair, H.out.frm⟩
set_option maxRecDepth 100000 in
set_option maxHeartbeats 1000000 in
theorem tick_any (b : Nat) (m : M) (w : World) (h : Fair w b m) (hI : Fr.Inv m) (hn : m.now < 1000000) :
    Calls Tryz.prog 61 #[.pointer (some ⟨b, 0, none⟩)] w fun e w' => ∃ (r : Int) (m' : M), e = .returned (.int .i64 r) ∧ Fr.Tick m r m' ∧ Fair w' b m' ∧ Frm b w w' := by
  have HF : Hid (Fair w b m) := h
  have HI : Hid (Fr.Inv m) := hI
  have HN : Hid (m.now < 1000000) := hn
  clear h hI hn
  go_enter Tryz.func61, Tryz.ntmps61
  go_wp2_with fail
  refine (renew_any b m _ HF.out HI.out (by have := HN.out; omega)).mono ?_
  rintro e w1 ⟨rfl, m1, k1, f1, r1⟩
  have K1 : Hid (Fr.Renew m 0 m1) := k1
  have F1 : Hid (Fair w1 b m1) := f1
  have R1 : Hid (Frm b w w1) := r1
  have I1 : Hid (Fr.Inv m1) := Fr.Inv.renew k1 HI.out
  have c0 := f1.cNow
  have cf := f1.frozen
  have hN : m1.now < 1000000 := by rw [Fr.renew_now k1]; exact HN.out
  clear k1 f1 r1
  obtain ⟨N, hN'⟩ : ∃ N, m1.now = N := ⟨_, rfl⟩
  rw [hN'] at c0 hN
  have HN1 : Hid (m1.now = N) := hN'
  clear hN'
  go_wp2_with fail
  have FX : Hid (Fair (w1.setCell ⟨b, 0, none⟩ (.int .i64 ((N : Int) + 1))) b (Fr.up1 m1)) := Hid.intro (by have := F1.out.setNow (N + 1); unfold Fr.up1; rw [HN1.out]; exact this)
  refine (next_any b (Fr.up1 m1) _ FX.out I1.out.up1).mono ?_
  rintro e w2 ⟨r, rfl, p2, n2, hw2⟩
  have F2 : Hid (Fair w2 b (Fr.up1 m1)) := Hid.intro (by rw [hw2]; exact FX.out.drewN _)
  have R2 : Hid (Frm b w w2) := Hid.intro (by rw [hw2]; exact (R1.out.setCell _ _).drewN _)
  have P2 : Hid (Fr.Pick (Fr.up1 m1) 0 r) := p2
  clear hw2 p2 FX c0 cf
  cases r with
  | none =>
    rw [show pickI none = -1 from rfl]
    go_wp2_with fail
    go_ret
    exact ⟨-1, _, rfl, ⟨m1, K1.out, .inl ⟨P2.out, rfl, rfl⟩⟩, F2.out, R2.out⟩
  | some t =>
    obtain ⟨rk, R, hg, ht⟩ := Fr.going_of I1.out P2.out
    obtain ⟨n, rfl⟩ : ∃ n, t = 10 + n := ⟨t - 10, by omega⟩
    have hlt : n < 20 := by have := hg.lt; omega
    have HG : Hid (Fr.Going (Fr.up1 m1) rk R (10 + n)) := hg
    rw [show pickI (some (10 + n)) = (n : Int) by show ((10 + n : Nat) : Int) - 10 = n; omega]
    have z : ((n : Int) != -1) = true := by rw [bne_iff_ne]; omega
    clear hg ht
    go_wp2_with fail
    refine (run_any b n (Fr.up1 m1) _ F2.out rk R HG.out hlt (by show m1.now + 1 ≤ _; rw [HN1.out]; omega)).mono ?_
    rintro e w3 ⟨rfl, m3, k3, f3, r3⟩
    have FIN : Hid (Fr.Tick m n m3 ∧ Fair w3 b m3 ∧ Frm b w w3) := Hid.intro ⟨⟨m1, K1.out, .inr ⟨10 + n, P2.out, by omega, k3⟩⟩, f3, R2.out.trans r3⟩
    clear k3 f3 r3
    go_wp2_with fail
    go_ret
    exact ⟨n, m3, rfl, FIN.out⟩
end Go.Proofs.YtghogbngmcolmaaGreat.Fa
namespace Go.Proofs.YtghogbngmcolmaaGreat.Fa
open Go.RowKit
open Hp (Q)
open Fr (Un M)
def errV (k : Int) : Value := if k = 0 then .nilIface else .iface 60 (.int .i64 k)
theorem errV_zero : errV 0 = .nilIface := rfl
theorem errV_ne {k : Int} (h : k ≠ 0) : errV k = .iface 60 (.int .i64 k) := if_neg h
theorem Fair.cHere {w : World} {b : Nat} {m : M} (h : Fair w b m) (u : Nat) (hu : u < 30) : w.cell? ⟨b, 1 + u * 4, none⟩ = some (.bool (m.u u).here) := by obtain ⟨qs, hS, _⟩ := h; exact hS.cHere u hu
set_option maxRecDepth 100000 in
set_option maxHeartbeats 400000 in
theorem wrongGroup_any (b : Nat) (z : Int) (m : M) (w : World) (h : Fair w b m) : Calls Tryz.prog 143 #[.pointer (some ⟨b, 0, none⟩), .int .i64 z] w fun e w' => e = .returned (errV (Fr.groupE m z)) ∧ w' = w := by
  by_cases k : z < 0 ∨ 10 ≤ z
  · have e : Hid (Fr.groupE m z = 1) := Hid.intro (if_pos k)
    by_cases h0 : z < 0
    · clear h k
      go_enter Tryz.func143, Tryz.ntmps143
      go_wp2
      go_ret
      rw [e.out]; exact ⟨rfl, rfl⟩
    · have h1 : decide (z < 0) = false := by simp; omega
      have h2 : 10 ≤ z := by omega
      clear h k h0
      go_enter Tryz.func143, Tryz.ntmps143
      go_wp2
      go_ret
      rw [e.out]; exact ⟨rfl, rfl⟩
  · obtain ⟨g, rfl⟩ := Int.eq_ofNat_of_zero_le (show 0 ≤ z by omega)
    have c := h.cHere g (by omega)
    have h1 : (g : Int) < 10 := by omega
    have h2 : ¬ (10 : Int) ≤ (g : Int) := by omega
    cases hh : (m.u g).here
    · have e : Hid (Fr.groupE m g = 2) := Hid.intro (by unfold Fr.groupE; rw [if_neg k, Int.toNat_natCast, hh]; rfl)
      rw [hh] at c
      clear h k hh
      go_enter Tryz.func143, Tryz.ntmps143
      go_wp2
      go_ret
      rw [e.out]; exact ⟨rfl, rfl⟩
    · have e : Hid (Fr.groupE m g = 0) := Hid.intro (Fr.groupE_nat (by omega) hh)
      rw [hh] at c
      clear h k hh
      go_enter Tryz.func143, Tryz.ntmps143
      go_wp2
      go_ret
      rw [e.out]; exact ⟨rfl, rfl⟩
set_option maxRecDepth 100000 in
set_option maxHeartbeats 400000 in
theorem wrongTask_any (b : Nat) (z : Int) (m : M) (w : World) (h : Fair w b m) : Calls Tryz.prog 120 #[.pointer (some ⟨b, 0, none⟩), .int .i64 z] w fun e w' => e = .returned (errV (Fr.taskE m z)) ∧ w' = w := by
  by_cases k : z < 0 ∨ 20 ≤ z
  · have e : Hid (Fr.taskE m z = 1) := Hid.intro (if_pos k)
    by_cases h0 : z < 0
    · clear h k
      go_enter Tryz.func120, Tryz.ntmps120
      go_wp2
      go_ret
      rw [e.out]; exact ⟨rfl, rfl⟩
    · have h1 : decide (z < 0) = false := by simp; omega
      have h2 : 20 ≤ z := by omega
      clear h k h0
      go_enter Tryz.func120, Tryz.ntmps120
      go_wp2
      go_ret
      rw [e.out]; exact ⟨rfl, rfl⟩
  · obtain ⟨g, rfl⟩ := Int.eq_ofNat_of_zero_le (show 0 ≤ z by omega)
    have c := h.cHere (10 + g) (by omega)
    have h1 : (g : Int) < 20 := by omega
    have h2 : ¬ (20 : Int) ≤ (g : Int) := by omega
    cases hh : (m.u (10 + g)).here
    · have e : Hid (Fr.taskE m g = 2) := Hid.intro (by unfold Fr.taskE; rw [if_neg k, Int.toNat_natCast, hh]; rfl)
      rw [hh] at c
      clear h k hh
      go_enter Tryz.func120, Tryz.ntmps120
      go_wp2
      go_ret
      rw [e.out]; exact ⟨rfl, rfl⟩
    · have e : Hid (Fr.taskE m g = 0) := Hid.intro (Fr.taskE_nat (by omega) hh)
      rw [hh] at c
      clear h k hh
      go_enter Tryz.func120, Tryz.ntmps120
      go_wp2
      go_ret
      rw [e.out]; exact ⟨rfl, rfl⟩
set_option maxRecDepth 100000 in
set_option maxHeartbeats 400000 in
theorem wake_any (b : Nat) (z : Int) (on : Bool) (m : M) (w : World) (h : Fair w b m) (hI : Fr.Inv m) :
    Calls Tryz.prog 71 #[.pointer (some ⟨b, 0, none⟩), .int .i64 z, .bool on] w fun e w' => e = .returned (errV (Fr.taskE m z)) ∧ ∃ m', Fr.WakeTo m z on m' ∧ Fair w' b m' ∧ Frm b w w' := by
  have HF : Hid (Fair w b m) := h
  have HI : Hid (Fr.Inv m) := hI
  clear h hI
  by_cases k : Fr.taskE m z = 0
  · have HK : Hid (Fr.taskE m z = 0) := k
    obtain ⟨n, rfl, hn, hh⟩ := Fr.taskE_zero k
    have HH : Hid ((m.u (10 + n)).here = true) := hh
    clear k hh
    go_enter Tryz.func71, Tryz.ntmps71
    go_wp2_with fail
    refine (wrongTask_any b n m _ HF.out).mono ?_
    rintro e w1 ⟨rfl, hw⟩
    subst w1
    rw [HK.out, errV_zero]
    go_wp2_with fail
    refine (rouse_any b n on m _ HF.out HI.out hn HH.out).mono ?_
    rintro e w1 ⟨rfl, m', l1, f1, r1⟩
    have FIN : Hid (∃ m', Fr.WakeTo m n on m' ∧ Fair w1 b m' ∧ Frm b w w1) := Hid.intro ⟨m', .inl ⟨HK.out, l1⟩, f1, r1⟩
    clear l1 f1 r1
    go_wp2_with fail
    go_ret
    rw [HK.out]; exact ⟨rfl, FIN.out⟩
  · have HW := Hid.intro (errV_ne k)
    have HK : Hid (Fr.taskE m z ≠ 0) := k
    clear k
    go_enter Tryz.func71, Tryz.ntmps71
    go_wp2_with fail
    refine (wrongTask_any b z m _ HF.out).mono ?_
    rintro e w1 ⟨rfl, hw⟩
    subst w1
    rw [HW.out]
    go_wp2
    go_ret
    rw [HW.out]; exact ⟨rfl, m, .inr ⟨HK.out, rfl⟩, HF.out, Frm.refl b w⟩
end Go.Proofs.YtghogbngmcolmaaGreat.Fa
namespace Go.Proofs.YtghogbngmcolmaaGreat.Fa
open Go.RowKit
open Hp (Q)
open Fr (Un M)
theorem newUnit_any (g x : Int) (w : World) : Calls Tryz.prog 144 #[.int .i64 g, .int .u64 x] w fun e w' => e = .returned (.agg #[.bool true, .int .i64 g, .int .u64 x, .int .u64 0]) ∧ Below w.heap.size w w' := by
  go_enter Tryz.func144, Tryz.ntmps144
  go_wp2
  refine bodyPost_ret (v := .agg #[.bool true, .int .i64 g, .int .u64 x, .int .u64 0]) (by simp [results, Tryz.results144, go_sem]) rfl ⟨rfl, (Below.refl _ _).alloc (Nat.le_refl _) _⟩
theorem SAt.put4 {w : World} {b : Nat} {m : M} {qs : Nat → Q} (h : SAt w b m qs) (u g wt tm : Nat) (h0 : 0 < u) (hu : u < 30) :
    SAt ((((w.setCell ⟨b, 1 + u * 4, none⟩ (.bool true)).setCell ⟨b, 1 + u * 4 + 1, none⟩ (.int .i64 (g : Int))).setCell ⟨b, 1 + u * 4 + 2, none⟩ (.int .u64 (wt : Int))).setCell ⟨b, 1 + u * 4 + 3, none⟩ (.int .u64 (tm : Int))) b (m.set u { m.u u with here := true, inn := g, weight := wt, time := tm }) qs := by
  have := (((h.setHere u true hu).setIn u g hu).setWeight u wt h0 hu).setTime u tm hu
  simp only [Fr.set_same, Fr.set_set] at this
  exact this
theorem Cpl.fresh {m : M} {qs : Nat → Q} (h : Cpl m qs) {u : Nat} {x : Un} (h1 : (m.u u).was = false) (h2 : x.was = false) : Cpl (m.set u x) qs := by
  have e : ∀ g, Fr.kidB m g u = false := fun g => by
    cases hk : Fr.kidB m g u
    · rfl
    · have := (Fr.kidB_iff.1 hk).2.2.2; rw [h1] at this; cases this
  have e' : ∀ g, Fr.kidB (m.set u x) g u = false := fun g => by
    cases hk : Fr.kidB (m.set u x) g u
    · rfl
    · have := (Fr.kidB_iff.1 hk).2.2.2; rw [Fr.set_same, h2] at this; cases this
  refine h.turn (fun g v _ _ => ?_) (fun g v _ _ hk => ?_)
  · by_cases k : v = u
    · subst k; rw [e, e']
    · exact Fr.kid_ne k
  · have k : v ≠ u := fun k => by subst k; rw [e] at hk; cases hk
    rw [Fr.set_ne _ _ _ _ k]
set_option maxRecDepth 100000 in
set_option maxHeartbeats 1000000 in
theorem add_ok (b u g wt : Nat) (z : Int) (hz : z = u) (m : M) (w : World) (h : Fair w b m) (hI : Fr.Inv m) (h0 : 0 < u) (hu : u < 30) (hn : (m.u u).here = false) (hg : g < 10) (hh : (m.u g).here = true) (hw : 1 ≤ wt) (hw2 : wt ≤ 1000) :
    Calls Tryz.prog 119 #[.pointer (some ⟨b, 0, none⟩), .int .i64 z, .int .i64 g, .int .i64 wt] w fun e w' => e = .returned .nilIface ∧ Fair w' b (m.set u (Un.new g wt)) ∧ Frm b w w' := by
  subst hz
  have HF : Hid (Fair w b m) := h
  have HE : Hid (Fr.groupE m g = 0) := Fr.groupE_nat hg hh
  have HU : Hid (m.u u = Un.no) := hI.no u hu hn
  have c1 := h.cHere u hu
  rw [hn] at c1
  have d1 : decide ((wt : Int) < 1) = false := by simp; omega
  have d2 : ¬ (1000 : Int) < (wt : Int) := by omega
  have hlt : (u : Int) < 30 := by omega
  have HL : Hid (b < w.heap.size) := h.lt
  clear h hI hh hn
  go_enter Tryz.func119, Tryz.ntmps119
  go_wp2_with fail
  refine (wrongGroup_any b g m _ HF.out).mono ?_
  rintro e w1 ⟨rfl, hw⟩
  subst w1
  rw [HE.out, errV_zero]
  go_wp2_with fail
  go_region_held3 (fun _ => True) (trivial) ((go_at_call 144; refine (newUnit_any _ _ _).mono ?_; rintro e w2 ⟨rfl, hb2⟩; have F2 : Fair w2 b m := HF.out.drew.same (hb2.block b HL.out); have t0 := F2.cHere u hu; have ts : ∃ v1 v2 v3, w2.cell? ⟨b, 1 + u * 4 + 1, none⟩ = some v1 ∧ w2.cell? ⟨b, 1 + u * 4 + 2, none⟩ = some v2 ∧ w2.cell? ⟨b, 1 + u * 4 + 3, none⟩ = some v3 := (by obtain ⟨qs, hS, _⟩ := F2; exact ⟨_, _, _, hS.cIn u hu, hS.cWeight u h0 hu, hS.cTime u hu⟩); obtain ⟨v1, v2, v3, t1, t2, t3⟩ := ts; have cf := F2.frozen; have HF2 : Hid (Fair w2 b m) := F2; have HB2 : Hid (Frm b w w2) := Hid.intro ((Frm.refl b w).drew.trans (Frm.of_below hb2)); clear F2 hb2))
  clear t0 t1 t2 t3 cf
  go_wp2
  go_ret
  refine ⟨rfl, ?_, (((HB2.out.setCell _ _).setCell _ _).setCell _ _).setCell _ _⟩
  obtain ⟨qs, hS, hC⟩ := HF2.out
  have hP := hS.put4 u g wt 0 h0 hu
  rw [HU.out] at hP
  rw [show IntKind.u64.wrap (wt : Int) = (wt : Int) from IntWalk.u64_in _ ⟨by omega, by omega⟩]
  exact ⟨qs, hP, hC.fresh (by rw [HU.out]; rfl) rfl⟩
set_option maxRecDepth 100000 in
set_option maxHeartbeats 1000000 in
theorem add_bad (b u : Nat) (z g wt : Int) (hz : z = u) (m : M) (w : World) (h : Fair w b m) (hu : u < 30) (hE : Fr.addE m u g wt ≠ 0) :
    Calls Tryz.prog 119 #[.pointer (some ⟨b, 0, none⟩), .int .i64 z, .int .i64 g, .int .i64 wt] w fun e w' => e = .returned (errV (Fr.addE m u g wt)) ∧ w' = w := by
  subst hz
  have HF : Hid (Fair w b m) := h
  have c1 := h.cHere u hu
  have hlt : (u : Int) < 30 := by omega
  by_cases k : wt < 1 ∨ 1000 < wt
  · have e : Hid (Fr.addE m u g wt = 1) := Hid.intro (if_pos k)
    by_cases k1 : wt < 1
    · clear h hE k c1
      go_enter Tryz.func119, Tryz.ntmps119
      go_wp2
      go_ret
      rw [e.out]; exact ⟨rfl, rfl⟩
    · have d1 : decide (wt < 1) = false := by simp; omega
      have d2 : 1000 < wt := by omega
      clear h hE k c1 k1
      go_enter Tryz.func119, Tryz.ntmps119
      go_wp2
      go_ret
      rw [e.out]; exact ⟨rfl, rfl⟩
  · have d1 : decide (wt < 1) = false := by simp; omega
    have d2 : ¬ 1000 < wt := by omega
    cases hh : (m.u u).here
    · have e : Fr.addE m u g wt = Fr.groupE m g := by unfold Fr.addE; rw [if_neg k, hh]; rfl
      rw [e] at hE ⊢
      rw [hh] at c1
      have HW := Hid.intro (errV_ne hE)
      clear h hE k hh e
      go_enter Tryz.func119, Tryz.ntmps119
      go_wp2_with fail
      refine (wrongGroup_any b g m _ HF.out).mono ?_
      rintro e w1 ⟨rfl, hw⟩
      subst w1
      rw [HW.out]
      go_wp2
      go_ret
      rw [HW.out]; exact ⟨rfl, rfl⟩
    · have e : Hid (Fr.addE m u g wt = 3) := Hid.intro (by unfold Fr.addE; rw [if_neg k, hh]; rfl)
      rw [hh] at c1
      clear h hE k hh
      go_enter Tryz.func119, Tryz.ntmps119
      go_wp2
      go_ret
      rw [e.out]; exact ⟨rfl, rfl⟩
theorem add_any (b u : Nat) (z g wt : Int) (hz : z = u) (m : M) (w : World) (h : Fair w b m) (hI : Fr.Inv m) (hu : u < 30) :
    Calls Tryz.prog 119 #[.pointer (some ⟨b, 0, none⟩), .int .i64 z, .int .i64 g, .int .i64 wt] w fun e w' => e = .returned (errV (Fr.addE m u g wt)) ∧ Fair w' b (Fr.addM m (Fr.addE m u g wt) u g wt) ∧ Frm b w w' := by
  by_cases k : Fr.addE m u g wt = 0
  · obtain ⟨g', x, rfl, rfl, h1, h2, h3, h4, h5⟩ := Fr.addE_zero k
    have hu0 : u ≠ 0 := fun e => by rw [e, hI.root] at h5; cases h5
    unfold Fr.addM
    rw [if_pos k, k, Int.toNat_natCast]
    exact add_ok b u g' x z hz m w h hI (by omega) hu h5 h1 h2 h3 h4
  · unfold Fr.addM
    rw [if_neg k]
    exact (add_bad b u z g wt hz m w h hu k).mono fun _ w' ⟨h1, h2⟩ => ⟨h1, by rw [h2]; exact h, by rw [h2]; exact Frm.refl b w⟩
set_option maxRecDepth 100000 in
set_option maxHeartbeats 1000000 in
theorem addTask_any (b : Nat) (z g wt : Int) (m : M) (w : World) (h : Fair w b m) (hI : Fr.Inv m) :
    Calls Tryz.prog 70 #[.pointer (some ⟨b, 0, none⟩), .int .i64 z, .int .i64 g, .int .i64 wt] w fun e w' => e = .returned (errV (Fr.addTaskE m z g wt)) ∧ Fair w' b (Fr.addTaskM m z g wt) ∧ Frm b w w' := by
  have HF : Hid (Fair w b m) := h
  have HI : Hid (Fr.Inv m) := hI
  clear h hI
  by_cases k : z < 0 ∨ 20 ≤ z
  · have e : Hid (Fr.addTaskE m z g wt = 1 ∧ Fr.addTaskM m z g wt = m) := Hid.intro (by
      have e : Fr.addTaskE m z g wt = 1 := if_pos k
      refine ⟨e, ?_⟩
      unfold Fr.addTaskM Fr.addM; rw [e]; rfl)
    by_cases k1 : z < 0
    · clear k
      go_enter Tryz.func70, Tryz.ntmps70
      go_wp2
      go_ret
      rw [e.out.1, e.out.2]; exact ⟨rfl, HF.out, Frm.refl b w⟩
    · have d1 : decide (z < 0) = false := by simp; omega
      have d2 : 20 ≤ z := by omega
      clear k k1
      go_enter Tryz.func70, Tryz.ntmps70
      go_wp2
      go_ret
      rw [e.out.1, e.out.2]; exact ⟨rfl, HF.out, Frm.refl b w⟩
  · obtain ⟨n, rfl⟩ := Int.eq_ofNat_of_zero_le (show 0 ≤ z by omega)
    have e : Hid (Fr.addTaskE m n g wt = Fr.addE m (10 + n) g wt) := Hid.intro (by unfold Fr.addTaskE; rw [if_neg k, Int.toNat_natCast])
    have d1 : ¬ (20 : Int) ≤ (n : Int) := by omega
    have hn : 10 + n < 30 := by omega
    clear k
    go_enter Tryz.func70, Tryz.ntmps70
    go_wp2_with fail
    refine (add_any b (10 + n) _ g wt (by omega) m _ HF.out HI.out hn).mono ?_
    rintro e w1 ⟨rfl, f1, r1⟩
    have FIN : Hid (Fair w1 b (Fr.addTaskM m n g wt) ∧ Frm b w w1) := Hid.intro ⟨by unfold Fr.addTaskM; rw [e.out, Int.toNat_natCast]; exact f1, r1⟩
    clear f1 r1
    go_wp2_with fail
    go_ret
    rw [e.out]; exact ⟨rfl, FIN.out⟩
end Go.Proofs.YtghogbngmcolmaaGreat.Fa

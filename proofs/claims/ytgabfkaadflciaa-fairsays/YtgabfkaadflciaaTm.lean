/- The walks of next, renew and Tick. -/
import Derived.Test.YtgabfkaadflciaaTk
namespace Go.Proofs.Ytgabfkaadflciaa
open Go.RowKit
open Hp (Q)
open Fr (Un M)

/-- What next answers. -/
def pickI : Option Nat → Int
  | none => -1
  | some t => (t : Int) - 10

structure NextI (w : World) (m : M) (W : World) (v : Nat) : Prop where
  world : ∃ n, W = w.drewN n
  lt : v < 30
  pick : ∀ r, Fr.Pick m v r → Fr.Pick m 0 r

set_option maxRecDepth 100000 in
set_option maxHeartbeats 1000000 in
theorem next_any (b : Nat) (m : M) (w : World) (h : Fair w b m) (hI : Fr.Inv m) :
    Calls Try.prog 119 #[.pointer (some ⟨b, 0, none⟩)] w fun e w' => ∃ r, e = .returned (.int .i64 (pickI r)) ∧ Fr.Pick m 0 r ∧ ∃ n, w' = w.drewN n := by
  obtain ⟨rk, R, hR⟩ := hI.tree
  obtain ⟨qs, hS, hC⟩ := h
  have H0 : Hid (NextI w m w 0) := ⟨⟨0, rfl⟩, by omega, fun _ k => k⟩
  have HS : Hid (SAt w b m qs) := hS
  have HC : Hid (Cpl m qs) := hC
  have HI : Hid (Fr.Inv m) := hI
  have HR : Hid (Fr.Rank m rk R) := hR
  clear hS hC hI hR
  go_enter Try.func119, Try.ntmps119
  go_wp2_with fail
  go_loopw [3] (fun i wr => ∃ (v : Nat), i = .int .i64 v ∧ v < 30 ∧ Hid (NextI w m wr v)) (fun i _ => R - rk (intOf i).toNat)
  case atStart => exact ⟨0, rfl, by omega, H0⟩
  case round =>
    clear H0
    obtain ⟨v, rfl, hv, H⟩ := hrel
    by_cases h10 : v < 10
    · have k0 : (v : Int) < 10 := by omega
      have HS2 : Hid (SAt wr b m qs) := Hid.intro (by obtain ⟨n, hn⟩ := H.out.world; rw [hn]; exact HS.out.drewN n)
      cases hk : Fr.hasKid m v
      · have HK : Hid (Fr.hasKid m v = false) := hk
        have hm : Hid ((qs v).many = 0) := Hid.intro (by
          have := HC.out.many v h10
          rw [hk, decide_eq_false_iff_not] at this
          omega)
        clear hk
        go_wp2_with fail
        refine (first_none b _ (qs v) _ (HS2.out.at_ v h10) hm.out).mono ?_
        rintro e w1 ⟨rfl, rfl⟩
        go_wp2_with fail
        go_ret
        exact ⟨none, rfl, H.out.pick _ (.none h10 HK.out), H.out.world⟩
      · have HK : Hid (Fr.hasKid m v = true) := hk
        clear hk
        go_wp2_with fail
        refine (first_any b v m qs _ HS2.out HC.out h10 HK.out).mono ?_
        rintro e w1 ⟨j, k, rfl, hw1, hB⟩
        have HX : Hid (NextI w m w1 j ∧ rk v < rk j ∧ rk j ≤ R ∧ rk v ≤ R) := Hid.intro (by
          obtain ⟨n, hn⟩ := H.out.world
          obtain ⟨n1, hn1⟩ := hw1
          have kb := Fr.kidB_iff.1 hB.kid
          obtain ⟨g, h1, h2, h3, h4⟩ := HR.out.up j kb.1 hB.lt kb.2.1
          have e : g = v := by have := kb.2.2.1; omega
          subst e
          exact ⟨⟨⟨n + n1, by rw [hn1, hn, World.drewN_drewN]⟩, hB.lt, fun r p => H.out.pick r (.down h10 hB p)⟩, h4, HR.out.le j hB.lt, HR.out.le g (by omega)⟩)
        have hj : j < 30 := hB.lt
        clear hw1 hB
        go_wp2_with fail
        go_roundw
        case rel => exact ⟨j, rfl, hj, HX.out.1⟩
        case measure => have := HX.out.2; simp [intOf]; omega
    · have k0 : ¬ (v : Int) < 10 := by omega
      go_wp2_with fail
      go_ret
      exact ⟨some v, rfl, H.out.pick _ (.task (by omega)), H.out.world⟩

structure RenI (w : World) (b : Nat) (m : M) (W : World) (k : Nat) (mi : M) : Prop where
  fair : Fair W b mi
  frm : Frm b w W
  inv : Fr.Inv mi
  now : mi.now = m.now
  ren : ∀ m', Fr.Renew mi k m' → Fr.Renew m 0 m'

theorem Fair.cNow {w : World} {b : Nat} {m : M} (h : Fair w b m) : w.cell? ⟨b, 0, none⟩ = some (.int .i64 (m.now : Int)) := by obtain ⟨qs, hS, _⟩ := h; exact hS.now
theorem Fair.cQuota {w : World} {b : Nat} {m : M} (h : Fair w b m) (g : Nat) (hg : g < 10) : w.cell? ⟨b, 121 + g * 198 + 195, none⟩ = some (.int .i64 ((m.u g).quota : Int)) := by obtain ⟨qs, hS, _⟩ := h; exact hS.cQuota g hg
theorem Fair.cPeriod {w : World} {b : Nat} {m : M} (h : Fair w b m) (g : Nat) (hg : g < 10) : w.cell? ⟨b, 121 + g * 198 + 196, none⟩ = some (.int .i64 ((m.u g).period : Int)) := by obtain ⟨qs, hS, _⟩ := h; exact hS.cPeriod g hg
theorem Fair.cUsed {w : World} {b : Nat} {m : M} (h : Fair w b m) (g : Nat) (hg : g < 10) : w.cell? ⟨b, 121 + g * 198 + 197, none⟩ = some (.int .i64 ((m.u g).used : Int)) := by obtain ⟨qs, hS, _⟩ := h; exact hS.cUsed g hg
theorem Fair.setUsed {w : World} {b : Nat} {m : M} (h : Fair w b m) (g n : Nat) (hg : g < 10) : Fair (w.setCell ⟨b, 121 + g * 198 + 197, none⟩ (.int .i64 (n : Int))) b (m.set g { m.u g with used := n }) := by
  obtain ⟨qs, hS, hC⟩ := h; exact ⟨qs, hS.setUsed g n hg, hC.set rfl rfl rfl (.inl rfl)⟩
theorem Fair.setNow {w : World} {b : Nat} {m : M} (h : Fair w b m) (n : Nat) : Fair (w.setCell ⟨b, 0, none⟩ (.int .i64 (n : Int))) b { m with now := n } := by
  obtain ⟨qs, hS, hC⟩ := h; exact ⟨qs, hS.setNow n, hC.turn (fun _ _ _ _ => rfl) (fun _ _ _ _ _ => rfl)⟩

set_option maxRecDepth 100000 in
set_option maxHeartbeats 1000000 in
theorem renew_any (b : Nat) (m : M) (w : World) (h : Fair w b m) (hI : Fr.Inv m) (hn : m.now ≤ 1000000) :
    Calls Try.prog 118 #[.pointer (some ⟨b, 0, none⟩)] w fun e w' => e = .returned (.tuple #[]) ∧ ∃ m', Fr.Renew m 0 m' ∧ Fair w' b m' ∧ Frm b w w' := by
  have H0 : Hid (RenI w b m w 0 m) := ⟨h, Frm.refl b w, hI, rfl, fun _ k => k⟩
  obtain ⟨N, hN⟩ : ∃ N, m.now = N := ⟨_, rfl⟩
  rw [hN] at hn
  have HN : Hid (m.now = N) := hN
  clear h hI hN
  go_enter Try.func118, Try.ntmps118
  go_wp2_with fail
  go_loopw [4] (fun i wr => ∃ (k : Nat) (mi : M), i = .int .i64 k ∧ k ≤ 10 ∧ Hid (RenI w b m wr k mi)) (fun i _ => 10 - (intOf i).toNat)
  case atStart => exact ⟨0, m, rfl, by omega, H0⟩
  case round =>
    clear H0
    obtain ⟨k, mi, rfl, hk, H⟩ := hrel
    by_cases h10 : k < 10
    · have k0 : (k : Int) < 10 := by omega
      have c0 : wr.cell? ⟨b, 0, none⟩ = some (.int .i64 (N : Int)) := by rw [← HN.out, ← H.out.now]; exact H.out.fair.cNow
      have c1 := H.out.fair.cQuota k h10
      have c2 := H.out.fair.cPeriod k h10
      have c3 := H.out.fair.cUsed k h10
      have cf := H.out.fair.frozen
      have hq := H.out.inv.quo k (by omega)
      have hp := H.out.inv.per k (by omega)
      obtain ⟨qu, hQu⟩ : ∃ x, (mi.u k).quota = x := ⟨_, rfl⟩
      obtain ⟨pe, hPe⟩ : ∃ x, (mi.u k).period = x := ⟨_, rfl⟩
      obtain ⟨us, hUs⟩ : ∃ x, (mi.u k).used = x := ⟨_, rfl⟩
      rw [hQu] at c1 hq hp
      rw [hPe] at c2 hq hp
      rw [hUs] at c3
      have HQ : Hid ((mi.u k).quota = qu ∧ (mi.u k).period = pe ∧ mi.now = N) := Hid.intro ⟨hQu, hPe, H.out.now.trans HN.out⟩
      clear hQu hPe hUs
      by_cases q0 : 0 < qu
      · have q1 : decide ((0 : Int) < (qu : Int)) = true := by simp; omega
        have p0 := (hq q0).2.2
        have p1 : ((pe : Int) == 0) = false := by simp; omega
        by_cases hz : N % pe = 0
        · have z1 : (((N : Int).tmod (pe : Int)) == 0) = true := by
            rw [Int.tmod_eq_emod_of_nonneg (by omega)]; simp; omega
          have HH : Hid ((mi.u k).here = true) := Fr.here_of_quota H.out.inv (by omega) (by rw [HQ.out.1]; exact q0)
          go_wp2_with fail
          go_quiet (fail)
          go_wp2_with fail
          refine (settle_any b k (Fr.zeroU mi k) _ ((H.out.fair.drewN nq).setUsed k 0 h10) (H.out.inv.zeroU (by omega) HH.out) (by omega) (by rw [Fr.zeroU_here]; exact HH.out)).mono ?_
          rintro e w1 ⟨rfl, m1, l1, f1, r1⟩
          have H1 : Hid (RenI w b m w1 (k + 1) m1) := Hid.intro (by
            have rs : Fr.RStep mi k m1 := .inl ⟨by rw [HQ.out.1]; exact q0, by rw [HQ.out.2.1, HQ.out.2.2]; exact hz, l1⟩
            exact ⟨f1, ((H.out.frm.drewN nq).setCell _ _).trans r1, H.out.inv.rstep h10 rs, (Fr.look_here l1).1.trans H.out.now, fun m' r => H.out.ren m' (.step h10 rs r)⟩)
          clear l1 f1 r1 c0 c1 c2 c3 cf
          go_wp2_with fail
          go_roundw
          case rel => exact ⟨k + 1, m1, by go_num, by omega, H1⟩
          case measure => simp [intOf]; omega
        · have z1 : (((N : Int).tmod (pe : Int)) == 0) = false := by
            rw [Int.tmod_eq_emod_of_nonneg (by omega)]; simp; omega
          go_wp2_with fail
          go_quiet (fail)
          go_wp2_with fail
          go_roundw
          case rel => exact ⟨k + 1, mi, by go_num, by omega, ⟨H.out.fair.drewN _, H.out.frm.drewN _, H.out.inv, H.out.now, fun m' r => H.out.ren m' (.step h10 (.inr ⟨fun c => hz (by have := c.2; rw [HQ.out.2.1, HQ.out.2.2] at this; exact this), rfl⟩) r)⟩⟩
          case measure => simp [intOf]; omega
      · have q1 : decide ((0 : Int) < (qu : Int)) = false := by simp; omega
        go_wp2_with fail
        go_quiet (fail)
        go_wp2_with fail
        go_roundw
        case rel => exact ⟨k + 1, mi, by go_num, by omega, ⟨H.out.fair.drewN _, H.out.frm.drewN _, H.out.inv, H.out.now, fun m' r => H.out.ren m' (.step h10 (.inr ⟨fun c => q0 (by have := c.1; rw [HQ.out.1] at this; exact this), rfl⟩) r)⟩⟩
        case measure => simp [intOf]; omega
    · have k0 : ¬ (k : Int) < 10 := by omega
      obtain rfl : k = 10 := by omega
      go_wp2_with fail
      go_end0
      exact ⟨rfl, mi, H.out.ren mi (.done mi), H.out.fair, H.out.frm⟩

set_option maxRecDepth 100000 in
set_option maxHeartbeats 1000000 in
theorem tick_any (b : Nat) (m : M) (w : World) (h : Fair w b m) (hI : Fr.Inv m) (hn : m.now < 1000000) :
    Calls Try.prog 57 #[.pointer (some ⟨b, 0, none⟩)] w fun e w' => ∃ (r : Int) (m' : M), e = .returned (.int .i64 r) ∧ Fr.Tick m r m' ∧ Fair w' b m' ∧ Frm b w w' := by
  have HF : Hid (Fair w b m) := h
  have HI : Hid (Fr.Inv m) := hI
  have HN : Hid (m.now < 1000000) := hn
  clear h hI hn
  go_enter Try.func57, Try.ntmps57
  go_wp2_with fail
  refine (renew_any b m _ HF.out HI.out (by have := HN.out; omega)).mono ?_
  rintro e w1 ⟨rfl, m1, k1, f1, r1⟩
  have K1 : Hid (Fr.Renew m 0 m1) := k1
  have F1 : Hid (Fair w1 b m1) := f1
  have R1 : Hid (Frm b w w1) := r1
  have I1 : Hid (Fr.Inv m1) := Fr.Inv.renew k1 HI.out
  have c0 := f1.cNow
  have cf := f1.frozen
  have hN : m1.now < 1000000 := by rw [Fr.renew_now k1]; exact HN.out
  clear k1 f1 r1
  obtain ⟨N, hN'⟩ : ∃ N, m1.now = N := ⟨_, rfl⟩
  rw [hN'] at c0 hN
  have HN1 : Hid (m1.now = N) := hN'
  clear hN'
  go_wp2_with fail
  have FX : Hid (Fair (w1.setCell ⟨b, 0, none⟩ (.int .i64 ((N : Int) + 1))) b (Fr.up1 m1)) := Hid.intro (by have := F1.out.setNow (N + 1); unfold Fr.up1; rw [HN1.out]; exact this)
  refine (next_any b (Fr.up1 m1) _ FX.out I1.out.up1).mono ?_
  rintro e w2 ⟨r, rfl, p2, n2, hw2⟩
  have F2 : Hid (Fair w2 b (Fr.up1 m1)) := Hid.intro (by rw [hw2]; exact FX.out.drewN _)
  have R2 : Hid (Frm b w w2) := Hid.intro (by rw [hw2]; exact (R1.out.setCell _ _).drewN _)
  have P2 : Hid (Fr.Pick (Fr.up1 m1) 0 r) := p2
  clear hw2 p2 FX c0 cf
  cases r with
  | none =>
    rw [show pickI none = -1 from rfl]
    go_wp2_with fail
    go_ret
    exact ⟨-1, _, rfl, ⟨m1, K1.out, .inl ⟨P2.out, rfl, rfl⟩⟩, F2.out, R2.out⟩
  | some t =>
    obtain ⟨rk, R, hg, ht⟩ := Fr.going_of I1.out P2.out
    obtain ⟨n, rfl⟩ : ∃ n, t = 10 + n := ⟨t - 10, by omega⟩
    have hlt : n < 20 := by have := hg.lt; omega
    have HG : Hid (Fr.Going (Fr.up1 m1) rk R (10 + n)) := hg
    rw [show pickI (some (10 + n)) = (n : Int) by show ((10 + n : Nat) : Int) - 10 = n; omega]
    have z : ((n : Int) != -1) = true := by rw [bne_iff_ne]; omega
    clear hg ht
    go_wp2_with fail
    refine (run_any b n (Fr.up1 m1) _ F2.out rk R HG.out hlt (by show m1.now + 1 ≤ _; rw [HN1.out]; omega)).mono ?_
    rintro e w3 ⟨rfl, m3, k3, f3, r3⟩
    have FIN : Hid (Fr.Tick m n m3 ∧ Fair w3 b m3 ∧ Frm b w w3) := Hid.intro ⟨⟨m1, K1.out, .inr ⟨10 + n, P2.out, by omega, k3⟩⟩, f3, R2.out.trans r3⟩
    clear k3 f3 r3
    go_wp2_with fail
    go_ret
    exact ⟨n, m3, rfl, FIN.out⟩

end Go.Proofs.Ytgabfkaadflciaa

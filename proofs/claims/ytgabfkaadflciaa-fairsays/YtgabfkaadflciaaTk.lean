/- The walks of run, next, renew and Tick. -/
import Derived.Test.YtgabfkaadflciaaFq
import Derived.Test.YtgabfkaadflciaaPw
namespace Go.Proofs.Ytgabfkaadflciaa
open Go.RowKit
open Hp (Q)
open Fr (Un M)

theorem Fair.ran {w : World} {b : Nat} {m : M} (h : Fair w b m) {n : Nat} (hn : n < 20) : w.cell? ⟨b, 2101 + n * 2 + 1, none⟩ = some (.int .i64 ((m.u (10 + n)).ran : Int)) := by
  obtain ⟨qs, hS, _⟩ := h; exact hS.cRan n hn
theorem Fair.frozen {w : World} {b : Nat} {m : M} (h : Fair w b m) (o : Nat) : w.frozen? ⟨b, o, none⟩ = false := by
  obtain ⟨qs, hS, _⟩ := h; exact hS.frozen o
theorem Fair.setRan {w : World} {b : Nat} {m : M} (h : Fair w b m) (n k : Nat) (hn : n < 20) : Fair (w.setCell ⟨b, 2101 + n * 2 + 1, none⟩ (.int .i64 (k : Int))) b (m.set (10 + n) { m.u (10 + n) with ran := k }) := by
  obtain ⟨qs, hS, hC⟩ := h; exact ⟨qs, hS.setRan n k hn, hC.set rfl rfl rfl (.inl rfl)⟩
theorem Fair.drew {w : World} {b : Nat} {m : M} (h : Fair w b m) : Fair w.drew b m := by obtain ⟨qs, h1, h2⟩ := h; exact ⟨qs, h1.drew, h2⟩

theorem InG.ranUp {m : M} {u g : Nat} (h : InG m u g) (v : Nat) : InG (Fr.ranUp m v) u g :=
  ⟨h.pos, h.lt, by rw [(Fr.ranUp_here m v u).1]; exact h.here, h.glt, by rw [(Fr.ranUp_here m v u).2.1]; exact h.inn⟩

structure RunI (w : World) (b : Nat) (m : M) (t : Nat) (rk : Nat → Nat) (R : Nat) (W : World) (v : Nat) (mi : M) : Prop where
  fair : Fair W b (Fr.ranUp mi v)
  frm : Frm b w W
  going : Fr.Going mi rk R v
  now : mi.now = m.now
  pays : ∀ m', Fr.Pays mi v m' → Fr.Pays m t m'

set_option maxRecDepth 100000 in
set_option maxHeartbeats 1000000 in
theorem run_any (b n : Nat) (m : M) (w : World) (h : Fair w b m) (rk : Nat → Nat) (R : Nat) (hG : Fr.Going m rk R (10 + n)) (hn : n < 20) (hnow : m.now ≤ 1000000) :
    Calls Try.prog 120 #[.pointer (some ⟨b, 0, none⟩), .int .i64 n] w fun e w' => e = .returned (.tuple #[]) ∧ ∃ m', Fr.Pays m (10 + n) m' ∧ Fair w' b m' ∧ Frm b w w' := by
  have c1 := h.ran hn
  have cf := h.frozen
  have hnI : (n : Int) < 20 := by omega
  have hr := (hG.inv.tm (10 + n) (by omega)).2.2.2
  obtain ⟨r, hr'⟩ : ∃ r, (m.u (10 + n)).ran = r := ⟨_, rfl⟩
  rw [hr'] at c1 hr
  have hrb : r ≤ 1000000 := by omega
  have HRn : Hid ((m.u (10 + n)).ran = r) := hr'
  have HF : Hid (Fair w b m) := h
  have HG : Hid (Fr.Going m rk R (10 + n)) := hG
  have HN : Hid (m.now ≤ 1000000) := hnow
  clear h hG hr hr'
  go_enter Try.func120, Try.ntmps120
  go_wp2
  go_region
  go_wp2_with fail
  have H0 : Hid (RunI w b m (10 + n) rk R (w.setCell ⟨b, 2101 + n * 2 + 1, none⟩ (.int .i64 ((r : Int) + 1))).drew (10 + n) m) := Hid.intro
    ⟨by
      have := (HF.out.setRan n (r + 1) hn).drew
      unfold Fr.ranUp
      rw [if_pos (by omega), HRn.out]
      exact this, ((Frm.refl b w).setCell _ _).drew, HG.out, rfl, fun _ k => k⟩
  clear c1 cf
  generalize (w.setCell ⟨b, 2101 + n * 2 + 1, none⟩ (.int .i64 ((r : Int) + 1))).drew = W0 at *
  go_loopw [4] (fun i wr => ∃ (v : Nat) (mi : M), i = .int .i64 v ∧ v < 30 ∧ Hid (RunI w b m (10 + n) rk R wr v mi)) (fun i _ => rk (intOf i).toNat)
  case atStart => exact ⟨10 + n, m, by go_num, by omega, H0⟩
  case round =>
    clear H0
    obtain ⟨v, mi, rfl, hv, H⟩ := hrel
    by_cases h0 : v = 0
    · subst h0
      go_wp2
      go_end0
      exact ⟨rfl, mi, H.out.pays mi (.root mi), H.out.fair, H.out.frm⟩
    · have k0 : ((v : Int) != 0) = true := by rw [bne_iff_ne]; omega
      have HX : Hid (InG mi v (Fr.grp mi v)) := InG.of H.out.going.inv (by omega) hv (H.out.going.facts (by omega)).1
      go_wp2_with fail
      refine (pay_any b v (Fr.grp mi v) (Fr.ranUp mi v) _ H.out.fair (H.out.going.ranUp (by omega)) (HX.out.ranUp v) (by rw [(Fr.ranUp_here mi v v).2.2.1]; exact (H.out.going.facts (by omega)).2.1) (by rw [Fr.ranUp_now, H.out.now]; exact HN.out)).mono ?_
      rintro e w1 ⟨rfl, f1, r1⟩
      have H1 : Hid (RunI w b m (10 + n) rk R w1 (Fr.grp mi v) (Fr.payR mi v)) := Hid.intro
        ⟨by
          have e : Fr.ranUp (Fr.payR mi v) (Fr.grp mi v) = Fr.payR mi v := by unfold Fr.ranUp; rw [if_neg (by have := HX.out.glt; omega)]
          rw [e]; exact f1, H.out.frm.trans r1, H.out.going.next (by omega), by rw [Fr.payR_now]; exact H.out.now, fun m' k => H.out.pays m' (.up h0 k)⟩
      have c1 : w1.cell? ⟨b, 1 + v * 4 + 1, none⟩ = some (.int .i64 (Fr.grp mi v : Int)) := f1.in_ ⟨HX.out.pos, HX.out.lt, by rw [Fr.payC_here, (Fr.ranUp_here mi v v).1]; exact HX.out.here, HX.out.glt, by rw [Fr.payC_inn, (Fr.ranUp_here mi v v).2.1]; exact HX.out.inn⟩
      have hvI : (v : Int) < 30 := by omega
      have HM : Hid (rk (Fr.grp mi v) < rk v) := (H.out.going.facts (by omega)).2.2.2.2.1
      clear f1 r1
      go_wp2_with fail
      go_roundw
      case rel => exact ⟨_, _, rfl, by have := HX.out.glt; omega, H1⟩
      case measure => simp [intOf]; exact HM.out

theorem first_any (b g : Nat) (m : M) (qs : Nat → Q) (w : World) (hS : SAt w b m qs) (hC : Cpl m qs) (hg : g < 10) (hk : Fr.hasKid m g = true) :
    Calls Try.prog 24 #[.pointer (some ⟨b, 121 + g * 198, none⟩)] w fun e w' => ∃ (j : Nat) (k : Int), e = .returned (.tuple #[.int .i64 j, .int .u64 k, .bool true]) ∧ (∃ n, w' = w.drewN n) ∧ Fr.Best m g j := by
  have hm := hC.many g hg
  rw [hk, decide_eq_true_eq] at hm
  refine (first_some b _ (qs g) w ⟨hS.at_ g hg, (hC.ok g hg).1, (hC.ok g hg).2⟩ hm).mono ?_
  rintro e w' ⟨j, rfl, hw, hj, hp, hl⟩
  have kj := (hC.has g j hg hj).1 hp
  refine ⟨j, _, rfl, hw, kj.1, kj.2, fun i hi ki => ?_⟩
  have := hl i (by omega) ((hC.has g i hg (by omega)).2 ⟨hi, ki⟩)
  unfold Hp.ah at this
  rw [hC.key g i hg hi ki, hC.key g j hg kj.1 kj.2] at this
  omega

end Go.Proofs.Ytgabfkaadflciaa

/- The walks of ready, line and settle. -/
import Derived.Test.YtgabfkaadflciaaFs
namespace Go.Proofs.Ytgabfkaadflciaa
open Go.RowKit
open Hp (Q)
open Fr (Un M)

theorem Hid.intro {p : Prop} (h : p) : Hid p := h

set_option maxRecDepth 100000 in
set_option maxHeartbeats 400000 in
theorem ready_task (b u : Nat) (m : M) (w : World) (h : Fair w b m) (h0 : 10 ≤ u) (hu : u < 30) :
    Calls Try.prog 171 #[.pointer (some ⟨b, 0, none⟩), .int .i64 u] w fun e w' => e = .returned (.bool (Fr.ready m u)) ∧ w' = w := by
  obtain ⟨n, rfl⟩ : ∃ n, u = 10 + n := ⟨u - 10, by omega⟩
  obtain ⟨qs, hS, _⟩ := h
  have c := hS.cAwake n (by omega)
  have k : (10 : Int) ≤ ((10 + n : Nat) : Int) := by omega
  have e : Hid (Fr.ready m (10 + n) = (m.u (10 + n)).awake) := Hid.intro (by unfold Fr.ready; rw [if_pos (by omega)])
  clear hS
  go_enter Try.func171, Try.ntmps171
  go_wp2
  go_ret
  exact ⟨ret_bool e.out.symm, rfl⟩

theorem len_i (b o : Nat) (q : Q) (w : World) (h : At w b o q) (k : Nat) (hk : q.many = k) :
    Calls Try.prog 25 #[.pointer (some ⟨b, o, none⟩)] w fun e w' => e = .returned (.int .i64 k) ∧ w' = w := by
  subst hk; exact len_any b o q w h
theorem ready_grp {m : M} {g : Nat} (hg : g < 10) (a c d e : Bool) (ha : Fr.hasKid m g = a) (hc : (m.u g).frozen = c) (hd : decide ((m.u g).quota = 0) = d) (he : decide ((m.u g).used < (m.u g).quota) = e) : Fr.ready m g = (a && (!c && (d || e))) := by
  unfold Fr.ready Fr.mayB
  rw [if_neg (by omega), ha, hc, hd, he]

set_option maxRecDepth 100000 in
set_option maxHeartbeats 400000 in
theorem ready_group (b g : Nat) (m : M) (w : World) (h : Fair w b m) (hg : g < 10) :
    Calls Try.prog 171 #[.pointer (some ⟨b, 0, none⟩), .int .i64 g] w fun e w' => e = .returned (.bool (Fr.ready m g)) ∧ ∃ n, w' = w.drewN n := by
  obtain ⟨qs, hS, hC⟩ := h
  have c1 := hS.cFrozen g hg
  have c2 := hS.cQuota g hg
  have c3 := hS.cUsed g hg
  have HA : Hid (At w b (121 + g * 198) (qs g)) := hS.at_ g hg
  have hm := hC.many g hg
  have k : ¬ (10 : Int) ≤ (g : Int) := by omega
  have hgI : (g : Int) < 10 := by omega
  have HR : Hid (∀ a c d e, Fr.hasKid m g = a → (m.u g).frozen = c → decide ((m.u g).quota = 0) = d → decide ((m.u g).used < (m.u g).quota) = e → Fr.ready m g = (a && (!c && (d || e)))) := fun a c d e => ready_grp hg a c d e
  clear hS hC
  obtain ⟨M1, hM1⟩ : ∃ k, (qs g).many = k := ⟨_, rfl⟩
  rw [hM1] at hm
  have HM : Hid ((qs g).many = M1) := hM1
  clear hM1
  have HE : Hid (decide (0 < M1) = Fr.hasKid m g) := hm
  generalize hfz : (m.u g).frozen = fz at *
  generalize hqu : (m.u g).quota = qu at *
  generalize hus : (m.u g).used = us at *
  clear hfz hqu hus hm
  by_cases a : 0 < M1
  · have a' : decide ((0 : Int) < (M1 : Int)) = true := by simp; omega
    have E1 : Hid (Fr.hasKid m g = true) := Hid.intro (by rw [← HE.out]; exact decide_eq_true a)
    cases fz
    · by_cases d : qu = 0
      · have d' : ((qu : Int) == 0) = true := by simp; omega
        have E3 : Hid (decide (qu = 0) = true) := Hid.intro (decide_eq_true d)
        go_enter Try.func171, Try.ntmps171
        go_wp2
        go_quiet ((go_at_call 25; exact Calls.quiet_of_same (len_i b (121 + g * 198) (qs g) _ (HA.out.drewN _) M1 HM.out)))
        go_wp2
        go_ret
        exact ⟨ret_bool (by rw [HR.out _ _ _ _ E1.out rfl E3.out rfl]; rfl), _, rfl⟩
      · have d' : ((qu : Int) == 0) = false := by simp; omega
        have E3 : Hid (decide (qu = 0) = false) := Hid.intro (decide_eq_false d)
        go_enter Try.func171, Try.ntmps171
        go_wp2
        go_quiet ((go_at_call 25; exact Calls.quiet_of_same (len_i b (121 + g * 198) (qs g) _ (HA.out.drewN _) M1 HM.out)))
        go_wp2
        go_ret
        exact ⟨ret_bool (by rw [HR.out _ _ _ _ E1.out rfl E3.out rfl]; simp), _, rfl⟩
    · go_enter Try.func171, Try.ntmps171
      go_wp2
      go_quiet ((go_at_call 25; exact Calls.quiet_of_same (len_i b (121 + g * 198) (qs g) _ (HA.out.drewN _) M1 HM.out)))
      go_wp2
      go_ret
      exact ⟨ret_bool (by rw [HR.out _ _ _ _ E1.out rfl rfl rfl]; simp), _, rfl⟩
  · have a' : decide ((0 : Int) < (M1 : Int)) = false := by simp; omega
    have E1 : Hid (Fr.hasKid m g = false) := Hid.intro (by rw [← HE.out]; exact decide_eq_false a)
    go_enter Try.func171, Try.ntmps171
    go_wp2
    go_quiet ((go_at_call 25; exact Calls.quiet_of_same (len_i b (121 + g * 198) (qs g) _ (HA.out.drewN _) M1 HM.out)))
    go_wp2
    go_ret
    exact ⟨ret_bool (by rw [HR.out _ _ _ _ E1.out rfl rfl rfl]; simp), _, rfl⟩

end Go.Proofs.Ytgabfkaadflciaa

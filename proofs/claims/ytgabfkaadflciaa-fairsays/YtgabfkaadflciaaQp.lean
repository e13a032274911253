/- The walks of Put, Key, First and Len. -/
import Derived.Test.YtgabfkaadflciaaQk
namespace Go.Proofs.Ytgabfkaadflciaa
open Go.RowKit
open Hp (Q)

theorem set_i (b o : Nat) (x j : Int) (q : Q) (w : World) (h : At w b o q) (x0 : 0 ≤ x) (x1 : x < 64) (j0 : 0 ≤ j) (j1 : j < 64) :
    Calls Try.prog 78 #[.pointer (some ⟨b, o, none⟩), .int .i64 x, .int .i64 j] w fun e w' => e = .returned (.tuple #[]) ∧ At w' b o (Hp.set q x.toNat j.toNat) ∧ Only b o w w' := by
  obtain ⟨x, rfl⟩ := Int.eq_ofNat_of_zero_le x0
  obtain ⟨j, rfl⟩ := Int.eq_ofNat_of_zero_le j0
  exact set_any b o x j q w h (by omega) (by omega)
theorem rise_i (b o : Nat) (a : Int) (q : Q) (w : World) (h : At w b o q) (ho : Hp.Okp q) (a0 : 0 ≤ a) (hr : Hp.RI a.toNat a.toNat q) :
    Calls Try.prog 79 #[.pointer (some ⟨b, o, none⟩), .int .i64 a] w fun e w' => e = .returned (.tuple #[]) ∧ Only b o w w' ∧ ∃ q', At w' b o q' ∧ Hp.Okp q' ∧ Hp.Same q q' ∧ Hp.DI a.toNat q' := by
  obtain ⟨a, rfl⟩ := Int.eq_ofNat_of_zero_le a0
  exact rise_any b o a q w h ho hr
theorem sink_i (b o : Nat) (a : Int) (q : Q) (w : World) (h : At w b o q) (ho : Hp.Okp q) (a0 : 0 ≤ a) (hr : Hp.DI a.toNat q) (ha : a.toNat < q.many) :
    Calls Try.prog 81 #[.pointer (some ⟨b, o, none⟩), .int .i64 a] w fun e w' => e = .returned (.tuple #[]) ∧ Only b o w w' ∧ ∃ q', At w' b o q' ∧ Hp.Okp q' ∧ Hp.Same q q' ∧ Hp.Full q' := by
  obtain ⟨a, rfl⟩ := Int.eq_ofNat_of_zero_le a0
  exact sink_any b o a q w h ho hr ha

set_option maxHeartbeats 400000 in
theorem put_bad (b o : Nat) (j k : Int) (w : World) (hj : j < 0 ∨ 64 ≤ j) :
    Calls Try.prog 16 #[.pointer (some ⟨b, o, none⟩), .int .i64 j, .int .u64 k] w fun e w' => e = .returned (.iface 110 (.int .i64 1)) ∧ w' = w := by
  have HB : Hid (bnd j = false) := bnd_false hj
  go_enter Try.func16, Try.ntmps16
  go_wp2_with fail
  refine (bounded_any j _).mono ?_
  rintro e w' ⟨rfl, rfl⟩
  rw [HB.out]
  go_wp2
  go_ret
  exact ⟨rfl, rfl⟩

set_option maxHeartbeats 400000 in
theorem put_has (b o j : Nat) (k : Int) (q : Q) (w : World) (h : At w b o q) (hj : j < 64) (hp : 0 < q.place j) :
    Calls Try.prog 16 #[.pointer (some ⟨b, o, none⟩), .int .i64 j, .int .u64 k] w fun e w' => e = .returned (.iface 110 (.int .i64 3)) ∧ w' = w := by
  have HB : Hid (bnd (j : Int) = true) := bnd_true (by omega) (by omega)
  have HI : Hid (isin q j = true) := decide_eq_true hp
  have H : Hid (At w b o q) := h
  clear h
  go_enter Try.func16, Try.ntmps16
  go_wp2_with fail
  refine (bounded_any j _).mono ?_
  rintro e w' ⟨rfl, rfl⟩
  rw [HB.out]
  go_wp2_with fail
  refine (has_any b o j q _ H.out hj).mono ?_
  rintro e w' ⟨rfl, rfl⟩
  rw [HI.out]
  go_wp2
  go_ret
  exact ⟨rfl, rfl⟩

/-- What a queue is, all told. -/
structure Good (w : World) (b o : Nat) (q : Q) : Prop where
  at_ : At w b o q
  ok : Hp.Okp q
  full : Hp.Full q

set_option maxHeartbeats 400000 in
theorem put_new (b o j k : Nat) (q : Q) (w : World) (h : Good w b o q) (hj : j < 64) (hp : q.place j = 0) :
    Calls Try.prog 16 #[.pointer (some ⟨b, o, none⟩), .int .i64 j, .int .u64 k] w fun e w' => e = .returned .nilIface ∧ Only b o w w' ∧ ∃ q', Good w' b o q' ∧ q'.many = q.many + 1 ∧ q'.keys = Hp.upd q.keys j k ∧ ∀ i, 0 < q'.place i ↔ (0 < q.place i ∨ i = j) := by
  have HB : Hid (bnd (j : Int) = true) := bnd_true (by omega) (by omega)
  have HI : Hid (isin q j = false) := decide_eq_false (by omega)
  have H : Hid (Good w b o q) := h
  have hm : q.many < 64 := Hp.many_lt h.ok hj hp
  have ck := h.at_.keys j hj
  have cf := h.at_.frozen
  have cm := h.at_.many
  have hjI : (j : Int) < 64 := by omega
  have HP : Hid (q.place j = 0) := hp
  clear h hp
  obtain ⟨m, hmm⟩ : ∃ m, q.many = m := ⟨_, rfl⟩
  rw [hmm] at hm cm
  have HM : Hid (q.many = m) := hmm
  clear hmm
  go_enter Try.func16, Try.ntmps16
  go_wp2_with fail
  refine (bounded_any j _).mono ?_
  rintro e w' ⟨rfl, rfl⟩
  rw [HB.out]
  go_wp2_with fail
  refine (has_any b o j q _ H.out.at_ hj).mono ?_
  rintro e w' ⟨rfl, rfl⟩
  rw [HI.out]
  go_wp2_with fail
  refine (set_i b o _ _ _ _ (H.out.at_.setKeys j k hj) (by omega) (by omega) (by omega) (by omega)).mono ?_
  rintro e w1 ⟨rfl, h1, o1⟩
  rw [Int.toNat_natCast, Int.toNat_natCast] at h1
  have cm1 : w1.cell? ⟨b, o, none⟩ = some (.int .i64 m) := by rw [← HM.out]; exact h1.many
  have cf1 := h1.frozen
  have H1 : Hid (At w1 b o (Hp.set { q with keys := Hp.upd q.keys j k } m j)) := h1
  have O1 : Hid (Only b o (w'.setCell ⟨b, o + 129 + j, none⟩ (.int .u64 k)) w1) := o1
  clear h1 o1 ck cf cm
  go_wp2_with fail
  have h2 : At (w1.setCell ⟨b, o, none⟩ (.int .i64 ((m : Int) + 1))) b o (Hp.putQ q j k) := by
    have h2 := H1.out.setMany (m + 1)
    have e2 : (({ Hp.set { q with keys := Hp.upd q.keys j k } m j with many := m + 1 } : Q)) = Hp.putQ q j k := by unfold Hp.putQ Hp.set; rw [HM.out]
    rw [e2] at h2
    rw [show ((m : Int) + 1) = ((m + 1 : Nat) : Int) by omega]
    exact h2
  have po := Hp.put_ok (k := k) H.out.ok H.out.full hj HP.out
  rw [HM.out] at po
  refine (rise_i b o _ (Hp.putQ q j k) _ h2 po.1 (by omega) (by rw [Int.toNat_natCast]; exact po.2)).mono ?_
  rintro e w2 ⟨rfl, o2, q', h3, h4, h5, h6⟩
  rw [Int.toNat_natCast] at h6
  have FIN : Hid (Only b o w' w2 ∧ ∃ q', Good w2 b o q' ∧ q'.many = q.many + 1 ∧ q'.keys = Hp.upd q.keys j k ∧ ∀ i, 0 < q'.place i ↔ (0 < q.place i ∨ i = j)) := by
    refine ⟨(((Only.setCell b o _ _ _ (by omega)).trans O1.out).trans (Only.setCell b o _ _ _ (by omega))).trans o2, q', ⟨h3, h4, Hp.put_end h6 ?_⟩, h5.many, h5.keys, fun i => ?_⟩
    · rw [h5.many]; show q.many + 1 = m + 1; rw [HM.out]
    · rw [h5.has]
      show 0 < Hp.upd q.place j (q.many + 1) i ↔ _
      by_cases e : i = j
      · subst e; rw [Hp.upd_same]; simp
      · rw [Hp.upd_ne _ _ _ _ e]; simp [e]
  clear h2 po h3 h4 h5 h6 o2
  go_wp2_with fail
  go_ret
  exact ⟨rfl, FIN.out⟩

set_option maxHeartbeats 400000 in
theorem key_bad (b o : Nat) (j : Int) (w : World) (hj : j < 0 ∨ 64 ≤ j) :
    Calls Try.prog 20 #[.pointer (some ⟨b, o, none⟩), .int .i64 j] w fun e w' => e = .returned (.tuple #[.int .u64 0, .iface 110 (.int .i64 1)]) ∧ w' = w := by
  have HB : Hid (bnd j = false) := bnd_false hj
  go_enter Try.func20, Try.ntmps20
  go_wp2_with fail
  refine (bounded_any j _).mono ?_
  rintro e w' ⟨rfl, rfl⟩
  rw [HB.out]
  go_wp2
  go_ret2
  exact ⟨rfl, rfl⟩

set_option maxHeartbeats 400000 in
theorem key_none (b o j : Nat) (q : Q) (w : World) (h : At w b o q) (hj : j < 64) (hp : q.place j = 0) :
    Calls Try.prog 20 #[.pointer (some ⟨b, o, none⟩), .int .i64 j] w fun e w' => e = .returned (.tuple #[.int .u64 0, .iface 110 (.int .i64 2)]) ∧ w' = w := by
  have HB : Hid (bnd (j : Int) = true) := bnd_true (by omega) (by omega)
  have HI : Hid (isin q j = false) := decide_eq_false (by omega)
  have H : Hid (At w b o q) := h
  clear h hp
  go_enter Try.func20, Try.ntmps20
  go_wp2_with fail
  refine (bounded_any j _).mono ?_
  rintro e w' ⟨rfl, rfl⟩
  rw [HB.out]
  go_wp2_with fail
  refine (has_any b o j q _ H.out hj).mono ?_
  rintro e w' ⟨rfl, rfl⟩
  rw [HI.out]
  go_wp2
  go_ret2
  exact ⟨rfl, rfl⟩

set_option maxHeartbeats 400000 in
theorem key_has (b o j : Nat) (q : Q) (w : World) (h : At w b o q) (hj : j < 64) (hp : 0 < q.place j) :
    Calls Try.prog 20 #[.pointer (some ⟨b, o, none⟩), .int .i64 j] w fun e w' => e = .returned (.tuple #[.int .u64 (q.keys j), .nilIface]) ∧ w' = w := by
  have HB : Hid (bnd (j : Int) = true) := bnd_true (by omega) (by omega)
  have HI : Hid (isin q j = true) := decide_eq_true hp
  have H : Hid (At w b o q) := h
  have ck := h.keys j hj
  have hjI : (j : Int) < 64 := by omega
  clear h hp
  go_enter Try.func20, Try.ntmps20
  go_wp2_with fail
  refine (bounded_any j _).mono ?_
  rintro e w' ⟨rfl, rfl⟩
  rw [HB.out]
  go_wp2_with fail
  refine (has_any b o j q _ H.out hj).mono ?_
  rintro e w' ⟨rfl, rfl⟩
  rw [HI.out]
  go_wp2
  go_ret2
  exact ⟨rfl, rfl⟩

set_option maxHeartbeats 400000 in
theorem len_any (b o : Nat) (q : Q) (w : World) (h : At w b o q) :
    Calls Try.prog 25 #[.pointer (some ⟨b, o, none⟩)] w fun e w' => e = .returned (.int .i64 q.many) ∧ w' = w := by
  have cm := h.many
  clear h
  go_enter Try.func25, Try.ntmps25
  go_wp2
  go_ret
  exact ⟨rfl, rfl⟩

set_option maxHeartbeats 400000 in
theorem first_none (b o : Nat) (q : Q) (w : World) (h : At w b o q) (h0 : q.many = 0) :
    Calls Try.prog 24 #[.pointer (some ⟨b, o, none⟩)] w fun e w' => e = .returned (.tuple #[.int .i64 0, .int .u64 0, .bool false]) ∧ w' = w := by
  have cm := h.many
  rw [h0] at cm
  clear h h0
  go_enter Try.func24, Try.ntmps24
  go_wp2
  go_ret3
  exact ⟨rfl, rfl⟩

set_option maxHeartbeats 400000 in
theorem first_some (b o : Nat) (q : Q) (w : World) (h : Good w b o q) (h0 : 0 < q.many) :
    Calls Try.prog 24 #[.pointer (some ⟨b, o, none⟩)] w fun e w' => ∃ j : Nat, e = .returned (.tuple #[.int .i64 j, .int .u64 (q.keys j), .bool true]) ∧ (∃ n, w' = w.drewN n) ∧ j < 64 ∧ 0 < q.place j ∧ ∀ i, i < 64 → 0 < q.place i → ¬ Hp.ah q.keys i j := by
  have cm := h.at_.many
  have hne : ((q.many : Int) == 0) = false := by simp; omega
  have a0 := h.ok.at_ 0 h0
  have ch := h.at_.heap 0 (by omega)
  have ck := h.at_.keys _ a0.1
  have H : Hid (Good w b o q) := h
  have H0 : Hid (0 < q.many) := h0
  have A0 : Hid (q.heap 0 < 64 ∧ q.place (q.heap 0) = 0 + 1) := a0
  have FIN : Hid (∀ i, i < 64 → 0 < q.place i → ¬ Hp.ah q.keys i (q.heap 0)) := fun i hi hp => by
    have oi := h.ok.of_ i hi
    have := Hp.first_least h.full (q.place i - 1) (by omega)
    rw [oi.2 hp] at this
    exact this
  clear h h0 a0
  generalize hJ : q.heap 0 = J at *
  have hJI : (J : Int) < 64 := by have := A0.out.1; omega
  clear hJ
  go_enter Try.func24, Try.ntmps24
  go_wp2
  go_quiet (fail)
  go_wp2
  go_ret3
  exact ⟨J, rfl, ⟨_, rfl⟩, A0.out.1, by have := A0.out.2; omega, FIN.out⟩

end Go.Proofs.Ytgabfkaadflciaa

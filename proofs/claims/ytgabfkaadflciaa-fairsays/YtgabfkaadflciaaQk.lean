/- The walk of sink. -/
import Derived.Test.YtgabfkaadflciaaQr
namespace Go.Proofs.Ytgabfkaadflciaa
open Go.RowKit
open Hp (Q)

/-- While the least of an index and its lowers is looked for: 'l' is the least of 'p' and the lowers before 'c'. -/
structure LI (q : Q) (p l c : Nat) : Prop where
  lt : l < q.many
  who : l = p ∨ (0 < l ∧ (l - 1) / 2 = p ∧ Hp.ah q.keys (q.heap l) (q.heap p))
  min : ∀ d, 0 < d → d < q.many → (d - 1) / 2 = p → d < c → ¬ Hp.ah q.keys (q.heap d) (q.heap l)

theorem LI.start {q : Q} {p : Nat} (hp : p < q.many) : LI q p p (2 * p + 1) := ⟨hp, .inl rfl, fun d _ _ _ _ => by omega⟩
theorem LI.no {q : Q} {p l c : Nat} (h : LI q p l c) (hn : ¬ Hp.ah q.keys (q.heap c) (q.heap l)) : LI q p l (c + 1) :=
  ⟨h.lt, h.who, fun d h1 h2 h3 h4 => by
    by_cases e : d = c
    · rw [e]; exact hn
    · exact h.min d h1 h2 h3 (by omega)⟩
theorem LI.yes {q : Q} {p l c : Nat} (h : LI q p l c) (hc : c < q.many) (hp : (c - 1) / 2 = p) (h0 : 0 < c) (hy : Hp.ah q.keys (q.heap c) (q.heap l)) : LI q p c (c + 1) := by
  refine ⟨hc, .inr ⟨h0, hp, ?_⟩, fun d h1 h2 h3 h4 => ?_⟩
  · rcases h.who with e | ⟨_, _, e⟩
    · rw [← e]; exact hy
    · unfold Hp.ah at *; omega
  · by_cases e : d = c
    · rw [e]; unfold Hp.ah; omega
    · have := h.min d h1 h2 h3 (by omega)
      exact Hp.nah_trans this (Hp.ah_asymm hy)

set_option maxHeartbeats 1000000 in
theorem sink_any (b o a : Nat) (q : Q) (w : World) (h : At w b o q) (ho : Hp.Okp q) (hr : Hp.DI a q) (ha : a < q.many) :
    Calls Try.prog 81 #[.pointer (some ⟨b, o, none⟩), .int .i64 a] w fun e w' => e = .returned (.tuple #[]) ∧ Only b o w w' ∧ ∃ q', At w' b o q' ∧ Hp.Okp q' ∧ Hp.Same q q' ∧ Hp.Full q' := by
  have hle0 := ho.le
  obtain ⟨M, hM⟩ : ∃ M, q.many = M := ⟨_, rfl⟩
  rw [hM] at hle0 ha
  have HM : Hid (q.many = M) := hM
  clear hM
  go_enter Try.func81, Try.ntmps81
  go_wp2
  go_loopw [1] (fun i wr => ∃ (p : Nat) (q' : Q), i = .int .i64 p ∧ p < M ∧ Hid (Only b o w wr ∧ At wr b o q' ∧ Hp.Okp q' ∧ Hp.Same q q' ∧ Hp.DI p q')) (fun i _ => 64 - (intOf i).toNat)
  case atStart => exact ⟨a, q, rfl, ha, Only.refl _ _ _, h, ho, Hp.Same.refl q, hr⟩
  case round =>
    clear h ho hr
    obtain ⟨p, q', rfl, hp, H⟩ := hrel
    have hmany : Hid (q'.many = M) := H.out.2.2.2.1.many.trans HM.out
    go_wp2_with fail
    go_loopw [4, 5] (fun l c wq => ∃ (ln cn n : Nat), l = .int .i64 ln ∧ c = .int .i64 cn ∧ ln < M ∧ 2 * p + 1 ≤ cn ∧ cn ≤ 2 * p + 3 ∧ wq = wr.drewN n ∧ Hid (LI q' p ln cn)) (fun _ c _ => 2 * p + 3 - (intOf c).toNat)
    case atStart => exact ⟨p, 2 * p + 1, 0, rfl, by go_num, hp, by omega, by omega, rfl, LI.start (by rw [hmany.out]; exact hp)⟩
    case round =>
      obtain ⟨l, c, n, rfl, rfl, hl, hc1, hc2, rfl, L⟩ := hrel
      have cm : (wr.drewN n).cell? ⟨b, o, none⟩ = some (.int .i64 M) := by rw [← hmany.out]; exact (H.out.2.1.drewN n).many
      by_cases k1 : c ≤ 2 * p + 2
      · have d1 : decide ((c : Int) ≤ 2 * (p : Int) + 2) = true := by simp; omega
        by_cases k2 : c < M
        · have k2' : (c : Int) < (M : Int) := by omega
          go_wp2_with fail
          refine (ahead_i b o _ _ q' _ (H.out.2.1.drewN _) (by omega) (by omega) (by omega) (by omega) (by rw [Int.toNat_natCast]; exact (H.out.2.2.1.at_ c (by rw [hmany.out]; exact k2)).1) (by rw [Int.toNat_natCast]; exact (H.out.2.2.1.at_ l (by rw [hmany.out]; exact hl)).1)).mono ?_
          rintro e w1 ⟨rfl, n1, rfl⟩
          rw [Int.toNat_natCast, Int.toNat_natCast]
          cases hah : ahB q' c l
          · have HN : Hid (ahB q' c l = false) := hah
            clear hah
            go_wp2_with fail
            go_roundw
            case rel => exact ⟨l, c + 1, n + n1, rfl, by go_num, hl, by omega, by omega, by first | rfl | exact World.drewN_drewN _ _ _, L.out.no (fun k => by have := (ahB_iff _ _ _).2 k; rw [HN.out] at this; cases this)⟩
            case measure => simp [intOf]; omega
          · have HN : Hid (ahB q' c l = true) := hah
            clear hah
            go_wp2_with fail
            go_roundw
            case rel => exact ⟨c, c + 1, n + n1, rfl, by go_num, k2, by omega, by omega, by first | rfl | exact World.drewN_drewN _ _ _, L.out.yes (by rw [hmany.out]; exact k2) (by omega) (by omega) ((ahB_iff _ _ _).1 HN.out)⟩
            case measure => simp [intOf]; omega
        · have k2' : ¬ (c : Int) < (M : Int) := by omega
          have fin : Hid (∀ d, 0 < d → d < q'.many → (d - 1) / 2 = p → ¬ Hp.ah q'.keys (q'.heap d) (q'.heap l)) := fun d h1 h2 h3 => L.out.min d h1 h2 h3 (by have := hmany.out; omega)
          by_cases k3 : l = p
          · subst k3
            go_wp2_with fail
            refine bodyPost_ret (results_none rfl _ _ _) rfl ?_
            obtain ⟨h1, h2, h3, h4, h5⟩ := H.out
            exact ⟨rfl, h1.trans (Only.drewN b o _ _), q', h2.drewN _, h3, h4, Hp.sink_end h5 fin.out⟩
          · have k3' : ((l : Int) == (p : Int)) = false := by simp; omega
            go_wp2_with fail
            refine (swap_i b o _ _ q' _ (H.out.2.1.drewN _) (by omega) (by omega) (by omega) (by omega) (by rw [Int.toNat_natCast]; exact (H.out.2.2.1.at_ p (by rw [hmany.out]; exact hp)).1) (by rw [Int.toNat_natCast]; exact (H.out.2.2.1.at_ l (by rw [hmany.out]; exact hl)).1)).mono ?_
            rintro e w2 ⟨rfl, h2, o2⟩
            rw [Int.toNat_natCast, Int.toNat_natCast] at h2
            have H2 : Hid _ := h2
            have O2 : Hid _ := o2
            clear h2 o2
            go_wp2_with fail
            go_roundw
            case rel =>
              obtain ⟨h1, h2, h3, h4, h5⟩ := H.out
              have hpm : p < q'.many := by rw [hmany.out]; exact hp
              have hlm : l < q'.many := by rw [hmany.out]; exact hl
              have sw := Hp.swap_ok h3 hpm hlm
              have who := (L.out.who).resolve_left k3
              exact ⟨l, _, rfl, hl, (h1.trans (Only.drewN b o _ _)).trans O2.out, H2.out, sw.1, h4.trans sw.2, Hp.sink_step h5 who.1 hlm who.2.1 who.2.2 fin.out⟩
            case measure =>
              have who := (L.out.who).resolve_left k3
              simp [intOf]; omega
      · have d1 : decide ((c : Int) ≤ 2 * (p : Int) + 2) = false := by simp; omega
        have fin : Hid (∀ d, 0 < d → d < q'.many → (d - 1) / 2 = p → ¬ Hp.ah q'.keys (q'.heap d) (q'.heap l)) := fun d h1 h2 h3 => L.out.min d h1 h2 h3 (by have := hmany.out; omega)
        by_cases k3 : l = p
        · subst k3
          go_wp2_with fail
          refine bodyPost_ret (results_none rfl _ _ _) rfl ?_
          obtain ⟨h1, h2, h3, h4, h5⟩ := H.out
          exact ⟨rfl, h1.trans (Only.drewN b o _ _), q', h2.drewN _, h3, h4, Hp.sink_end h5 fin.out⟩
        · have k3' : ((l : Int) == (p : Int)) = false := by simp; omega
          go_wp2_with fail
          refine (swap_i b o _ _ q' _ (H.out.2.1.drewN _) (by omega) (by omega) (by omega) (by omega) (by rw [Int.toNat_natCast]; exact (H.out.2.2.1.at_ p (by rw [hmany.out]; exact hp)).1) (by rw [Int.toNat_natCast]; exact (H.out.2.2.1.at_ l (by rw [hmany.out]; exact hl)).1)).mono ?_
          rintro e w2 ⟨rfl, h2, o2⟩
          rw [Int.toNat_natCast, Int.toNat_natCast] at h2
          have H2 : Hid _ := h2
          have O2 : Hid _ := o2
          clear h2 o2
          go_wp2_with fail
          go_roundw
          case rel =>
            obtain ⟨h1, h2, h3, h4, h5⟩ := H.out
            have hpm : p < q'.many := by rw [hmany.out]; exact hp
            have hlm : l < q'.many := by rw [hmany.out]; exact hl
            have sw := Hp.swap_ok h3 hpm hlm
            have who := (L.out.who).resolve_left k3
            exact ⟨l, _, rfl, hl, (h1.trans (Only.drewN b o _ _)).trans O2.out, H2.out, sw.1, h4.trans sw.2, Hp.sink_step h5 who.1 hlm who.2.1 who.2.2 fin.out⟩
          case measure =>
            have who := (L.out.who).resolve_left k3
            simp [intOf]; omega

end Go.Proofs.Ytgabfkaadflciaa

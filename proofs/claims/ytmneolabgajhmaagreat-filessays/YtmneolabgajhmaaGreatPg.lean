/- The code's pipes: Make, Pipes. -/
import Derived.Test.YtmneolabgajhmaaGreatPb
namespace Go.Proofs.YtmneolabgajhmaaGreat
open Go.RowKit
open Pp (Pi)

/-- The lowest free number is n, or there is none. -/
def Pp.FreeTo (S : Nat → Pi) (n : Nat) (E : Int) : Prop := (E = 0 ∧ n < 8 ∧ Pp.thr (S n) = false ∧ ∀ m, m < n → Pp.thr (S m) = true) ∨ (E = 4 ∧ n = 0 ∧ ∀ m, m < 8 → Pp.thr (S m) = true)
theorem Pp.FreeTo.unique {S : Nat → Pi} {n m : Nat} {E G : Int} (h : Pp.FreeTo S n E) (k : Pp.FreeTo S m G) : n = m ∧ E = G := by
  rcases h with ⟨e1, h1, h2, h3⟩ | ⟨e1, h1, h2⟩ <;> rcases k with ⟨e2, k1, k2, k3⟩ | ⟨e2, k1, k2'⟩
  · refine ⟨?_, by omega⟩
    rcases Nat.lt_trichotomy n m with c | c | c
    · exact absurd (k3 n c) (by rw [h2]; decide)
    · exact c
    · exact absurd (h3 m c) (by rw [k2]; decide)
  · exact absurd (k2' n h1) (by rw [h2]; decide)
  · exact absurd (h2 m k1) (by rw [k2]; decide)
  · exact ⟨by omega, by omega⟩
def Pp.makF (S : Nat → Pi) (n : Nat) (E : Int) : Nat → Pi := if E = 0 then Pp.put S n ⟨⟨#[]⟩, 1, 1⟩ else S
set_option maxRecDepth 100000 in
set_option maxHeartbeats 1000000 in
theorem pmake_any (b : Nat) (S : Nat → Pi) (w : World) (h : PAt w b S) :
    Calls Tryz.prog 89 #[.pointer (some ⟨b, 0, none⟩)] w fun e w' => ∃ (n : Nat) (E : Int), e = .returned (.tuple #[.int .i64 (n : Int), errV E]) ∧ Pp.FreeTo S n E ∧ PAt w' b (Pp.makF S n E) ∧ Frm b w w' := by
  have HF := Hid.intro h
  clear h
  go_enter Tryz.func89, Tryz.ntmps89
  go_wp2_with fail
  go_loopw [4, 5] (fun x i wr => ∃ (n : Nat), i = .int .i64 n ∧ n ≤ 8 ∧ Hid (∀ m, m < n → Pp.thr (S m) = true) ∧ wr = w) (fun _ i _ => 8 - (intOf i).toNat)
  case atStart => exact ⟨0, rfl, by omega, fun m hm => by omega, rfl⟩
  case round =>
    obtain ⟨n, rfl, hn, HN, hwr⟩ := hrel
    subst wr
    by_cases hlt : n < 8
    · have hltI : (n : Int) < 8 := by omega
      go_wp2_with fail
      refine (pthere_any b n S _ HF.out hlt).mono ?_
      rintro e w1 ⟨rfl, hw1⟩
      subst w1
      cases hth : Pp.thr (S n)
      · have TH := Hid.intro (HF.out.there15 n hlt 1 1)
        have HS := Hid.intro (Pp.info_pipe 1 1)
        have H1 := Hid.intro (Pp.noA_one 1 1)
        have FT : Hid (Pp.FreeTo S n 0) := Hid.intro (.inl ⟨rfl, hlt, hth, HN.out⟩)
        have FIN : Hid (PAt (w.setCells b (n * 15) (Pp.noA 1 1).toList) b (Pp.makF S n 0) ∧ Frm b w (w.setCells b (n * 15) (Pp.noA 1 1).toList)) := Hid.intro (by
          unfold Pp.makF
          rw [if_pos rfl]
          exact ⟨HF.out.setNo n hlt 1 1, Pp.frm_setCells _ _ (Frm.refl b w)⟩)
        obtain ⟨A, hA⟩ : ∃ A, Pp.noA 1 1 = A := ⟨_, rfl⟩
        rw [hA] at FIN TH HS H1
        go_wp2_with (first | (refine Pp.wp_build2 rfl rfl ?_; rw [hA]) | (refine wpList_store_mid rfl 44 _ _ rfl b (n * 15) A rfl rfl TH.out HS.out H1.out ?_))
        go_ret2
        exact ⟨n, 0, rfl, FT.out, FIN.out⟩
      · have HN2 : Hid (∀ m, m < n + 1 → Pp.thr (S m) = true) := Hid.intro (fun m hm => by
          by_cases c : m = n
          · subst c; exact hth
          · exact HN.out m (by omega))
        clear hth
        go_wp2_with fail
        go_roundw
        case rel => exact ⟨n + 1, by go_num, by omega, HN2, by first | rfl | trivial⟩
        case measure => simp [intOf]; omega
    · have hltI : ¬ (n : Int) < 8 := by omega
      obtain rfl : n = 8 := by omega
      have FT : Hid (Pp.FreeTo S 0 4) := Hid.intro (.inr ⟨rfl, rfl, HN.out⟩)
      have FF : Hid (Pp.makF S 0 4 = S) := Hid.intro (if_neg (by decide))
      go_wp2_with fail
      go_ret2
      exact ⟨0, 4, rfl, FT.out, by rw [FF.out]; exact HF.out, Frm.refl _ _⟩
/-- How many there are. -/
def Pp.cnt (S : Nat → Pi) : Nat → Nat
  | 0 => 0
  | n + 1 => Pp.cnt S n + if Pp.thr (S n) then 1 else 0
theorem Pp.cnt_le (S : Nat → Pi) : ∀ n, Pp.cnt S n ≤ n
  | 0 => Nat.le_refl 0
  | n + 1 => by
    have := Pp.cnt_le S n
    unfold Pp.cnt
    split <;> omega
set_option maxRecDepth 100000 in
set_option maxHeartbeats 1000000 in
theorem ppipes_any (b : Nat) (S : Nat → Pi) (w : World) (h : PAt w b S) :
    Calls Tryz.prog 18 #[.pointer (some ⟨b, 0, none⟩)] w fun e w' => e = .returned (.int .i64 (Pp.cnt S 8 : Int)) ∧ w' = w := by
  have HF := Hid.intro h
  clear h
  go_enter Tryz.func18, Tryz.ntmps18
  go_wp2_with fail
  go_loopw [3, 4, 5] (fun c x i wr => ∃ (n : Nat), i = .int .i64 n ∧ c = .int .i64 (Pp.cnt S n : Int) ∧ n ≤ 8 ∧ wr = w) (fun _ _ i _ => 8 - (intOf i).toNat)
  case atStart => exact ⟨0, rfl, rfl, by omega, rfl⟩
  case round =>
    obtain ⟨n, rfl, rfl, hn, hwr⟩ := hrel
    subst wr
    by_cases hlt : n < 8
    · have hltI : (n : Int) < 8 := by omega
      have lc := Pp.cnt_le S n
      have LS : Hid (Pp.cnt S (n + 1) = Pp.cnt S n + if Pp.thr (S n) then 1 else 0) := Hid.intro rfl
      generalize Pp.cnt S n = cn at *
      go_wp2_with fail
      refine (pthere_any b n S _ HF.out hlt).mono ?_
      rintro e w1 ⟨rfl, hw1⟩
      subst w1
      cases hth : Pp.thr (S n)
      · rw [hth, if_neg (by decide)] at LS
        clear hth
        go_wp2_with fail
        go_roundw
        case rel => exact ⟨n + 1, by go_num, by rw [LS.out]; rfl, by omega, by first | rfl | trivial⟩
        case measure => simp [intOf]; omega
      · rw [hth, if_pos rfl] at LS
        clear hth
        go_wp2_with fail
        go_roundw
        case rel => exact ⟨n + 1, by go_num, by rw [LS.out]; go_num, by omega, by first | rfl | trivial⟩
        case measure => simp [intOf]; omega
    · have hltI : ¬ (n : Int) < 8 := by omega
      obtain rfl : n = 8 := by omega
      go_wp2_with fail
      go_ret
      exact ⟨rfl, rfl⟩
end Go.Proofs.YtmneolabgajhmaaGreat

/- The document's own memory: Regions. -/
import Derived.Test.YtnppahmlifnnnabPc
import Derived.Test.YtnppahmlifnnnabMn
namespace Go.Proofs.Ytnppahmlifnnnab
open Go.RowKit
open Mv (Me Rg)

theorem max_nat (p : Nat) : (if (0 : Int) > (p : Int) then (0 : Int) else (p : Int)) = (p : Int) := if_neg (by omega)
theorem RO.cells {w wr : World} {J : List Rg} {f c gg cap N : Nat} {t : Bool} (h : RO w (J ++ [(f, c, t)]) (.slice (some ⟨gg, 0, none⟩) N cap) wr) (hN : J.length + 1 = N) : wr.cell? ⟨gg, J.length * 3, none⟩ = some (.int .i64 (f : Int)) := by
  have ho := h.own
  rw [show (J ++ [(f, c, t)]).length = N by simp [hN]] at ho
  rw [ho.cellAt _ (by omega)]
  exact rcs_at _ J.length 0 (f, c, t) (by simp) (by omega)
theorem RO.drewN {w wr : World} {L : List Rg} {v : Value} (h : RO w L v wr) (n : Nat) : RO w L v (wr.drewN n) := h.below ⟨rfl, rfl, rfl, Nat.le_refl _, fun _ _ => rfl⟩
theorem rgK_len (m : Me) : ∀ n, (Mv.rgK m n).length ≤ n := by
  intro n
  induction n with
  | zero => exact Nat.le_refl 0
  | succ n ih =>
    show (if m.is n = 0 then Mv.rgK m n else (if Mv.goesOn m n = true then Mv.bump (Mv.rgK m n) else Mv.rgK m n ++ [(n, 1, decide (m.is n = 2))])).length ≤ n + 1
    have bl : ∀ L : List Rg, (Mv.bump L).length = L.length := fun L => by
      rcases List.eq_nil_or_concat L with rfl | ⟨I, x, rfl⟩
      · rfl
      · rw [List.concat_eq_append, Mv.bump_app]; simp
    split
    · omega
    · split
      · rw [bl]; omega
      · rw [List.length_append]; simp; omega
section
attribute [local go_sem] max_nat
set_option maxRecDepth 100000 in
set_option maxHeartbeats 4000000 in
theorem rregions_any (b r : Nat) (m : Me) (own : Nat → Bool) (w : World) (h : MAt w b r m own) (hm : ∀ i, i < 16 → m.is i ≤ 2) :
    Calls Try.prog 72 #[.pointer (some ⟨b, 0, none⟩)] w fun e w' => ∃ v, e = .returned v ∧ RO w (Mv.rgK m 16) v w' := by
  have HF := Hid.intro h
  have HI := Hid.intro (Mv.rgI m hm)
  have HM := Hid.intro hm
  clear h hm
  obtain ⟨i0, z0, hi0, hz0, hz1, hz2, hz3⟩ := infoRg
  go_enter Try.func72, Try.ntmps72
  go_wp2_with fail
  go_loopw [3, 4, 5] (fun v i x wr => ∃ (n : Nat), i = .int .i64 n ∧ n ≤ 16 ∧ Hid (RO w (Mv.rgK m n) v wr)) (fun _ i _ _ => 16 - (intOf i).toNat)
  case atStart => exact ⟨0, rfl, by omega, RO.start w⟩
  case round =>
    obtain ⟨n, rfl, hn, S⟩ := hrel
    by_cases hlt : n < 16
    · have hltI : (n : Int) < 16 := by omega
      have SL := rgK_len m n
      obtain ⟨va, vc, hv⟩ := S.out.form
      subst hv
      have c1 := (HF.out.below S.out.bel).cIs n hlt
      by_cases d0 : m.is n = 0
      · have SE : Hid (Mv.rgK m (n + 1) = Mv.rgK m n) := Hid.intro (if_pos d0)
        rw [d0] at c1
        have c1' : wr.cell? ⟨b, 1 + n, none⟩ = some (.int .i64 0) := c1
        clear d0 c1
        go_wp2_with fail
        go_roundw
        case rel => exact ⟨n + 1, by go_num, by omega, by rw [SE.out]; exact S⟩
        case measure => simp [intOf]; omega
      · have SE : Hid (Mv.rgK m (n + 1) = if Mv.goesOn m n = true then Mv.bump (Mv.rgK m n) else Mv.rgK m n ++ [(n, 1, decide (m.is n = 2))]) := Hid.intro (if_neg d0)
        have u2 := HM.out n hlt
        obtain ⟨u, hu⟩ : ∃ u, m.is n = u := ⟨_, rfl⟩
        have u0 : ((u : Int) == 0) = false := by simp; omega
        obtain ⟨tt, htt⟩ : ∃ tt, ((u : Int) == 2) = tt := ⟨_, rfl⟩
        have HTT : Hid (decide (m.is n = 2) = tt) := Hid.intro (by
          rw [← htt, hu]
          by_cases c : u = 2
          · subst c; rfl
          · simp [c]; omega)
        rw [HTT.out] at SE
        cases hg : Mv.goesOn m n
        · rw [hg, if_neg (by decide)] at SE
          obtain ⟨N, hN⟩ : ∃ N, (Mv.rgK m n).length = N := ⟨_, rfl⟩
          have HN := Hid.intro hN
          rw [hu] at c1
          rw [hN] at S SL ⊢
          by_cases n0 : N = 0
          · have n0I : decide (0 < N) = false := by simp [n0]
            have hNb : N ≤ 16 := by omega
            clear hN hu d0 hg n0
            go_wp2_with fail
            go_quiet (fail)
            generalize hW : World.drewN wr _ = W1
            have R2 : Hid (RO w (Mv.rgK m n) (.slice va N vc) W1) := Hid.intro (by rw [← hW]; exact S.out.drewN _)
            have e1 : W1.cell? ⟨b, 1 + (n), none⟩ = some (.int .i64 (u : Int)) := by rw [← hW]; exact c1
            clear hW c1 S
            go_wp2_with (at_builtin; refine wpList_append_lies _ rfl _ _ 104 (by rfl) w.heap.size 191 i0 z0 3 24 Try.underlying104 hi0 hz0 hz1 hz2 hz3 (by decide) (.slice va N vc) N (rcs (Mv.rgK m (n))) (by rfl) (by have := R2.out.own; rw [HN.out] at this; exact this.alloc _) ⟨W1.heap.size, 0, none⟩ 1 1 (rgC (n, 1, tt)) (by rfl) rfl (World.news_of_block (heap_alloc_new W1 _)) (by simp [rgC, Value.oneCell']) (by decide) (by unfold maxLen; omega) (by omega) (by have := R2.out.bel.size; simp; omega) (W1.heap.size + 1) (by simp) ?_; intro gg cap2 w2 hown hgrow hat hlt2; have Q1 : Hid (RO w (Mv.rgK m (n) ++ [(n, 1, tt)]) (.slice (some ⟨gg, 0, none⟩) (N + 1) cap2) w2) := Hid.intro (R2.out.more (n, 1, tt) HN.out hown _ hgrow); clear hown hgrow hat hlt2)
            go_roundw
            case rel => exact ⟨n + 1, by go_num, by omega, by rw [SE.out]; exact Q1⟩
            case measure => simp [intOf]; omega
          · have n0I : decide (0 < N) = true := by simp; omega
            obtain ⟨p, rfl⟩ : ∃ p, n = p + 1 := ⟨n - 1, by omega⟩
            have hNb : N ≤ 16 := by omega
            have c2 := (HF.out.below S.out.bel).cIs p (by omega)
            obtain ⟨u', hu'⟩ : ∃ u', m.is p = u' := ⟨_, rfl⟩
            have une : ((u' : Int) == (u : Int)) = false := by
              unfold Mv.goesOn at hg
              rw [Nat.add_sub_cancel, hu, hu'] at hg
              simp at hg
              simp; omega
            rw [hu'] at c2
            have hpI : (p : Int) < 16 := by omega
            have hw1 : IntKind.i64.wrap (((p + 1 : Nat) : Int) - 1) = (p : Int) := by rw [IntWalk.i64_in _ ⟨by omega, by omega⟩]; omega
            clear hN hu d0 hg n0 hu'
            go_wp2_with fail
            go_quiet (fail)
            generalize hW : World.drewN wr _ = W1
            have R2 : Hid (RO w (Mv.rgK m (p + 1)) (.slice va N vc) W1) := Hid.intro (by rw [← hW]; exact S.out.drewN _)
            have e1 : W1.cell? ⟨b, 1 + (p + 1), none⟩ = some (.int .i64 (u : Int)) := by rw [← hW]; exact c1
            clear hW c1 S c2
            go_wp2_with (at_builtin; refine wpList_append_lies _ rfl _ _ 104 (by rfl) w.heap.size 191 i0 z0 3 24 Try.underlying104 hi0 hz0 hz1 hz2 hz3 (by decide) (.slice va N vc) N (rcs (Mv.rgK m (p + 1))) (by rfl) (by have := R2.out.own; rw [HN.out] at this; exact this.alloc _) ⟨W1.heap.size, 0, none⟩ 1 1 (rgC (p + 1, 1, tt)) (by rfl) rfl (World.news_of_block (heap_alloc_new W1 _)) (by simp [rgC, Value.oneCell']) (by decide) (by unfold maxLen; omega) (by omega) (by have := R2.out.bel.size; simp; omega) (W1.heap.size + 1) (by simp) ?_; intro gg cap2 w2 hown hgrow hat hlt2; have Q1 : Hid (RO w (Mv.rgK m (p + 1) ++ [(p + 1, 1, tt)]) (.slice (some ⟨gg, 0, none⟩) (N + 1) cap2) w2) := Hid.intro (R2.out.more (p + 1, 1, tt) HN.out hown _ hgrow); clear hown hgrow hat hlt2)
            go_roundw
            case rel => exact ⟨p + 1 + 1, by go_num, by omega, by rw [SE.out]; exact Q1⟩
            case measure => simp [intOf]; omega
        · rw [hg, if_pos rfl] at SE
          have hg' := hg
          unfold Mv.goesOn at hg'
          simp only [Bool.and_eq_true, decide_eq_true_eq] at hg'
          obtain ⟨J, I, f, c, _, e2, e3⟩ := (HI.out n (by omega)).last hg'.1 (decide (m.is n = 2)) (by rw [hg'.2]; exact Mv.asN_of d0 u2)
          rw [HTT.out] at e2
          rw [e2, Mv.bump_app] at SE
          obtain ⟨p, rfl⟩ : ∃ p, n = p + 1 := ⟨n - 1, by omega⟩
          have c2 := (HF.out.below S.out.bel).cIs p (by omega)
          rw [Nat.add_sub_cancel] at hg'
          rw [hg'.2, hu] at c2
          rw [hu] at c1
          rw [e2] at S SL ⊢
          obtain ⟨N, hN⟩ : ∃ N, I.length = N := ⟨_, rfl⟩
          have hl : (I ++ [(f, c, tt)]).length = N + 1 := by simp [hN]
          obtain ⟨gg, cap, hv, _, _⟩ := S.out.own.form (by rw [hl]; omega)
          rw [hv] at S ⊢
          rw [hl] at S SL ⊢
          have CF := S.out.cell (by rw [hN])
          have a0 := S.out.cells (by rw [hN])
          have a1 := CF.1
          rw [hN] at a0 a1
          have S2 := Hid.intro (S.out.bump (by rw [hN]))
          rw [hN] at S2
          have HNI := Hid.intro hN
          have hpI : (p : Int) < 16 := by omega
          have hw1 : IntKind.i64.wrap (((p + 1 : Nat) : Int) - 1) = (p : Int) := by rw [IntWalk.i64_in _ ⟨by omega, by omega⟩]; omega
          have hw2 : IntKind.i64.wrap (((N + 1 : Nat) : Int) - 1) = (N : Int) := by rw [IntWalk.i64_in _ ⟨by omega, by omega⟩]; omega
          have hw3 : IntKind.i64.wrap ((f : Int) + (c : Int)) = ((p + 1 : Nat) : Int) := by rw [IntWalk.i64_in _ ⟨by omega, by omega⟩]; omega
          have hw4 : IntKind.i64.wrap ((c : Int) + 1) = (c : Int) + 1 := IntWalk.i64_in _ ⟨by omega, by omega⟩
          have n0I : decide (0 < N + 1) = true := by simp
          clear hN hu d0 hg hg' e2 e3 hl hv CF
          go_wp2_with fail
          go_quiet (fail)
          generalize hW : World.drewN wr _ = W1
          have R2 : Hid (RO w (I ++ [(f, c, tt)]) (.slice (some ⟨gg, 0, none⟩) (N + 1) cap) W1) := Hid.intro (by rw [← hW]; exact S.out.drewN _)
          clear hW c1 c2 S S2 a0 a1
          have CF := R2.out.cell (by rw [HNI.out])
          have a1 := CF.1
          have af := CF.2
          rw [HNI.out] at a1
          have S2 := Hid.intro (R2.out.bump (by rw [HNI.out]))
          rw [HNI.out] at S2
          have S3 : Hid (RO w (I ++ [(f, c + 1, tt)]) (.slice (some ⟨gg, 0, none⟩) (N + 1) cap) (W1.setCell ⟨gg, N * 3 + 1, none⟩ (.int .i64 ((c : Int) + 1)))) := S2
          clear CF S2
          go_wp2_with fail
          go_roundw
          case rel => exact ⟨p + 1 + 1, by go_num, by omega, by rw [SE.out]; exact S3⟩
          case measure => simp [intOf]; omega
    · have hltI : ¬ (n : Int) < 16 := by omega
      obtain rfl : n = 16 := by omega
      go_wp2_with fail
      go_ret
      exact ⟨_, rfl, S.out⟩
end
end Go.Proofs.Ytnppahmlifnnnab

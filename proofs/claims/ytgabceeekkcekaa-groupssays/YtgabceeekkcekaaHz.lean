/- The document's own tree: Move. -/
import Derived.Test.YtgabceeekkcekaaHy
namespace Go.Proofs.Ytgabceeekkcekaa
open Go.RowKit Go.Shelf

theorem chgE_nn {t : Nat → Gp} {Wy : Nat → List (Fin 10)} {g p q : Int} (h : chgE t Wy g p q ≠ 0) : 0 < chgE t Wy g p q := by
  unfold chgE at h ⊢
  by_cases hr : refE t g p q = 0
  · rw [if_pos hr] at h ⊢
    split <;> simp_all
  · rw [if_neg hr]; exact refE_pos hr
theorem uncE_nn {t : Nat → Gp} {g p q : Int} (h : uncE t g p q ≠ 0) : 0 < uncE t g p q := by
  unfold uncE at h ⊢
  by_cases hr : refE t g p q = 0
  · rw [if_pos hr] at h ⊢
    split <;> simp_all
  · rw [if_neg hr]; exact refE_pos hr

set_option maxRecDepth 100000 in
set_option maxHeartbeats 400000 in
theorem rmove_wr (b : Nat) (f g p q : Int) (t : Nat → Gp) (h : Nat → Bool) (G : Nat → Nat → Int) (w : World) (H0 : UAt w b h G) (hh : ∀ k, k < 10 → h k = (t k).there) (hw : wr t g ≠ 0) :
    Calls Try.prog 38 #[.pointer (some ⟨b, 0, none⟩), .int .i64 f, .int .i64 g, .int .i64 p, .int .i64 q] w fun e w' => e = .returned (.int .i64 (wr t g)) ∧ w' = w := by
  have H := Hid.intro (And.intro H0 hh)
  have hp := wr_pos hw
  clear H0 hh hw
  go_enter Try.func38, Try.ntmps38
  go_wp2_with fail
  refine (is_any b g t h G _ H.out.1 H.out.2).mono ?_
  rintro e w1 ⟨rfl, hw1⟩
  subst w1
  go_wp2
  go_ret
  exact ⟨rfl, rfl⟩

set_option maxRecDepth 100000 in
set_option maxHeartbeats 400000 in
theorem rmove_unc (b : Nat) (f g p q : Int) (t : Nat → Gp) (Wy : Nat → List (Fin 10)) (c : Nat) (h : Nat → Bool) (G : Nat → Nat → Int) (w : World) (H0 : UAt w b h G) (hT : Tree t Wy c) (hc : c ≤ 1000) (hR : Rel t Wy h G) (hw : wr t g = 0) (hu : uncE t f p q ≠ 0) :
    Calls Try.prog 38 #[.pointer (some ⟨b, 0, none⟩), .int .i64 f, .int .i64 g, .int .i64 p, .int .i64 q] w fun e w' => e = .returned (.int .i64 (uncE t f p q)) ∧ UAt w' b h G ∧ Frm b w w' := by
  have H := Hid.intro (And.intro H0 (And.intro hT (And.intro hR (And.intro hw hu))))
  have hp := uncE_nn hu
  clear H0 hT hR hw hu
  go_enter Try.func38, Try.ntmps38
  go_wp2_with fail
  refine (is_any b g t h G _ H.out.1 (fun k hk => (H.out.2.2.1 k hk).1)).mono ?_
  rintro e w1 ⟨rfl, hw1⟩
  subst w1
  rw [H.out.2.2.2.1]
  go_wp2_with fail
  refine (runcharge_any b f p q t Wy c h G _ H.out.1 H.out.2.1 hc H.out.2.2.1).mono ?_
  rintro e w2 ⟨rfl, hU, hF⟩
  rw [uncG_no H.out.2.2.2.2] at hU
  have HU := Hid.intro (And.intro hU hF)
  clear hU hF
  go_wp2
  go_ret
  exact ⟨rfl, HU.out.1, HU.out.2⟩

set_option maxRecDepth 100000 in
set_option maxHeartbeats 1000000 in
theorem rmove_rest (b : Nat) (f g p q : Int) (t : Nat → Gp) (Wy : Nat → List (Fin 10)) (c : Nat) (h : Nat → Bool) (G : Nat → Nat → Int) (w : World) (H0 : UAt w b h G) (hT : Tree t Wy c) (hc : c ≤ 1000) (hR : Rel t Wy h G) (hl : Lims t) (hw : wr t g = 0) (hu : uncE t f p q = 0) :
    Calls Try.prog 38 #[.pointer (some ⟨b, 0, none⟩), .int .i64 f, .int .i64 g, .int .i64 p, .int .i64 q] w fun e w' => e = .returned (.int .i64 (chgE (uncT t f p q) Wy g p q)) ∧ ∃ G', UAt w' b h G' ∧ Frm b w w' ∧ Rel (movT t Wy f g p q) Wy h G' := by
  obtain ⟨n, rfl, hn, hh, hp, hq, hle, hUT⟩ := unc_ok hu
  have hT1 := unc_tree hT hn hp.1 hq.1 hle
  have hl1 : Lims (addO t n (-p) (-q)) := fun k hk => by rw [(addO_lim t n _ _ k).1, (addO_lim t n _ _ k).2]; exact hl k hk
  have hme : movE t Wy n g p q = chgE (addO t n (-p) (-q)) Wy g p q := by unfold movE; rw [if_pos hw, if_pos hu, hUT]
  have hR1 := rel_lay hR hn (-p) (-q)
  have hh1 : (addO t n (-p) (-q) n).there = true := by rw [(addO_same t n _ _ n).1]; exact hh
  have HM : Hid (chgE (addO t n (-p) (-q)) Wy g p q = 0 → movT t Wy n g p q = chgT (addO t n (-p) (-q)) Wy g p q) := fun he => by
    unfold movT; rw [if_pos (hme.trans he), hUT]
  have HM2 : Hid (chgE (addO t n (-p) (-q)) Wy g p q ≠ 0 → movT t Wy n g p q = t) := fun he => by
    unfold movT; rw [if_neg (fun e => he (hme.symm.trans e))]
  have H := Hid.intro (And.intro H0 (And.intro hT (And.intro hR (And.intro hw hu))))
  have H1 := Hid.intro (And.intro hT1 (And.intro hl1 (And.intro hR1 (And.intro hh1 hR))))
  rw [hUT]
  clear H0 hT hR hw hu hT1 hl1 hR1 hh1 hme hUT hl hle hh
  go_enter Try.func38, Try.ntmps38
  go_wp2_with fail
  refine (is_any b g t h G _ H.out.1 (fun k hk => (H.out.2.2.1 k hk).1)).mono ?_
  rintro e w1 ⟨rfl, hw1⟩
  subst w1
  rw [H.out.2.2.2.1]
  go_wp2_with fail
  refine (runcharge_any b n p q t Wy c h G _ H.out.1 H.out.2.1 hc H.out.2.2.1).mono ?_
  rintro e w2 ⟨rfl, hU, hF⟩
  rw [uncG_ok H.out.2.2.2.2] at hU
  rw [H.out.2.2.2.2]
  have HU := Hid.intro (And.intro hU hF)
  clear hU hF
  go_wp2_with fail
  refine (rcharge_any b g p q (addO t n (-p) (-q)) Wy c h (layG G (vals (Wy n)) (-p) (-q)) _ HU.out.1 H1.out.1 hc H1.out.2.2.1 H1.out.2.1).mono ?_
  rintro e w3 ⟨rfl, hU3, hF3⟩
  by_cases he : chgE (addO t n (-p) (-q)) Wy g p q = 0
  · have HU3 := Hid.intro (And.intro hU3 (And.intro (HU.out.2.trans hF3) he))
    rw [he]
    clear hU3 hF3 he
    go_wp2
    go_ret
    refine ⟨by rw [HU3.out.2.2]; rfl, _, HU3.out.1, HU3.out.2.1, ?_⟩
    rw [HM.out HU3.out.2.2]
    exact rel_chg H1.out.1 H1.out.2.2.1 g p q
  · rw [chgG_no he] at hU3
    have HU3 := Hid.intro (And.intro hU3 (And.intro (HU.out.2.trans hF3) he))
    have hpos := chgE_nn he
    clear hU3 hF3 he
    go_wp2_with fail
    refine (rlay_any b n p q (addO t n (-p) (-q)) Wy c h (layG G (vals (Wy n)) (-p) (-q)) _ HU3.out.1 H1.out.1 hc H1.out.2.2.1 hn H1.out.2.2.2.1 (by omega) (by omega)).mono ?_
    rintro e w4 ⟨⟨v, rfl⟩, hU4, hF4⟩
    have HU4 := Hid.intro (And.intro hU4 (HU3.out.2.1.trans hF4))
    clear hU4 hF4
    go_wp2
    go_ret
    refine ⟨rfl, _, HU4.out.1, HU4.out.2, ?_⟩
    rw [HM2.out HU3.out.2.2]
    have := rel_lay H1.out.2.2.1 hn p q
    rw [addO_back] at this
    exact this

theorem rmove_any (b : Nat) (f g p q : Int) (t : Nat → Gp) (Wy : Nat → List (Fin 10)) (c : Nat) (h : Nat → Bool) (G : Nat → Nat → Int) (w : World) (H0 : UAt w b h G) (hT : Tree t Wy c) (hc : c ≤ 1000) (hR : Rel t Wy h G) (hl : Lims t) :
    Calls Try.prog 38 #[.pointer (some ⟨b, 0, none⟩), .int .i64 f, .int .i64 g, .int .i64 p, .int .i64 q] w fun e w' => e = .returned (.int .i64 (movE t Wy f g p q)) ∧ ∃ G', UAt w' b h G' ∧ Frm b w w' ∧ Rel (movT t Wy f g p q) Wy h G' := by
  by_cases hw : wr t g = 0
  · by_cases hu : uncE t f p q = 0
    · have e : movE t Wy f g p q = chgE (uncT t f p q) Wy g p q := by unfold movE; rw [if_pos hw, if_pos hu]
      rw [e]
      exact rmove_rest b f g p q t Wy c h G w H0 hT hc hR hl hw hu
    · have e : movE t Wy f g p q = uncE t f p q := by unfold movE; rw [if_pos hw, if_neg hu]
      refine (rmove_unc b f g p q t Wy c h G w H0 hT hc hR hw hu).mono ?_
      rintro e' w' ⟨rfl, hU, hF⟩
      exact ⟨by rw [e], G, hU, hF, by rw [mov_no (by rw [e]; exact hu)]; exact hR⟩
  · have e : movE t Wy f g p q = wr t g := if_neg hw
    refine (rmove_wr b f g p q t h G w H0 (fun k hk => (hR k hk).1) hw).mono ?_
    rintro e' w' ⟨rfl, rfl⟩
    exact ⟨by rw [e], G, H0, Frm.refl _ _, by rw [mov_no (by rw [e]; exact hw)]; exact hR⟩
end Go.Proofs.Ytgabceeekkcekaa

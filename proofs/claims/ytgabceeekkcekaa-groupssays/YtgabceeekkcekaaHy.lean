/- The document's own tree: Remove, Limit, Uncharge, Move. -/
import Derived.Test.YtgabceeekkcekaaHx
namespace Go.Proofs.Ytgabceeekkcekaa
open Go.RowKit Go.Shelf

/-- The code of a Remove. -/
def remE (t : Nat → Gp) (Wy : Nat → List (Fin 10)) (g : Int) : Int := if wr t g = 0 then (if g = 0 ∨ totTo t Wy g Gp.op 10 ≠ 0 ∨ totTo t Wy g Gp.oq 10 ≠ 0 ∨ abvB t g = true then 5 else 0) else wr t g

set_option maxRecDepth 100000 in
set_option maxHeartbeats 1000000 in
theorem rremove_any (b : Nat) (g : Int) (t : Nat → Gp) (Wy : Nat → List (Fin 10)) (h : Nat → Bool) (G : Nat → Nat → Int) (w : World) (H0 : UAt w b h G) (hR : Rel t Wy h G) :
    Calls Try.prog 26 #[.pointer (some ⟨b, 0, none⟩), .int .i64 g] w fun e w' => e = .returned (.int .i64 (remE t Wy g)) ∧ ((remE t Wy g ≠ 0 ∧ w' = w) ∨ (remE t Wy g = 0 ∧ UAt w' b (updH h g.toNat false) G ∧ Frm b w w')) := by
  have H := Hid.intro (And.intro H0 hR)
  clear H0 hR
  by_cases hw : wr t g = 0
  · obtain ⟨n, rfl, hn, hh⟩ := wr_zero hw
    rw [Int.toNat_natCast]
    have hnI : (n : Int) < 10 := by omega
    have g3 := H.out.1.cg n 3 hn (by omega)
    have g4 := H.out.1.cg n 4 hn (by omega)
    have c0 := H.out.1.ch n hn
    have gf := H.out.1.frozen
    have gg := H.out.2.g hn hh
    rw [gg.2.2.2.1] at g3
    rw [gg.2.2.2.2] at g4
    have HW := Hid.intro hw
    have HE : Hid (remE t Wy n = if (n : Int) = 0 ∨ totTo t Wy n Gp.op 10 ≠ 0 ∨ totTo t Wy n Gp.oq 10 ≠ 0 ∨ abvB t n = true then 5 else 0) := if_pos hw
    clear hw hh gg
    generalize remE t Wy n = E at *
    generalize totTo t Wy n Gp.op 10 = X at *
    generalize totTo t Wy n Gp.oq 10 = Y at *
    generalize hA : abvB t n = a at *
    have HA := Hid.intro hA
    clear hA
    have key : E = 5 ∨ (E = 0 ∧ ((n : Int) == 0) = false ∧ X = 0 ∧ Y = 0 ∧ a = false) := by
      rw [HE.out]
      by_cases hc : (n : Int) = 0 ∨ X ≠ 0 ∨ Y ≠ 0 ∨ a = true
      · rw [if_pos hc]; exact .inl rfl
      · rw [if_neg hc]
        refine .inr ⟨rfl, ?_, ?_, ?_, ?_⟩
        · simp; omega
        · exact Decidable.byContradiction fun h => hc (.inr (.inl h))
        · exact Decidable.byContradiction fun h => hc (.inr (.inr (.inl h)))
        · cases a
          · rfl
          · exact absurd (.inr (.inr (.inr rfl))) hc
    have key2 : E = 5 → ((n : Int) = 0) ∨ (((n : Int) == 0) = false ∧ (X == 0) = false ∧ ¬ X = 0) ∨ (((n : Int) == 0) = false ∧ X = 0 ∧ (Y == 0) = false ∧ ¬ Y = 0) ∨ (((n : Int) == 0) = false ∧ X = 0 ∧ Y = 0 ∧ a = true) := by
      intro h5
      rw [HE.out] at h5
      by_cases h1 : (n : Int) = 0
      · exact .inl h1
      · by_cases h2 : X = 0
        · by_cases h3 : Y = 0
          · cases a
            · rw [if_neg (fun hx => hx.elim h1 (fun hx => hx.elim (fun h => h h2) (fun hx => hx.elim (fun h => h h3) (fun h => by cases h))))] at h5; cases h5
            · exact .inr (.inr (.inr ⟨by simpa using h1, h2, h3, rfl⟩))
          · exact .inr (.inr (.inl ⟨by simpa using h1, h2, by simpa using h3, h3⟩))
        · exact .inr (.inl ⟨by simpa using h1, by simpa using h2, h2⟩)
    clear HE
    rcases key with h5 | ⟨h5, k1, k2, k3, k4⟩
    · have HK := Hid.intro (key2 h5)
      subst h5
      clear key2
      rcases HK.out with k1 | ⟨k1, k2, k2'⟩ | ⟨k1, k2, k3, k3'⟩ | ⟨k1, k2, k3, k4⟩
      · obtain rfl : n = 0 := by omega
        clear HK k1
        go_enter Try.func26, Try.ntmps26
        go_wp2_with fail
        refine (is_any b _ t h G _ H.out.1 (fun k hk => (H.out.2 k hk).1)).mono ?_
        rintro e w1 ⟨rfl, hw1⟩
        subst w1
        rw [show wr t 0 = 0 from HW.out]
        go_wp2_with fail
        refine (rbelow_any b 0 t Wy h G _ H.out.1 H.out.2).mono ?_
        rintro e w1 ⟨rfl, hw1⟩
        subst w1
        rw [HA.out]
        go_wp2
        go_ret
        exact ⟨rfl, .inl ⟨by decide, rfl⟩⟩
      · clear HK
        go_enter Try.func26, Try.ntmps26
        go_wp2_with fail
        refine (is_any b _ t h G _ H.out.1 (fun k hk => (H.out.2 k hk).1)).mono ?_
        rintro e w1 ⟨rfl, hw1⟩
        subst w1
        rw [HW.out]
        go_wp2_with fail
        refine (rbelow_any b n t Wy h G _ H.out.1 H.out.2).mono ?_
        rintro e w1 ⟨rfl, hw1⟩
        subst w1
        rw [HA.out]
        go_wp2
        go_ret
        exact ⟨rfl, .inl ⟨by decide, rfl⟩⟩
      · clear HK
        subst k2
        go_enter Try.func26, Try.ntmps26
        go_wp2_with fail
        refine (is_any b _ t h G _ H.out.1 (fun k hk => (H.out.2 k hk).1)).mono ?_
        rintro e w1 ⟨rfl, hw1⟩
        subst w1
        rw [HW.out]
        go_wp2_with fail
        refine (rbelow_any b n t Wy h G _ H.out.1 H.out.2).mono ?_
        rintro e w1 ⟨rfl, hw1⟩
        subst w1
        rw [HA.out]
        go_wp2
        go_ret
        exact ⟨rfl, .inl ⟨by decide, rfl⟩⟩
      · clear HK
        subst k2 k3 k4
        go_enter Try.func26, Try.ntmps26
        go_wp2_with fail
        refine (is_any b _ t h G _ H.out.1 (fun k hk => (H.out.2 k hk).1)).mono ?_
        rintro e w1 ⟨rfl, hw1⟩
        subst w1
        rw [HW.out]
        go_wp2_with fail
        refine (rbelow_any b n t Wy h G _ H.out.1 H.out.2).mono ?_
        rintro e w1 ⟨rfl, hw1⟩
        subst w1
        rw [HA.out]
        go_wp2
        go_ret
        exact ⟨rfl, .inl ⟨by decide, rfl⟩⟩
    · subst h5 k2 k3 k4
      clear key2
      go_enter Try.func26, Try.ntmps26
      go_wp2_with fail
      refine (is_any b _ t h G _ H.out.1 (fun k hk => (H.out.2 k hk).1)).mono ?_
      rintro e w1 ⟨rfl, hw1⟩
      subst w1
      rw [HW.out]
      go_wp2_with fail
      refine (rbelow_any b n t Wy h G _ H.out.1 H.out.2).mono ?_
      rintro e w1 ⟨rfl, hw1⟩
      subst w1
      rw [HA.out]
      go_wp2
      go_ret
      exact ⟨rfl, .inr ⟨trivial, H.out.1.setH n hn false, (Frm.refl _ _).setCell _ _⟩⟩
  · have e : remE t Wy g = wr t g := if_neg hw
    have hp := wr_pos hw
    have HW := Hid.intro hw
    rw [e]
    clear e hw
    go_enter Try.func26, Try.ntmps26
    go_wp2_with fail
    refine (is_any b g t h G _ H.out.1 (fun k hk => (H.out.2 k hk).1)).mono ?_
    rintro e w1 ⟨rfl, hw1⟩
    subst w1
    go_wp2
    go_ret
    exact ⟨rfl, .inl ⟨HW.out, rfl⟩⟩

set_option maxRecDepth 100000 in
set_option maxHeartbeats 400000 in
theorem rlimit_bad (b : Nat) (g p q : Int) (t : Nat → Gp) (h : Nat → Bool) (G : Nat → Nat → Int) (w : World) (H0 : UAt w b h G) (hh : ∀ k, k < 10 → h k = (t k).there) (hw : wr t g ≠ 0) :
    Calls Try.prog 28 #[.pointer (some ⟨b, 0, none⟩), .int .i64 g, .int .i64 p, .int .i64 q] w fun e w' => e = .returned (.int .i64 (wr t g)) ∧ w' = w := by
  have H := Hid.intro (And.intro H0 hh)
  have hp := wr_pos hw
  clear H0 hh hw
  go_enter Try.func28, Try.ntmps28
  go_wp2_with fail
  refine (is_any b g t h G _ H.out.1 H.out.2).mono ?_
  rintro e w1 ⟨rfl, hw1⟩
  subst w1
  go_wp2
  go_ret
  exact ⟨rfl, rfl⟩

set_option maxRecDepth 100000 in
set_option maxHeartbeats 1000000 in
theorem rlimit_bound (b n : Nat) (p q : Int) (t : Nat → Gp) (h : Nat → Bool) (G : Nat → Nat → Int) (w : World) (H0 : UAt w b h G) (hh : ∀ k, k < 10 → h k = (t k).there) (hw : wr t n = 0) (hf : fromB p q (-1) = false) :
    Calls Try.prog 28 #[.pointer (some ⟨b, 0, none⟩), .int .i64 n, .int .i64 p, .int .i64 q] w fun e w' => e = .returned (.int .i64 1) ∧ w' = w := by
  have H := Hid.intro (And.intro H0 (And.intro hh hw))
  have key : (p < -1) ∨ (decide (p < -1) = false ∧ 20 < p) ∨ (decide (p < -1) = false ∧ decide (20 < p) = false ∧ q < -1) ∨ (decide (p < -1) = false ∧ decide (20 < p) = false ∧ decide (q < -1) = false ∧ 64 < q) := by
    rw [Bool.eq_false_iff, Ne, fromB_iff] at hf
    simp only [decide_eq_false_iff_not]
    omega
  clear H0 hh hw hf
  rcases key with h1 | ⟨h1, h2⟩ | ⟨h1, h2, h3⟩ | ⟨h1, h2, h3, h4⟩
  all_goals (go_enter Try.func28, Try.ntmps28)
  all_goals (go_wp2_with fail)
  all_goals (refine (is_any b n t h G _ H.out.1 H.out.2.1).mono ?_)
  all_goals (rintro e w1 ⟨rfl, hw1⟩; subst w1; rw [H.out.2.2])
  all_goals (go_wp2)
  all_goals (go_ret)
  all_goals (exact ⟨rfl, rfl⟩)

set_option maxRecDepth 100000 in
set_option maxHeartbeats 1000000 in
theorem rlimit_ok (b n : Nat) (p q : Int) (t : Nat → Gp) (h : Nat → Bool) (G : Nat → Nat → Int) (w : World) (H0 : UAt w b h G) (hh : ∀ k, k < 10 → h k = (t k).there) (hn : n < 10) (hw : wr t n = 0) (hf : fromB p q (-1) = true) :
    Calls Try.prog 28 #[.pointer (some ⟨b, 0, none⟩), .int .i64 n, .int .i64 p, .int .i64 q] w fun e w' => e = .returned (.int .i64 0) ∧ UAt w' b h (updG (updG G n 1 p) n 2 q) ∧ Frm b w w' := by
  have H := Hid.intro (And.intro H0 (And.intro hh hw))
  have key : decide (p < -1) = false ∧ decide (20 < p) = false ∧ decide (q < -1) = false ∧ decide (64 < q) = false := by
    rw [fromB_iff] at hf
    simp only [decide_eq_false_iff_not]
    omega
  have hnI : (n : Int) < 10 := by omega
  have g1 := H0.cg n 1 hn (by omega)
  have g2 := H0.cg n 2 hn (by omega)
  have gf := H0.frozen
  clear H0 hh hw hf
  obtain ⟨h1, h2, h3, h4⟩ := key
  go_enter Try.func28, Try.ntmps28
  go_wp2_with fail
  refine (is_any b n t h G _ H.out.1 H.out.2.1).mono ?_
  rintro e w1 ⟨rfl, hw1⟩
  subst w1
  rw [H.out.2.2]
  go_wp2
  go_ret
  exact ⟨rfl, (H.out.1.setG n 1 hn (by omega) p).setG n 2 hn (by omega) q, ((Frm.refl _ _).setCell _ _).setCell _ _⟩

/-- What an uncharge makes of the document's own tree. -/
def uncG (t : Nat → Gp) (Wy : Nat → List (Fin 10)) (g p q : Int) (G : Nat → Nat → Int) : Nat → Nat → Int := if uncE t g p q = 0 then layG G (vals (Wy g.toNat)) (-p) (-q) else G
theorem uncG_ok {t : Nat → Gp} {Wy : Nat → List (Fin 10)} {n : Nat} {p q : Int} {G : Nat → Nat → Int} (h : uncE t n p q = 0) : uncG t Wy n p q G = layG G (vals (Wy n)) (-p) (-q) := if_pos h
theorem uncG_no {t : Nat → Gp} {Wy : Nat → List (Fin 10)} {g p q : Int} {G : Nat → Nat → Int} (h : uncE t g p q ≠ 0) : uncG t Wy g p q G = G := if_neg h

set_option maxRecDepth 100000 in
set_option maxHeartbeats 400000 in
theorem runcharge_ref (b : Nat) (g p q : Int) (t : Nat → Gp) (h : Nat → Bool) (G : Nat → Nat → Int) (w : World) (H0 : UAt w b h G) (hh : ∀ k, k < 10 → h k = (t k).there) (hr : refE t g p q ≠ 0) :
    Calls Try.prog 32 #[.pointer (some ⟨b, 0, none⟩), .int .i64 g, .int .i64 p, .int .i64 q] w fun e w' => e = .returned (.int .i64 (refE t g p q)) ∧ w' = w := by
  have H := Hid.intro (And.intro H0 hh)
  have hp := refE_pos hr
  clear H0 hh hr
  go_enter Try.func32, Try.ntmps32
  go_wp2_with fail
  refine (chargeable_any b g p q t h G _ H.out.1 H.out.2).mono ?_
  rintro e w1 ⟨rfl, hw1⟩
  subst w1
  go_wp2
  go_ret
  exact ⟨rfl, rfl⟩

set_option maxRecDepth 100000 in
set_option maxHeartbeats 2000000 in
theorem runcharge_way (b n : Nat) (p q : Int) (t : Nat → Gp) (Wy : Nat → List (Fin 10)) (c : Nat) (h : Nat → Bool) (G : Nat → Nat → Int) (w : World) (H0 : UAt w b h G) (hT : Tree t Wy c) (hc : c ≤ 1000) (hR : Rel t Wy h G) (hr : refE t n p q = 0) :
    Calls Try.prog 32 #[.pointer (some ⟨b, 0, none⟩), .int .i64 n, .int .i64 p, .int .i64 q] w fun e w' => e = .returned (.int .i64 (uncE t n p q)) ∧ UAt w' b h (uncG t Wy n p q G) ∧ Frm b w w' := by
  have HS := Hid.intro (hT.small hc)
  obtain ⟨n', hnn, hn, hh, hp, hq⟩ := refE_zero hr
  obtain rfl : n = n' := by omega
  have H := Hid.intro (And.intro H0 (And.intro hT (And.intro hR (And.intro hh hr))))
  have hbl := H0.lt
  have hnI : (n : Int) < 10 := by omega
  have gg := hR.g hn hh
  have g3 := H0.cg n 3 hn (by omega)
  have g4 := H0.cg n 4 hn (by omega)
  rw [gg.2.2.2.1] at g3
  rw [gg.2.2.2.2] at g4
  have HOK := Hid.intro (And.intro (own_kids hT.ways (sel := Gp.op) hn hh 10 (Nat.le_refl _)) (own_kids hT.ways (sel := Gp.oq) hn hh 10 (Nat.le_refl _)))
  have bX := totTo_bd Wy (n : Int) (fun k hk => (HS.out k hk).1) 10 (Nat.le_refl _)
  have bY := totTo_bd Wy (n : Int) (fun k hk => (HS.out k hk).2) 10 (Nat.le_refl _)
  clear H0 hT hR hh hr hnn gg
  generalize hX : totTo t Wy n Gp.op 10 = X at *
  generalize hY : totTo t Wy n Gp.oq 10 = Y at *
  go_enter Try.func32, Try.ntmps32
  go_wp2_with fail
  refine (chargeable_any b n p q t h G _ H.out.1 (fun k hk => (H.out.2.2.1 k hk).1)).mono ?_
  rintro e w1 ⟨rfl, hw1⟩
  subst w1
  rw [H.out.2.2.2.2]
  go_wp2_with fail
  clear hX hY
  go_loopw [10, 11, 12] (fun x y i wr => ∃ (k : Nat), i = .int .i64 k ∧ k ≤ 10 ∧ wr = w ∧ x = .int .i64 (X - kidTo t Wy n Gp.op 10 k) ∧ y = .int .i64 (Y - kidTo t Wy n Gp.oq 10 k)) (fun _ _ i _ => 10 - (intOf i).toNat)
  case atStart => exact ⟨0, rfl, by omega, rfl, by simp [kidTo], by simp [kidTo]⟩
  case round =>
    obtain ⟨k, rfl, hk, rfl, rfl, rfl⟩ := hrel
    have b1 := kidTo_bd (Wy := Wy) (n := n) (fun k hk => (HS.out k hk).1) k hk
    have b2 := kidTo_bd (Wy := Wy) (n := n) (fun k hk => (HS.out k hk).2) k hk
    by_cases hlt : k < 10
    · have hltI : (k : Int) < 10 := by omega
      have c0 := H.out.1.ch k hlt
      rw [(H.out.2.2.1 k hlt).1] at c0
      have c1 : wr.cell? ⟨b, 10 + k * 5, none⟩ = _ := H.out.1.cg k 0 hlt (by omega)
      have c3 := H.out.1.cg k 3 hlt (by omega)
      have c4 := H.out.1.cg k 4 hlt (by omega)
      have e1 : kidTo t Wy n Gp.op 10 (k + 1) = kidTo t Wy n Gp.op 10 k + if kid t n k = true then totTo t Wy k Gp.op 10 else 0 := rfl
      have e2 : kidTo t Wy n Gp.oq 10 (k + 1) = kidTo t Wy n Gp.oq 10 k + if kid t n k = true then totTo t Wy k Gp.oq 10 else 0 := rfl
      cases hth : (t k).there
      · rw [hth] at c0
        have hkid : ¬ kid t n k = true := by rw [kid_iff, hth]; simp
        rw [if_neg hkid, Int.add_zero] at e1 e2
        have E1 := Hid.intro (And.intro e1 e2)
        clear hth c1 c3 c4 e1 e2 hkid
        generalize kidTo t Wy n Gp.op 10 k = KP at *
        generalize kidTo t Wy n Gp.oq 10 k = KQ at *
        go_wp2_with fail
        go_roundw
        case rel => exact ⟨k + 1, by go_num, by omega, trivial, by rw [E1.out.1], by rw [E1.out.2]⟩
        case measure => simp [intOf]; omega
      · rw [hth] at c0
        have g := H.out.2.2.1.g hlt hth
        rw [g.1] at c1
        rw [g.2.2.2.1] at c3
        rw [g.2.2.2.2] at c4
        by_cases hpar : (t k).par = n
        · have hkid : kid t n k = true := kid_iff.2 ⟨hth, hpar⟩
          rw [hpar] at c1
          rw [if_pos hkid] at e1 e2
          have bk1 := totTo_bd Wy (k : Int) (fun k hk => (HS.out k hk).1) 10 (Nat.le_refl _)
          have bk2 := totTo_bd Wy (k : Int) (fun k hk => (HS.out k hk).2) 10 (Nat.le_refl _)
          have E1 := Hid.intro (And.intro e1 e2)
          clear hth e1 e2 hkid g hpar
          generalize kidTo t Wy n Gp.op 10 k = KP at *
          generalize kidTo t Wy n Gp.oq 10 k = KQ at *
          generalize totTo t Wy k Gp.op 10 = XK at *
          generalize totTo t Wy k Gp.oq 10 = YK at *
          go_wp2_with fail
          go_roundw
          case rel => exact ⟨k + 1, by go_num, by omega, trivial, by rw [E1.out.1, Int.sub_sub], by rw [E1.out.2, Int.sub_sub]⟩
          case measure => simp [intOf]; omega
        · have hpf : ((t k).par == (n : Int)) = false := by simpa using hpar
          have hkid : ¬ kid t n k = true := by rw [kid_iff]; exact fun hx => hpar hx.2
          rw [if_neg hkid, Int.add_zero] at e1 e2
          have E1 := Hid.intro (And.intro e1 e2)
          clear hth c3 c4 e1 e2 hkid g hpar
          generalize kidTo t Wy n Gp.op 10 k = KP at *
          generalize kidTo t Wy n Gp.oq 10 k = KQ at *
          go_wp2_with fail
          go_roundw
          case rel => exact ⟨k + 1, by go_num, by omega, trivial, by rw [E1.out.1], by rw [E1.out.2]⟩
          case measure => simp [intOf]; omega
    · have hk10 : k = 10 := by omega
      subst hk10
      have o1 := HOK.out.1
      have o2 := HOK.out.2
      rw [if_pos hn] at o1 o2
      rw [o1, o2]
      have HUE : Hid (uncE t n p q = if p ≤ (t n).op ∧ q ≤ (t n).oq then 0 else 8) := by unfold Hid uncE; rw [if_pos H.out.2.2.2.2, Int.toNat_natCast]
      clear o1 o2 b1 b2 HOK g3 g4
      generalize hOP : (t n).op = OP at *
      generalize hOQ : (t n).oq = OQ at *
      clear hOP hOQ
      by_cases h1 : OP < p
      · have HE : Hid (uncE t n p q = 8) := by unfold Hid; rw [HUE.out, if_neg (by omega)]
        clear HUE
        go_wp2
        go_ret
        exact ⟨by rw [HE.out]; rfl, by rw [uncG_no (by rw [HE.out]; decide)]; exact H.out.1, Frm.refl _ _⟩
      · have d1 : decide (OP < p) = false := by simp; omega
        by_cases h2 : OQ < q
        · have HE : Hid (uncE t n p q = 8) := by unfold Hid; rw [HUE.out, if_neg (by omega)]
          clear HUE h1
          go_wp2
          go_ret
          exact ⟨by rw [HE.out]; rfl, by rw [uncG_no (by rw [HE.out]; decide)]; exact H.out.1, Frm.refl _ _⟩
        · have d2 : decide (OQ < q) = false := by simp; omega
          have HE : Hid (uncE t n p q = 0) := by unfold Hid; rw [HUE.out, if_pos (by omega)]
          clear HUE h1 h2
          go_wp2_with fail
          refine (rlay_any b n (-p) (-q) t Wy c h G _ H.out.1 H.out.2.1 hc H.out.2.2.1 hn H.out.2.2.2.1 (by omega) (by omega)).mono ?_
          rintro e W5 ⟨⟨v, rfl⟩, hU5, hF5⟩
          have HU5 := Hid.intro (And.intro hU5 hF5)
          clear hU5 hF5
          go_wp2_with fail
          go_ret
          exact ⟨by rw [HE.out]; rfl, by rw [uncG_ok HE.out]; exact HU5.out.1, HU5.out.2⟩
theorem runcharge_any (b : Nat) (g p q : Int) (t : Nat → Gp) (Wy : Nat → List (Fin 10)) (c : Nat) (h : Nat → Bool) (G : Nat → Nat → Int) (w : World) (H0 : UAt w b h G) (hT : Tree t Wy c) (hc : c ≤ 1000) (hR : Rel t Wy h G) :
    Calls Try.prog 32 #[.pointer (some ⟨b, 0, none⟩), .int .i64 g, .int .i64 p, .int .i64 q] w fun e w' => e = .returned (.int .i64 (uncE t g p q)) ∧ UAt w' b h (uncG t Wy g p q G) ∧ Frm b w w' := by
  by_cases hr : refE t g p q = 0
  · obtain ⟨n, rfl, _⟩ := refE_zero hr
    exact runcharge_way b n p q t Wy c h G w H0 hT hc hR hr
  · have e : uncE t g p q = refE t g p q := if_neg hr
    refine (runcharge_ref b g p q t h G w H0 (fun k hk => (hR k hk).1) hr).mono ?_
    rintro e w1 ⟨rfl, rfl⟩
    exact ⟨by rw [e], by rw [uncG_no (by rw [e]; exact hr)]; exact H0, Frm.refl _ _⟩
theorem rel_chg {t : Nat → Gp} {Wy : Nat → List (Fin 10)} {c : Nat} {h : Nat → Bool} {G : Nat → Nat → Int} (hT : Tree t Wy c) (hR : Rel t Wy h G) (g p q : Int) : Rel (chgT t Wy g p q) Wy h (chgG t Wy g p q G) := by
  by_cases he : chgE t Wy g p q = 0
  · obtain ⟨n, rfl, hn, _, _, _, hC, _⟩ := chg_step hT he
    rw [hC, chgG_ok he]
    exact rel_lay hR hn p q
  · rw [chg_no he, chgG_no he]; exact hR
theorem rel_unc {t : Nat → Gp} {Wy : Nat → List (Fin 10)} {h : Nat → Bool} {G : Nat → Nat → Int} (hR : Rel t Wy h G) (g p q : Int) : Rel (uncT t g p q) Wy h (uncG t Wy g p q G) := by
  by_cases he : uncE t g p q = 0
  · obtain ⟨n, rfl, hn, _, _, _, _, hC⟩ := unc_ok he
    rw [hC, uncG_ok he]
    exact rel_lay hR hn (-p) (-q)
  · rw [unc_no he, uncG_no he]; exact hR
end Go.Proofs.Ytgabceeekkcekaa

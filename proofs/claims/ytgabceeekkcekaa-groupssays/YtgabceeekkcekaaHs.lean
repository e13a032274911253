/- What each act leaves of both trees, as the law GroupsSays asks it. -/
import Derived.Test.YtgabceeekkcekaaHt
namespace Go.Proofs.Ytgabceeekkcekaa
open Go.RowKit Go.Shelf

/-- What the law has in its hands: the tree at b, the document's own at m. -/
structure Sx (w W : World) (b m : Nat) (t : Nat → Gp) (Wy : Nat → List (Fin 10)) (c : Nat) (h : Nat → Bool) (G : Nat → Nat → Int) : Prop where
  bel : Below w.heap.size w W
  le : w.heap.size ≤ b
  lt : b < m
  tat : TAt W b t
  uat : UAt W m h G
  tree : Tree t Wy c
  rel : Rel t Wy h G
  lim : Lims t
section
variable {w W W' W'' : World} {b m : Nat} {t : Nat → Gp} {Wy : Nat → List (Fin 10)} {c : Nat} {h : Nat → Bool} {G : Nat → Nat → Int}
theorem Sx.below (H : Sx w W b m t Wy c h G) (hb : Below (m + 1) W W') : Sx w W' b m t Wy c h G := by
  have h1 := H.le
  have h2 := H.lt
  exact ⟨H.bel.trans (hb.mono (by omega)), h1, h2, H.tat.below hb (by omega), H.uat.below hb (by omega), H.tree, H.rel, H.lim⟩
theorem Sx.drewN (H : Sx w W b m t Wy c h G) (n : Nat) : Sx w (W.drewN n) b m t Wy c h G := H.below (below_drewN (Below.refl _ _) n)
theorem Sx.alloc (H : Sx w W b m t Wy c h G) (o : Obj) : Sx w (W.alloc o) b m t Wy c h G := H.below ((Below.refl _ _).alloc (by have := H.uat.lt; omega) _)
theorem Sx.mono (H : Sx w W b m t Wy c h G) {c' : Nat} (hc : c ≤ c') : Sx w W b m t Wy c' h G := ⟨H.bel, H.le, H.lt, H.tat, H.uat, H.tree.mono hc, H.rel, H.lim⟩
/-- Both have turned. -/
theorem Sx.step (H : Sx w W b m t Wy c h G) (hf : Frm b W W') {t' : Nat → Gp} (ht : TAt W' b t') (hf' : Frm m W' W'') {h' : Nat → Bool} {G' : Nat → Nat → Int} (hu : UAt W'' m h' G') {Wy' : Nat → List (Fin 10)} {c' : Nat} (hT : Tree t' Wy' c') (hR : Rel t' Wy' h' G') (hl : Lims t') : Sx w W'' b m t' Wy' c' h' G' := by
  have h1 := H.le
  have h2 := H.lt
  have hs := H.tat.lt
  have b1 : Below w.heap.size w W' := hf.below H.bel h1 (by omega)
  exact ⟨hf'.below b1 (by omega) (by have := hf.size; omega), h1, h2, (hf'.block b ht.lt (by omega)).trans ht, hu, hT, hR, hl⟩
theorem Sx.uat' (H : Sx w W b m t Wy c h G) (hf : Frm b W W') : UAt W' m h G := (hf.block m H.uat.lt (by have := H.lt; omega)).trans H.uat
end

section
variable {t : Nat → Gp} {Wy : Nat → List (Fin 10)} {c : Nat} {h : Nat → Bool} {G : Nat → Nat → Int}
theorem lims0 : Lims t0 := fun k hk => by
  by_cases e : k = 0
  · subst e; rw [show t0 0 = newGp (-1) from updT_same _ _ _]; simp [newGp]
  · rw [show t0 k = noGp from updT_ne _ _ _ _ e]; simp [noGp]
theorem Lims.upd (hl : Lims t) (n : Nat) (g : Gp) (h1 : -1 ≤ g.lp ∧ -1 ≤ g.lq) : Lims (updT t n g) := fun k hk => by
  by_cases e : k = n
  · subst e; rw [updT_same]; exact h1
  · rw [updT_ne _ _ _ _ e]; exact hl k hk
theorem Lims.addO (hl : Lims t) (n : Nat) (p q : Int) : Lims (addO t n p q) := fun k hk => by rw [(addO_lim t n _ _ k).1, (addO_lim t n _ _ k).2]; exact hl k hk

theorem wr_nn (t : Nat → Gp) (g : Int) : 0 ≤ wr t g := by rcases wr_cases t g with e | e | e <;> omega
theorem refE_nn (t : Nat → Gp) (g p q : Int) : 0 ≤ refE t g p q := by
  by_cases h : refE t g p q = 0
  · omega
  · have := refE_pos h; omega
theorem chgE_ge (t : Nat → Gp) (Wy : Nat → List (Fin 10)) (g p q : Int) : 0 ≤ chgE t Wy g p q := by
  by_cases h : chgE t Wy g p q = 0
  · omega
  · have := chgE_nn h; omega
theorem uncE_ge (t : Nat → Gp) (g p q : Int) : 0 ≤ uncE t g p q := by
  by_cases h : uncE t g p q = 0
  · omega
  · have := uncE_nn h; omega
theorem movE_ge (t : Nat → Gp) (Wy : Nat → List (Fin 10)) (f g p q : Int) : 0 ≤ movE t Wy f g p q := by
  unfold movE
  split
  · split
    · exact chgE_ge _ _ _ _ _
    · exact uncE_ge _ _ _ _
  · exact wr_nn _ _
theorem remE_ge (t : Nat → Gp) (Wy : Nat → List (Fin 10)) (g : Int) : 0 ≤ remE t Wy g := by
  unfold remE
  split
  · split <;> omega
  · exact wr_nn _ _

def remT (t : Nat → Gp) (Wy : Nat → List (Fin 10)) (g : Int) : Nat → Gp := if remE t Wy g = 0 then updT t g.toNat noGp else t
def remV (t : Nat → Gp) (Wy : Nat → List (Fin 10)) (g : Int) : Nat → List (Fin 10) := if remE t Wy g = 0 then remW Wy g.toNat else Wy
def remH (t : Nat → Gp) (Wy : Nat → List (Fin 10)) (g : Int) (h : Nat → Bool) : Nat → Bool := if remE t Wy g = 0 then updH h g.toNat false else h
theorem rem_ok {g : Int} (he : remE t Wy g = 0) : ∃ n : Nat, g = n ∧ n < 10 ∧ (t n).there = true ∧ n ≠ 0 ∧ (totTo t Wy n Gp.op 10 = 0 ∧ totTo t Wy n Gp.oq 10 = 0) ∧ abvB t n = false := by
  unfold remE at he
  by_cases hw : wr t g = 0
  · rw [if_pos hw] at he
    obtain ⟨n, rfl, hn, hh⟩ := wr_zero hw
    by_cases hc : (n : Int) = 0 ∨ totTo t Wy n Gp.op 10 ≠ 0 ∨ totTo t Wy n Gp.oq 10 ≠ 0 ∨ abvB t n = true
    · rw [if_pos hc] at he; cases he
    · refine ⟨n, rfl, hn, hh, fun e => hc (.inl (by omega)), ⟨Decidable.byContradiction fun h => hc (.inr (.inl h)), Decidable.byContradiction fun h => hc (.inr (.inr (.inl h)))⟩, ?_⟩
      cases ha : abvB t n
      · rfl
      · exact absurd (.inr (.inr (.inr ha))) hc
  · rw [if_neg hw] at he; exact absurd he hw
theorem rem_tree (hT : Tree t Wy c) (hR : Rel t Wy h G) (hl : Lims t) (g : Int) : Tree (remT t Wy g) (remV t Wy g) c ∧ Rel (remT t Wy g) (remV t Wy g) (remH t Wy g h) G ∧ Lims (remT t Wy g) := by
  unfold remT remV remH
  by_cases he : remE t Wy g = 0
  · obtain ⟨n, rfl, hn, hh, hn0, hz, ha⟩ := rem_ok he
    rw [if_pos he, if_pos he, if_pos he, Int.toNat_natCast]
    exact ⟨hT.rem hn0 ha, rel_rem hT hR hn hh hz, hl.upd n noGp (by simp [noGp])⟩
  · rw [if_neg he, if_neg he, if_neg he]
    exact ⟨hT, hR, hl⟩
theorem remove_code (b : Nat) (g : Int) (w : World) (H : TAt w b t) (hT : Tree t Wy c) (hc : c ≤ 1000) :
    Calls Try.prog 25 #[.pointer (some ⟨b, 0, none⟩), .int .i64 g] w fun e w' => e = .returned (errV (remE t Wy g)) ∧ TAt w' b (remT t Wy g) ∧ Frm b w w' := by
  have hS := hT.small hc
  unfold remT
  by_cases he : remE t Wy g = 0
  · obtain ⟨n, rfl, hn, hh, hn0, hz, ha⟩ := rem_ok he
    rw [if_pos he, he, Int.toNat_natCast]
    exact remove_ok b n t Wy w H hT.ways hS hn hn0 hh hz ha
  · rw [if_neg he]
    by_cases hw : wr t g = 0
    · obtain ⟨n, rfl, hn, hh⟩ := wr_zero hw
      have h5 : remE t Wy n = 5 := by
        unfold remE at he ⊢
        rw [if_pos hw] at he ⊢
        split
        · rfl
        · rename_i hx; rw [if_neg hx] at he; exact absurd rfl he
      rw [h5]
      by_cases h0 : n = 0
      · subst h0
        refine (remove_root b t w H hh).mono ?_
        rintro e w' ⟨rfl, rfl⟩
        exact ⟨rfl, H, Frm.refl _ _⟩
      · by_cases hx : totTo t Wy n Gp.op 10 = 0 ∧ totTo t Wy n Gp.oq 10 = 0
        · cases ha : abvB t n
          · exfalso
            unfold remE at he
            rw [if_pos hw, if_neg (by rw [ha]; rintro (h | h | h | h) <;> simp_all)] at he
            exact he rfl
          · refine (remove_abv b n t Wy w H hT.ways hS hn h0 hh hx ha).mono ?_
            rintro e w' ⟨rfl, hb⟩
            exact ⟨rfl, H.below hb H.lt, Frm.of_below hb⟩
        · refine (remove_has b n t Wy w H hT.ways hS hn h0 hh (by omega)).mono ?_
          rintro e w' ⟨rfl, hb⟩
          exact ⟨rfl, H.below hb H.lt, Frm.of_below hb⟩
    · have e : remE t Wy g = wr t g := if_neg hw
      rw [e]
      refine (remove_bad b g t w H hw).mono ?_
      rintro e w' ⟨rfl, rfl⟩
      exact ⟨rfl, H, Frm.refl _ _⟩
theorem rremove_code (m : Nat) (g : Int) (w : World) (H : UAt w m h G) (hR : Rel t Wy h G) :
    Calls Try.prog 26 #[.pointer (some ⟨m, 0, none⟩), .int .i64 g] w fun e w' => e = .returned (.int .i64 (remE t Wy g)) ∧ UAt w' m (remH t Wy g h) G ∧ Frm m w w' := by
  refine (rremove_any m g t Wy h G w H hR).mono ?_
  rintro e w' ⟨rfl, ⟨he, rfl⟩ | ⟨he, hu, hf⟩⟩
  · exact ⟨rfl, by unfold remH; rw [if_neg he]; exact H, Frm.refl _ _⟩
  · exact ⟨rfl, by unfold remH; rw [if_pos he]; exact hu, hf⟩

def limE (t : Nat → Gp) (g p q : Int) : Int := if wr t g = 0 then (if fromB p q (-1) = true then 0 else 1) else wr t g
theorem limE_ge (t : Nat → Gp) (g p q : Int) : 0 ≤ limE t g p q := by
  unfold limE
  split
  · split <;> omega
  · exact wr_nn _ _
def limT (t : Nat → Gp) (g p q : Int) : Nat → Gp := if limE t g p q = 0 then updT t g.toNat { t g.toNat with lp := p, lq := q } else t
def limG (t : Nat → Gp) (g p q : Int) (G : Nat → Nat → Int) : Nat → Nat → Int := if limE t g p q = 0 then updG (updG G g.toNat 1 p) g.toNat 2 q else G
theorem lim_ok {g p q : Int} (he : limE t g p q = 0) : ∃ n : Nat, g = n ∧ n < 10 ∧ (t n).there = true ∧ fromB p q (-1) = true := by
  unfold limE at he
  by_cases hw : wr t g = 0
  · rw [if_pos hw] at he
    obtain ⟨n, rfl, hn, hh⟩ := wr_zero hw
    refine ⟨n, rfl, hn, hh, ?_⟩
    cases hf : fromB p q (-1)
    · rw [hf] at he; cases he
    · rfl
  · rw [if_neg hw] at he; exact absurd he hw
theorem lim_tree (hT : Tree t Wy c) (hR : Rel t Wy h G) (hl : Lims t) (g p q : Int) : Tree (limT t g p q) Wy c ∧ Rel (limT t g p q) Wy h (limG t g p q G) ∧ Lims (limT t g p q) := by
  unfold limT limG
  by_cases he : limE t g p q = 0
  · obtain ⟨n, rfl, hn, hh, hf⟩ := lim_ok he
    rw [if_pos he, if_pos he, Int.toNat_natCast]
    rw [fromB_iff] at hf
    exact ⟨hT.limit, rel_lim hR p q, hl.upd n _ ⟨by show -1 ≤ p; omega, by show -1 ≤ q; omega⟩⟩
  · rw [if_neg he, if_neg he]
    exact ⟨hT, hR, hl⟩
theorem limit_code (b : Nat) (g p q : Int) (w : World) (H : TAt w b t) :
    Calls Try.prog 27 #[.pointer (some ⟨b, 0, none⟩), .int .i64 g, .int .i64 p, .int .i64 q] w fun e w' => e = .returned (errV (limE t g p q)) ∧ TAt w' b (limT t g p q) ∧ Frm b w w' := by
  unfold limT
  by_cases hw : wr t g = 0
  · obtain ⟨n, rfl, hn, hh⟩ := wr_zero hw
    have e : limE t n p q = if fromB p q (-1) = true then 0 else 1 := if_pos hw
    cases hf : fromB p q (-1)
    · rw [hf] at e
      rw [if_neg (by rw [e]; decide), e]
      refine (limit_bound b n p q t w H hn hh hf).mono ?_
      rintro e w' ⟨rfl, hb⟩
      exact ⟨rfl, H.below hb H.lt, Frm.of_below hb⟩
    · rw [hf] at e
      rw [if_pos (by rw [e]; rfl), e, Int.toNat_natCast]
      exact limit_ok b n p q t w H hn hh hf
  · have e : limE t g p q = wr t g := if_neg hw
    rw [if_neg (by rw [e]; exact hw), e]
    refine (limit_bad b g p q t w H hw).mono ?_
    rintro e w' ⟨rfl, rfl⟩
    exact ⟨rfl, H, Frm.refl _ _⟩
theorem rlimit_code (m : Nat) (g p q : Int) (w : World) (H : UAt w m h G) (hR : Rel t Wy h G) :
    Calls Try.prog 28 #[.pointer (some ⟨m, 0, none⟩), .int .i64 g, .int .i64 p, .int .i64 q] w fun e w' => e = .returned (.int .i64 (limE t g p q)) ∧ UAt w' m h (limG t g p q G) ∧ Frm m w w' := by
  unfold limG
  by_cases hw : wr t g = 0
  · obtain ⟨n, rfl, hn, hh⟩ := wr_zero hw
    have e : limE t n p q = if fromB p q (-1) = true then 0 else 1 := if_pos hw
    cases hf : fromB p q (-1)
    · rw [hf] at e
      rw [if_neg (by rw [e]; decide), e]
      refine (rlimit_bound m n p q t h G w H (fun k hk => (hR k hk).1) hw hf).mono ?_
      rintro e w' ⟨rfl, rfl⟩
      exact ⟨rfl, H, Frm.refl _ _⟩
    · rw [hf] at e
      rw [if_pos (by rw [e]; rfl), e, Int.toNat_natCast]
      exact rlimit_ok m n p q t h G w H (fun k hk => (hR k hk).1) hn hw hf
  · have e : limE t g p q = wr t g := if_neg hw
    rw [if_neg (by rw [e]; exact hw), e]
    refine (rlimit_bad m g p q t h G w H (fun k hk => (hR k hk).1) hw).mono ?_
    rintro e w' ⟨rfl, rfl⟩
    exact ⟨rfl, H, Frm.refl _ _⟩

theorem chg_tree (hT : Tree t Wy c) (hR : Rel t Wy h G) (hl : Lims t) (g p q : Int) : Tree (chgT t Wy g p q) Wy (c + 1) ∧ Rel (chgT t Wy g p q) Wy h (chgG t Wy g p q G) ∧ Lims (chgT t Wy g p q) := by
  refine ⟨?_, rel_chg hT hR g p q, ?_⟩
  · by_cases he : chgE t Wy g p q = 0
    · obtain ⟨n, rfl, _, _, _, _, hC, hst⟩ := chg_step hT he
      rw [hC]; exact hst.tree
    · rw [chg_no he]; exact hT.mono (by omega)
  · by_cases he : chgE t Wy g p q = 0
    · obtain ⟨n, rfl, _, _, _, _, hC, hst⟩ := chg_step hT he
      rw [hC]; exact hl.addO n p q
    · rw [chg_no he]; exact hl
theorem unc_trees (hT : Tree t Wy c) (hR : Rel t Wy h G) (hl : Lims t) (g p q : Int) : Tree (uncT t g p q) Wy (c + 1) ∧ Rel (uncT t g p q) Wy h (uncG t Wy g p q G) ∧ Lims (uncT t g p q) := by
  refine ⟨?_, rel_unc hR g p q, ?_⟩
  · by_cases he : uncE t g p q = 0
    · obtain ⟨n, rfl, _, _, _, _, hC, hst⟩ := unc_step hT he
      rw [hC]; exact hst.tree
    · rw [unc_no he]; exact hT.mono (by omega)
  · by_cases he : uncE t g p q = 0
    · obtain ⟨n, rfl, _, _, _, _, hC, hst⟩ := unc_step hT he
      rw [hC]; exact hl.addO n _ _
    · rw [unc_no he]; exact hl
theorem mov_trees (hT : Tree t Wy c) (hl : Lims t) (f g p q : Int) : Tree (movT t Wy f g p q) Wy (c + 1) ∧ Lims (movT t Wy f g p q) := by
  by_cases he : movE t Wy f g p q = 0
  · obtain ⟨n, m, rfl, rfl, _, _, _, _, _, _, hC, hst⟩ := mov_step hT he
    rw [hC]; exact ⟨hst.tree, (hl.addO n _ _).addO m _ _⟩
  · rw [mov_no he]; exact ⟨hT.mono (by omega), hl⟩

/-- Is it one, or below it? -/
def undE (t : Nat → Gp) (Wy : Nat → List (Fin 10)) (g other : Int) : Bool := if wr t g = 0 then und Wy g.toNat other else false
theorem under_code (b : Nat) (g other : Int) (w : World) (H : TAt w b t) (hW : Ways t Wy) :
    Calls Try.prog 35 #[.pointer (some ⟨b, 0, none⟩), .int .i64 g, .int .i64 other] w fun e w' => e = .returned (.bool (undE t Wy g other)) ∧ Below w.heap.size w w' := by
  unfold undE
  by_cases hw : wr t g = 0
  · obtain ⟨n, rfl, hn, hh⟩ := wr_zero hw
    rw [if_pos hw, Int.toNat_natCast]
    exact under_any b n other t (Wy n) w H (hW n hn)
  · rw [if_neg hw]
    have hv : Way t g (vals []) := fun ⟨h1, h2, h3⟩ => hw (by
      unfold wr
      rw [if_neg (by omega), if_pos h3])
    refine (under_any b g other t [] w H hv).mono ?_
    rintro e w' ⟨rfl, hb⟩
    exact ⟨by simp, hb⟩
end
set_option maxRecDepth 100000 in
set_option maxHeartbeats 400000 in
theorem runder_bad (m : Nat) (g other : Int) (t : Nat → Gp) (h : Nat → Bool) (G : Nat → Nat → Int) (w : World) (H0 : UAt w m h G) (hh : ∀ k, k < 10 → h k = (t k).there) (hw : wr t g ≠ 0) :
    Calls Try.prog 36 #[.pointer (some ⟨m, 0, none⟩), .int .i64 g, .int .i64 other] w fun e w' => e = .returned (.bool false) ∧ w' = w := by
  have H := Hid.intro (And.intro H0 hh)
  have hp := wr_pos hw
  clear H0 hh hw
  go_enter Try.func36, Try.ntmps36
  go_wp2_with fail
  refine (is_any m g t h G _ H.out.1 H.out.2).mono ?_
  rintro e w1 ⟨rfl, hw1⟩
  subst w1
  go_wp2
  go_ret
  exact ⟨rfl, rfl⟩
theorem runder_code {t : Nat → Gp} {Wy : Nat → List (Fin 10)} {c : Nat} {h : Nat → Bool} {G : Nat → Nat → Int} (m : Nat) (g other : Int) (w : World) (H : UAt w m h G) (hT : Tree t Wy c) (hR : Rel t Wy h G) :
    Calls Try.prog 36 #[.pointer (some ⟨m, 0, none⟩), .int .i64 g, .int .i64 other] w fun e w' => e = .returned (.bool (undE t Wy g other)) ∧ Below w.heap.size w w' := by
  unfold undE
  by_cases hw : wr t g = 0
  · rw [if_pos hw]
    exact runder_any m g other t Wy c h G w H hT hR hw
  · rw [if_neg hw]
    refine (runder_bad m g other t h G w H (fun k hk => (hR k hk).1) hw).mono ?_
    rintro e w' ⟨rfl, rfl⟩
    exact ⟨rfl, Below.refl _ _⟩
end Go.Proofs.Ytgabceeekkcekaa

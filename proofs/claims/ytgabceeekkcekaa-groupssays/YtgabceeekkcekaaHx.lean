/- The document's own tree: NewTree, Add, Remove, Limit, Uncharge, Move. -/
import Derived.Test.YtgabceeekkcekaaHw
namespace Go.Proofs.Ytgabceeekkcekaa
open Go.RowKit Go.Shelf

section
variable {t : Nat → Gp} {Wy : Nat → List (Fin 10)} {c : Nat} {h : Nat → Bool} {G : Nat → Nat → Int}
theorem tot_none (hW : Ways t Wy) {n : Nat} (hf : (t n).there = false) {sel : Gp → Int} : ∀ k, k ≤ 10 → totTo t Wy n sel k = 0
  | 0, _ => rfl
  | k + 1, hk => by
    unfold totTo
    rw [tot_none hW hf k (by omega), if_neg]
    · rfl
    · rw [und_mem]
      intro hm
      have := (way_there (hW k (by omega)) n hm).2
      rw [hf] at this
      cases this
theorem wasC_congr {t' : Nat → Gp} {Wy' : Nat → List (Fin 10)} {k : Nat} (e : t' k = t k) (e1 : totTo t' Wy' k Gp.op 10 = totTo t Wy k Gp.op 10) (e2 : totTo t' Wy' k Gp.oq 10 = totTo t Wy k Gp.oq 10) (j : Nat) : wasC t' Wy' k j = wasC t Wy k j := by
  unfold wasC
  rw [e, e1, e2]
/-- Five numbers of one. -/
def putG (G : Nat → Nat → Int) (n : Nat) (a0 a1 a2 a3 a4 : Int) : Nat → Nat → Int := updG (updG (updG (updG (updG G n 0 a0) n 1 a1) n 2 a2) n 3 a3) n 4 a4
theorem putG_at (G : Nat → Nat → Int) (n : Nat) (a0 a1 a2 a3 a4 : Int) : putG G n a0 a1 a2 a3 a4 n 0 = a0 ∧ putG G n a0 a1 a2 a3 a4 n 1 = a1 ∧ putG G n a0 a1 a2 a3 a4 n 2 = a2 ∧ putG G n a0 a1 a2 a3 a4 n 3 = a3 ∧ putG G n a0 a1 a2 a3 a4 n 4 = a4 := by
  simp [putG, updG]
theorem putG_off (G : Nat → Nat → Int) (n : Nat) (a0 a1 a2 a3 a4 : Int) {k : Nat} (e : k ≠ n) (j : Nat) : putG G n a0 a1 a2 a3 a4 k j = G k j := by
  simp [putG, updG, e]
theorem rel_add (hT : Tree t Wy c) (hR : Rel t Wy h G) {n p : Nat} (hn : n < 10) (hf : (t n).there = false) : Rel (updT t n (newGp p)) (addW Wy n hn p) (updH h n true) (putG G n p (-1) (-1) 0 0) := fun k hk => by
  by_cases e : k = n
  · subst e
    refine ⟨by rw [updT_same]; simp [updH, newGp], fun hh j hj => ?_⟩
    have e1 := tot_add hT hn hf (p := p) (sel := Gp.op) rfl (k : Int)
    have e2 := tot_add hT hn hf (p := p) (sel := Gp.oq) rfl (k : Int)
    rw [tot_none hT.ways hf 10 (Nat.le_refl _)] at e1 e2
    have w := wasC_of' (Wy := addW Wy k hn p) hh
    rw [e1, e2, updT_same] at w
    have g := putG_at G k p (-1) (-1) 0 0
    match j, hj with
    | 0, _ => rw [g.1, w.1]; rfl
    | 1, _ => rw [g.2.1, w.2.1]; rfl
    | 2, _ => rw [g.2.2.1, w.2.2.1]; rfl
    | 3, _ => rw [g.2.2.2.1, w.2.2.2.1]
    | 4, _ => rw [g.2.2.2.2, w.2.2.2.2]
  · have et : updT t n (newGp p) k = t k := updT_ne _ _ _ _ e
    refine ⟨by rw [et]; simp [updH, e]; exact (hR k hk).1, fun hh j hj => ?_⟩
    rw [et] at hh
    rw [putG_off _ _ _ _ _ _ _ e, (hR k hk).2 hh j hj]
    exact (wasC_congr et (tot_add hT hn hf rfl _) (tot_add hT hn hf rfl _) j).symm
theorem rel_rem (hT : Tree t Wy c) (hR : Rel t Wy h G) {n : Nat} (hn : n < 10) (hnh : (t n).there = true) (hz : totTo t Wy n Gp.op 10 = 0 ∧ totTo t Wy n Gp.oq 10 = 0) : Rel (updT t n noGp) (remW Wy n) (updH h n false) G := fun k hk => by
  by_cases e : k = n
  · subst e
    refine ⟨by rw [updT_same]; simp [updH, noGp], fun hh => ?_⟩
    rw [updT_same] at hh
    cases hh
  · have et : updT t n noGp k = t k := updT_ne _ _ _ _ e
    refine ⟨by rw [et]; simp [updH, e]; exact (hR k hk).1, fun hh j hj => ?_⟩
    rw [et] at hh
    rw [(hR k hk).2 hh j hj]
    exact (wasC_congr et (tot_rem hT hn hnh (fun j hj => (hT.own j hj).1.1) hz.1 _) (tot_rem hT hn hnh (fun j hj => (hT.own j hj).2.1) hz.2 _) j).symm
theorem tot_lim {n : Nat} {p q : Int} {sel : Gp → Int} (hs : sel { t n with lp := p, lq := q } = sel (t n)) (m : Int) : totTo (updT t n { t n with lp := p, lq := q }) Wy m sel 10 = totTo t Wy m sel 10 := totTo_congr fun j _ => by
  by_cases e : j = n
  · subst e; rw [updT_same, hs]
  · rw [updT_ne _ _ _ _ e]
theorem rel_lim (hR : Rel t Wy h G) {n : Nat} (p q : Int) : Rel (updT t n { t n with lp := p, lq := q }) Wy h (updG (updG G n 1 p) n 2 q) := fun k hk => by
  rw [(lim_same t n p q k).1]
  refine ⟨(hR k hk).1, fun hh j hj => ?_⟩
  have e1 := tot_lim (t := t) (Wy := Wy) (n := n) (p := p) (q := q) (sel := Gp.op) rfl (k : Int)
  have e2 := tot_lim (t := t) (Wy := Wy) (n := n) (p := p) (q := q) (sel := Gp.oq) rfl (k : Int)
  by_cases e : k = n
  · subst e
    have hh' : (updT t k { t k with lp := p, lq := q } k).there = true := by rw [updT_same]; exact hh
    have w := wasC_of' (Wy := Wy) hh'
    rw [e1, e2, updT_same] at w
    have g := hR.g hk hh
    match j, hj with
    | 0, _ => rw [w.1, ← g.1]; simp [updG]
    | 1, _ => rw [w.2.1]; simp [updG]
    | 2, _ => rw [w.2.2.1]; simp [updG]
    | 3, _ => rw [w.2.2.2.1, ← g.2.2.2.1]; simp [updG]
    | 4, _ => rw [w.2.2.2.2, ← g.2.2.2.2]; simp [updG]
  · rw [wasC_congr (updT_ne _ _ _ _ e) e1 e2 j, ← (hR k hk).2 hh j hj]
    simp [updG, e]
end

theorem UAt.put5 {w : World} {b n : Nat} {h : Nat → Bool} {G : Nat → Nat → Int} (H : UAt w b h G) (hn : n < 10) (a0 a1 a2 a3 a4 : Int) :
    UAt (((((w.setCell ⟨b, 10 + n * 5, none⟩ (.int .i64 a0)).setCell ⟨b, 10 + n * 5 + 1, none⟩ (.int .i64 a1)).setCell ⟨b, 10 + n * 5 + 2, none⟩ (.int .i64 a2)).setCell ⟨b, 10 + n * 5 + 3, none⟩ (.int .i64 a3)).setCell ⟨b, 10 + n * 5 + 4, none⟩ (.int .i64 a4)) b h (putG G n a0 a1 a2 a3 a4) :=
  ((((H.setG n 0 hn (by omega) a0).setG n 1 hn (by omega) a1).setG n 2 hn (by omega) a2).setG n 3 hn (by omega) a3).setG n 4 hn (by omega) a4

theorem below5' (w : World) (b o0 o1 o2 o3 o4 : Nat) (v0 v1 v2 v3 v4 : Value) : Below b w (((((w.setCell ⟨b, o0, none⟩ v0).setCell ⟨b, o1, none⟩ v1).setCell ⟨b, o2, none⟩ v2).setCell ⟨b, o3, none⟩ v3).setCell ⟨b, o4, none⟩ v4) := by
  have st : ∀ (w' : World), Below b w w' → ∀ o v, Below b w (w'.setCell ⟨b, o, none⟩ v) := fun w' h o v => h.setCell (p := ⟨b, o, none⟩) (Nat.le_refl b) v
  exact st _ (st _ (st _ (st _ (st _ (Below.refl _ _) o0 v0) o1 v1) o2 v2) o3 v3) o4 v4
theorem zero100 : encU (fun _ => false) (fun _ _ => 0) = #[Value.bool false, Value.bool false, Value.bool false, Value.bool false, Value.bool false, Value.bool false, Value.bool false, Value.bool false, Value.bool false, Value.bool false, Value.int IntKind.i64 0, Value.int IntKind.i64 0, Value.int IntKind.i64 0, Value.int IntKind.i64 0, Value.int IntKind.i64 0, Value.int IntKind.i64 0, Value.int IntKind.i64 0, Value.int IntKind.i64 0, Value.int IntKind.i64 0, Value.int IntKind.i64 0, Value.int IntKind.i64 0, Value.int IntKind.i64 0, Value.int IntKind.i64 0, Value.int IntKind.i64 0, Value.int IntKind.i64 0, Value.int IntKind.i64 0, Value.int IntKind.i64 0, Value.int IntKind.i64 0, Value.int IntKind.i64 0, Value.int IntKind.i64 0, Value.int IntKind.i64 0, Value.int IntKind.i64 0, Value.int IntKind.i64 0, Value.int IntKind.i64 0, Value.int IntKind.i64 0, Value.int IntKind.i64 0, Value.int IntKind.i64 0, Value.int IntKind.i64 0, Value.int IntKind.i64 0, Value.int IntKind.i64 0, Value.int IntKind.i64 0, Value.int IntKind.i64 0, Value.int IntKind.i64 0, Value.int IntKind.i64 0, Value.int IntKind.i64 0, Value.int IntKind.i64 0, Value.int IntKind.i64 0, Value.int IntKind.i64 0, Value.int IntKind.i64 0, Value.int IntKind.i64 0, Value.int IntKind.i64 0, Value.int IntKind.i64 0, Value.int IntKind.i64 0, Value.int IntKind.i64 0, Value.int IntKind.i64 0, Value.int IntKind.i64 0, Value.int IntKind.i64 0, Value.int IntKind.i64 0, Value.int IntKind.i64 0, Value.int IntKind.i64 0] := by kernel_rfl
def h0 : Nat → Bool := updH (fun _ => false) 0 true
def G0 : Nat → Nat → Int := putG (fun _ _ => 0) 0 (-1) (-1) (-1) 0 0
theorem rel0 : Rel t0 W0 h0 G0 := fun k hk => by
  by_cases e : k = 0
  · subst e
    have et : t0 0 = newGp (-1) := updT_same _ _ _
    refine ⟨by rw [et]; rfl, fun hh j hj => ?_⟩
    have w := wasC_of' (Wy := W0) hh
    have g := putG_at (fun _ _ => 0) 0 (-1) (-1) (-1) 0 0
    have z1 : totTo t0 W0 (0 : Nat) Gp.op 10 = 0 := by decide
    have z2 : totTo t0 W0 (0 : Nat) Gp.oq 10 = 0 := by decide
    rw [z1, z2, et] at w
    match j, hj with
    | 0, _ => rw [w.1]; exact g.1
    | 1, _ => rw [w.2.1]; exact g.2.1
    | 2, _ => rw [w.2.2.1]; exact g.2.2.1
    | 3, _ => rw [w.2.2.2.1]; exact g.2.2.2.1
    | 4, _ => rw [w.2.2.2.2]; exact g.2.2.2.2
  · have et : t0 k = noGp := updT_ne _ _ _ _ e
    refine ⟨by rw [et]; simp [h0, updH, e, noGp], fun hh => ?_⟩
    rw [et] at hh
    cases hh

set_option maxRecDepth 100000 in
set_option maxHeartbeats 400000 in
theorem newTree_any (w : World) : Calls Try.prog 22 #[] w fun e w' => e = .returned (.pointer (some ⟨w.heap.size, 0, none⟩)) ∧ UAt w' w.heap.size h0 G0 ∧ Below w.heap.size w w' := by
  have Z : UAt (w.alloc (.cells (encU (fun _ => false) (fun _ _ => 0)) 100)) w.heap.size (fun _ => false) (fun _ _ => 0) := heap_alloc_new w _
  rw [zero100] at Z
  go_enter Try.func22, Try.ntmps22
  go_upto_region 2 with fail
  refine wp_gen (fun W => UAt W w.heap.size (fun _ => false) (fun _ _ => 0) ∧ Below w.heap.size w W) ⟨Z, (Below.refl _ _).alloc (Nat.le_refl _) _⟩ ?_
  rintro W ⟨hU, hB⟩
  have HU := Hid.intro hU
  have HB := Hid.intro hB
  clear Z hU hB
  have c0 := HU.out.ch 0 (by omega)
  have g0 : W.cell? ⟨w.heap.size, 10, none⟩ = _ := HU.out.cg 0 0 (by omega) (by omega)
  have g1 : W.cell? ⟨w.heap.size, 11, none⟩ = _ := HU.out.cg 0 1 (by omega) (by omega)
  have g2 : W.cell? ⟨w.heap.size, 12, none⟩ = _ := HU.out.cg 0 2 (by omega) (by omega)
  have g3 : W.cell? ⟨w.heap.size, 13, none⟩ = _ := HU.out.cg 0 3 (by omega) (by omega)
  have g4 : W.cell? ⟨w.heap.size, 14, none⟩ = _ := HU.out.cg 0 4 (by omega) (by omega)
  have gf := HU.out.frozen
  go_wp2
  go_ret
  refine ⟨rfl, (HU.out.setH 0 (by omega) true).put5 (n := 0) (by omega) (-1) (-1) (-1) 0 0, ?_⟩
  exact (HB.out.setCell (p := ⟨w.heap.size, 0, none⟩) (Nat.le_refl _) _).trans (below5' _ _ _ _ _ _ _ _ _ _ _ _)

set_option maxRecDepth 100000 in
set_option maxHeartbeats 400000 in
theorem radd_bad (b : Nat) (g : Int) (t : Nat → Gp) (h : Nat → Bool) (G : Nat → Nat → Int) (w : World) (H0 : UAt w b h G) (hh : ∀ k, k < 10 → h k = (t k).there) (hw : wr t g ≠ 0) :
    Calls Try.prog 24 #[.pointer (some ⟨b, 0, none⟩), .int .i64 g] w fun e w' => e = .returned (.tuple #[.int .i64 0, .int .i64 (wr t g)]) ∧ w' = w := by
  have H := Hid.intro (And.intro H0 hh)
  have hp := wr_pos hw
  clear H0 hh hw
  go_enter Try.func24, Try.ntmps24
  go_wp2_with fail
  refine (is_any b g t h G _ H.out.1 H.out.2).mono ?_
  rintro e w1 ⟨rfl, hw1⟩
  subst w1
  go_wp2
  go_ret2
  exact ⟨rfl, rfl⟩

set_option maxRecDepth 100000 in
set_option maxHeartbeats 400000 in
theorem radd_deep (b n : Nat) (t : Nat → Gp) (Wy : Nat → List (Fin 10)) (c : Nat) (h : Nat → Bool) (G : Nat → Nat → Int) (w : World) (H0 : UAt w b h G) (hT : Tree t Wy c) (hR : Rel t Wy h G) (hn : n < 10) (hh : (t n).there = true) (hd : (Wy n).length = 4) :
    Calls Try.prog 24 #[.pointer (some ⟨b, 0, none⟩), .int .i64 n] w fun e w' => e = .returned (.tuple #[.int .i64 0, .int .i64 7]) ∧ Below w.heap.size w w' := by
  have H := Hid.intro (And.intro H0 (And.intro hT (And.intro hR (And.intro (wr_nat hn hh) hh))))
  have hlen : (vals (Wy n)).length = 4 := by simpa [vals] using hd
  clear H0 hT hR hh hd
  go_enter Try.func24, Try.ntmps24
  go_wp2_with fail
  refine (is_any b n t h G _ H.out.1 (fun k hk => (H.out.2.2.1 k hk).1)).mono ?_
  rintro e w1 ⟨rfl, hw1⟩
  subst w1
  rw [H.out.2.2.2.1]
  go_wp2_with fail
  refine (rway_any b n t Wy c h G _ H.out.1 H.out.2.1 H.out.2.2.1 hn H.out.2.2.2.2).mono ?_
  rintro e w2 ⟨v, rfl, R⟩
  obtain ⟨a, cap, rfl⟩ := own_form R.own
  have HB := Hid.intro R.bel
  rw [hlen]
  clear R hlen
  go_wp2
  go_ret2
  exact ⟨rfl, HB.out⟩

set_option maxRecDepth 100000 in
set_option maxHeartbeats 1000000 in
theorem radd_rest (b p : Nat) (t : Nat → Gp) (Wy : Nat → List (Fin 10)) (c : Nat) (h : Nat → Bool) (G : Nat → Nat → Int) (w : World) (H0 : UAt w b h G) (hT : Tree t Wy c) (hR : Rel t Wy h G) (hp : p < 10) (hh : (t p).there = true) (hd : (Wy p).length < 4) :
    Calls Try.prog 24 #[.pointer (some ⟨b, 0, none⟩), .int .i64 p] w fun e w' =>
      (∃ n : Nat, n < 10 ∧ (t n).there = false ∧ (∀ k, k < n → (t k).there = true) ∧ e = .returned (.tuple #[.int .i64 n, .int .i64 0]) ∧ UAt w' b (updH h n true) (putG G n p (-1) (-1) 0 0) ∧ Frm b w w') ∨
      ((∀ k, k < 10 → (t k).there = true) ∧ e = .returned (.tuple #[.int .i64 0, .int .i64 4]) ∧ Below w.heap.size w w') := by
  have H := Hid.intro (And.intro H0 (And.intro hT (And.intro hR (And.intro (wr_nat hp hh) hh))))
  have hlen : (vals (Wy p)).length < 4 := by simpa [vals] using hd
  have hbl := H0.lt
  clear H0 hT hR hh hd
  go_enter Try.func24, Try.ntmps24
  go_wp2_with fail
  refine (is_any b p t h G _ H.out.1 (fun k hk => (H.out.2.2.1 k hk).1)).mono ?_
  rintro e w1 ⟨rfl, hw1⟩
  subst w1
  rw [H.out.2.2.2.1]
  go_wp2_with fail
  refine (rway_any b p t Wy c h G _ H.out.1 H.out.2.1 H.out.2.2.1 hp H.out.2.2.2.2).mono ?_
  rintro e w2 ⟨v, rfl, R⟩
  obtain ⟨a, cap, rfl⟩ := own_form R.own
  have HB := Hid.intro R.bel
  have hl4 : (((vals (Wy p)).length : Int) == 4) = false := by simp; omega
  clear R
  generalize (vals (Wy p)).length = N at *
  go_wp2_with fail
  go_loopw [7] (fun i wr => ∃ (k : Nat), i = .int .i64 k ∧ k ≤ 10 ∧ Hid ((∀ j, j < k → (t j).there = true) ∧ Below w.heap.size w wr)) (fun i _ => 10 - (intOf i).toNat)
  case atStart => exact ⟨0, rfl, by omega, ⟨fun j hj => by omega, HB.out⟩⟩
  case round =>
    obtain ⟨k, rfl, hk, HR⟩ := hrel
    by_cases hlt : k < 10
    · have hltI : (k : Int) < 10 := by omega
      have HU := Hid.intro (H.out.1.below HR.out.2 hbl)
      have c0 := HU.out.ch k hlt
      rw [(H.out.2.2.1 k hlt).1] at c0
      cases hth : (t k).there
      · have HTH := Hid.intro hth
        rw [hth] at c0
        clear hth
        have g0 : wr.cell? ⟨b, 10 + k * 5, none⟩ = _ := HU.out.cg k 0 hlt (by omega)
        have g1 := HU.out.cg k 1 hlt (by omega)
        have g2 := HU.out.cg k 2 hlt (by omega)
        have g3 := HU.out.cg k 3 hlt (by omega)
        have g4 := HU.out.cg k 4 hlt (by omega)
        have gf := HU.out.frozen
        have o0 : k ≠ 10 + k * 5 := by omega
        have o1 : k ≠ 10 + k * 5 + 1 := by omega
        have o2 : k ≠ 10 + k * 5 + 2 := by omega
        have o3 : k ≠ 10 + k * 5 + 3 := by omega
        have o4 : k ≠ 10 + k * 5 + 4 := by omega
        go_wp2
        go_ret2
        exact .inl ⟨k, hlt, HTH.out, HR.out.1, rfl, (HU.out.setH k hlt true).put5 hlt p (-1) (-1) 0 0, ((((((Frm.of_below HR.out.2).setCell _ _).setCell _ _).setCell _ _).setCell _ _).setCell _ _).setCell _ _⟩
      · have HTH := Hid.intro hth
        rw [hth] at c0
        clear hth
        go_wp2_with fail
        go_roundw
        case rel => exact ⟨k + 1, by go_num, by omega, ⟨fun j hj => (Nat.lt_or_ge j k).elim (HR.out.1 j) (fun hge => by rw [show j = k by omega]; exact HTH.out), HR.out.2⟩⟩
        case measure => simp [intOf]; omega
    · have hk10 : k = 10 := by omega
      subst hk10
      go_wp2
      go_ret2
      exact .inr ⟨HR.out.1, rfl, HR.out.2⟩
end Go.Proofs.Ytgabceeekkcekaa

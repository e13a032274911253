/- The document's own tree: Lacks, Charge. -/
import Derived.Test.YtgabceeekkcekaaHv
import Derived.Deep.CutRange
import Derived.Deep.CutBlock
import Derived.Deep.DeepCutAuto
namespace Go.Proofs.Ytgabceeekkcekaa
open Go.RowKit Go.Shelf

/-- Limits are from -1 on. -/
def Lims (t : Nat → Gp) : Prop := ∀ k, k < 10 → -1 ≤ (t k).lp ∧ -1 ≤ (t k).lq

/-- What the walk up the way has in its hands. -/
structure Lc (w W : World) (b : Nat) (h : Nat → Bool) (G : Nat → Nat → Int) (L : List Nat) (gg : Nat) : Prop where
  bel : Below w.heap.size w W
  tre : UAt W b h G
  lst : ∀ i, i < L.length → W.cell? ⟨gg, i, none⟩ = some (.int .i64 (L.getD i 0 : Nat))
  bl : b < w.heap.size
  gl : gg < W.heap.size
theorem Lc.below {w W W' : World} {b gg : Nat} {h : Nat → Bool} {G : Nat → Nat → Int} {L : List Nat} (H : Lc w W b h G L gg) (hb : Below W.heap.size W W') : Lc w W' b h G L gg := by
  have h1 := H.bl
  have h2 := H.gl
  have h3 := H.bel.size
  have h4 := hb.size
  exact ⟨H.bel.trans (hb.mono h3), H.tre.below hb (by omega), fun i hi => (hb.cell (p := ⟨gg, i, none⟩) h2).trans (H.lst i hi), h1, by omega⟩

/-- Why one does not lack, and why one does. -/
theorem lack_cases {t : Nat → Gp} {Wy : Nat → List (Fin 10)} {p q : Int} {y : Fin 10} (hl : Lims t) {X Y LP LQ : Int} (hX : totTo t Wy y.val Gp.op 10 = X) (hY : totTo t Wy y.val Gp.oq 10 = Y) (hP : (t y.val).lp = LP) (hQ : (t y.val).lq = LQ) :
    (lackB t Wy p q y = false ∧ (decide (0 < p) = false ∨ (0 < p ∧ decide (0 ≤ LP) = false) ∨ (0 < p ∧ 0 ≤ LP ∧ decide (LP < X + p) = false)) ∧ (decide (0 < q) = false ∨ (0 < q ∧ decide (0 ≤ LQ) = false) ∨ (0 < q ∧ 0 ≤ LQ ∧ decide (LQ < Y + q) = false))) ∨
    (lackB t Wy p q y = true ∧ ((0 < p ∧ 0 ≤ LP ∧ LP < X + p) ∨ ((decide (0 < p) = false ∨ (0 < p ∧ decide (0 ≤ LP) = false) ∨ (0 < p ∧ 0 ≤ LP ∧ decide (LP < X + p) = false)) ∧ (0 < q ∧ 0 ≤ LQ ∧ LQ < Y + q)))) := by
  have h := hl y.val y.isLt
  rw [hP, hQ] at h
  unfold lackB passB
  rw [hX, hY, hP, hQ]
  simp only [decide_eq_false_iff_not, Bool.or_eq_false_iff, Bool.or_eq_true, decide_eq_true_eq]
  omega

set_option maxRecDepth 100000 in
set_option maxHeartbeats 2000000 in
theorem rlacks_any (b n : Nat) (p q : Int) (t : Nat → Gp) (Wy : Nat → List (Fin 10)) (c : Nat) (h : Nat → Bool) (G : Nat → Nat → Int) (w : World) (H0 : UAt w b h G) (hT : Tree t Wy c) (hc : c ≤ 1000) (hR : Rel t Wy h G) (hl : Lims t) (hr : refE t n p q = 0) :
    Calls Try.prog 34 #[.pointer (some ⟨b, 0, none⟩), .int .i64 n, .int .i64 p, .int .i64 q] w fun e w' => (((∀ y ∈ Wy n, lackB t Wy p q y = false) ∧ e = .returned (.int .i64 (-1))) ∨
      (∃ pre x rest, Wy n = pre ++ x :: rest ∧ (∀ y ∈ pre, lackB t Wy p q y = false) ∧ lackB t Wy p q x = true ∧ e = .returned (.int .i64 (x.val : Int)))) ∧ Below w.heap.size w w' := by
  have HS := Hid.intro (hT.small hc)
  obtain ⟨n', hnn, hn, hh, hp, hq⟩ := refE_zero hr
  obtain rfl : n = n' := by omega
  have H := Hid.intro (And.intro H0 (And.intro hT (And.intro hR (And.intro hh (And.intro hl hr)))))
  have hbl := H0.lt
  clear H0 hT hR hh hc hl hr hnn
  go_enter Try.func34, Try.ntmps34
  go_wp2_with fail
  refine (chargeable_any b n p q t h G _ H.out.1 (fun k hk => (H.out.2.2.1 k hk).1)).mono ?_
  rintro e w1 ⟨rfl, hw1⟩
  subst w1
  rw [H.out.2.2.2.2.2]
  go_wp2_with fail
  refine (rway_any b n t Wy c h G _ H.out.1 H.out.2.1 H.out.2.2.1 hn H.out.2.2.2.1).mono ?_
  rintro e w2 ⟨v, rfl, R⟩
  have hl0 : 0 < (vals (Wy n)).length := by
    obtain ⟨r, hr, _⟩ := way_cons H.out.2.1.ways hn H.out.2.2.2.1
    rw [hr]; simp [vals]
  have hl4 : (vals (Wy n)).length ≤ 4 := by simpa [vals] using H.out.2.1.deep n hn
  obtain ⟨gg, cap, rfl, hg1, hg2, hcell⟩ := R.cells hl0
  have HY : Hid (Lc w w2 b h G (vals (Wy n)) gg) := ⟨R.bel, H.out.1.below R.bel hbl, hcell, hbl, hg2⟩
  have HWH := Hid.intro (way_there (H.out.2.1.ways n hn))
  clear R hcell
  generalize hN : (vals (Wy n)).length = N at *
  have HN := Hid.intro hN
  clear hN
  go_wp2_with fail
  go_loopw [10] (fun i wr => ∃ (pre rest : List (Fin 10)) (k : Nat), i = .int .i64 k ∧ k ≤ N ∧ Hid (Wy n = pre ++ rest ∧ pre.length = k ∧ (∀ y ∈ pre, lackB t Wy p q y = false) ∧ Lc w wr b h G (vals (Wy n)) gg)) (fun i _ => N - (intOf i).toNat)
  case atStart => exact ⟨[], Wy n, 0, rfl, by omega, rfl, rfl, by simp, HY.out⟩
  case round =>
    clear HY
    obtain ⟨pre, rest, k, rfl, hk, HK⟩ := hrel
    cases rest with
    | nil =>
      have hkN : ¬ k < N := by
        have e := HK.out.1
        rw [List.append_nil] at e
        have := HN.out
        rw [e] at this
        simp [vals, HK.out.2.1] at this
        omega
      have hkI : ¬ (k : Int) < N := by omega
      go_wp2_with fail
      go_ret
      refine ⟨.inl ⟨fun y hy => HK.out.2.2.1 y ?_, rfl⟩, HK.out.2.2.2.bel⟩
      have e := HK.out.1
      rw [List.append_nil] at e
      rw [← e]; exact hy
    | cons x rest =>
      have hlt : k < N := by
        have e := HK.out.1
        have := HN.out
        rw [e] at this
        simp [vals, HK.out.2.1] at this
        omega
      have hltI : (k : Int) < N := by omega
      have cl := HK.out.2.2.2.lst k (by rw [HN.out]; exact hlt)
      have hxe : (vals (Wy n)).getD k 0 = x.val := by
        rw [HK.out.1, List.getD_eq_getElem?_getD]
        simp [vals, ← HK.out.2.1]
      rw [hxe] at cl
      have hxm : x.val ∈ vals (Wy n) := by rw [HK.out.1]; simp [vals]
      have hx := HWH.out _ hxm
      have hxI : (x.val : Int) < 10 := by omega
      have g := H.out.2.2.1.g hx.1 hx.2
      have g0 : wr.cell? ⟨b, 10 + x.val * 5, none⟩ = _ := HK.out.2.2.2.tre.cg x.val 0 hx.1 (by omega)
      have g1 := HK.out.2.2.2.tre.cg x.val 1 hx.1 (by omega)
      have g2 := HK.out.2.2.2.tre.cg x.val 2 hx.1 (by omega)
      have g3 := HK.out.2.2.2.tre.cg x.val 3 hx.1 (by omega)
      have g4 := HK.out.2.2.2.tre.cg x.val 4 hx.1 (by omega)
      rw [g.1] at g0
      rw [g.2.1] at g1
      rw [g.2.2.1] at g2
      rw [g.2.2.2.1] at g3
      rw [g.2.2.2.2] at g4
      have b1 := totTo_bd Wy (x.val : Int) (fun k hk => (HS.out k hk).1) 10 (Nat.le_refl _)
      have b2 := totTo_bd Wy (x.val : Int) (fun k hk => (HS.out k hk).2) 10 (Nat.le_refl _)
      have HLC := Hid.intro (lack_cases (p := p) (q := q) (Wy := Wy) (y := x) H.out.2.2.2.2.1 rfl rfl rfl rfl)
      have HXE := Hid.intro hxe
      clear g hxm hx hxe
      generalize totTo t Wy x.val Gp.op 10 = X at *
      generalize totTo t Wy x.val Gp.oq 10 = Y at *
      generalize (t x.val).lp = LP at *
      generalize (t x.val).lq = LQ at *
      generalize (t x.val).par = PR at *
      have gl := HK.out.2.2.2.gl
      have ub := HK.out.2.2.2.tre.lt
      have al : ∀ (o : Obj) (p : Addr), p.block < wr.heap.size → (wr.alloc o).cell? p = wr.cell? p := fun o p hp => ((Below.refl _ wr).alloc (Nat.le_refl _) o).cell hp
      have al0 : ∀ o : Obj, (wr.alloc o).cell? ⟨gg, k, none⟩ = some (.int .i64 (x.val : Int)) := fun o => (al o _ gl).trans cl
      have al1 : ∀ o : Obj, (wr.alloc o).cell? ⟨b, 10 + x.val * 5, none⟩ = some (.int .i64 PR) := fun o => (al o _ ub).trans g0
      have al2 : ∀ o : Obj, (wr.alloc o).cell? ⟨b, 10 + x.val * 5 + 1, none⟩ = some (.int .i64 LP) := fun o => (al o _ ub).trans g1
      have al3 : ∀ o : Obj, (wr.alloc o).cell? ⟨b, 10 + x.val * 5 + 2, none⟩ = some (.int .i64 LQ) := fun o => (al o _ ub).trans g2
      have al4 : ∀ o : Obj, (wr.alloc o).cell? ⟨b, 10 + x.val * 5 + 3, none⟩ = some (.int .i64 X) := fun o => (al o _ ub).trans g3
      have al5 : ∀ o : Obj, (wr.alloc o).cell? ⟨b, 10 + x.val * 5 + 4, none⟩ = some (.int .i64 Y) := fun o => (al o _ ub).trans g4
      clear al
      go_wp2_with fail
      go_region
      go_upto_region 8 with fail
      have S8 : Lc w (wr.alloc (.cells #[.int .i64 PR, .int .i64 LP, .int .i64 LQ, .int .i64 X, .int .i64 Y] 76)).drew b h G (vals (Wy n)) gg := HK.out.2.2.2.below ((Below.refl _ wr).alloc (Nat.le_refl _) _).drew
      refine wp_gen (fun W => Lc w W b h G (vals (Wy n)) gg ∧ W.heap[wr.heap.size]? = some (.cells #[.int .i64 PR, .int .i64 LP, .int .i64 LQ, .int .i64 X, .int .i64 Y] 76 (0, 0))) ⟨S8, heap_alloc_new _ _⟩ ?_
      rintro W8 ⟨hS8, hC8⟩
      have HK3 := Hid.intro (And.intro HK.out.1 (And.intro HK.out.2.1 HK.out.2.2.1))
      clear al0 al1 al2 al3 al4 al5 g0 g1 g2 g3 g4 cl HK S8 gl ub
      generalize wr.heap.size = g8 at *
      have cl := hS8.lst k (by rw [HN.out]; exact hlt)
      rw [HXE.out] at cl
      have r1 : W8.cell? ⟨g8, 1, none⟩ = some (.int .i64 LP) := heap_cell hC8 1
      have r2 : W8.cell? ⟨g8, 2, none⟩ = some (.int .i64 LQ) := heap_cell hC8 2
      have r3 : W8.cell? ⟨g8, 3, none⟩ = some (.int .i64 X) := heap_cell hC8 3
      have r4 : W8.cell? ⟨g8, 4, none⟩ = some (.int .i64 Y) := heap_cell hC8 4
      have HK8 := Hid.intro hS8
      clear hS8 hC8
      rcases HLC.out with ⟨hlf, hc1, hc2⟩ | ⟨hlt3, hc⟩
      · have HLF := Hid.intro hlf
        clear hlf HLC
        rcases hc1 with h1 | ⟨h1, h2⟩ | ⟨h1, h2, h3⟩ <;> rcases hc2 with h4 | ⟨h4, h5⟩ | ⟨h4, h5, h6⟩
        all_goals (go_wp2_with fail)
        all_goals (go_roundw)
        all_goals (first | exact ⟨pre ++ [x], rest, k + 1, by go_num, by omega, by rw [HK3.out.1]; simp, by simp [HK3.out.2.1], fun y hy => (List.mem_append.1 hy).elim (HK3.out.2.2 y) (fun e => by simp at e; rw [e]; exact HLF.out), HK8.out⟩ | (simp [intOf]; omega))
      · have HLT := Hid.intro hlt3
        clear hlt3 HLC
        rcases hc with ⟨h1, h2, h3⟩ | ⟨h1 | ⟨h1, h2⟩ | ⟨h1, h2, h3⟩, h4, h5, h6⟩
        all_goals (go_wp2_with fail)
        all_goals (go_ret)
        all_goals (exact ⟨.inr ⟨pre, x, rest, HK3.out.1, HK3.out.2.2, HLT.out, rfl⟩, HK8.out.bel⟩)
/-- What a charge makes of the document's own tree. -/
def chgG (t : Nat → Gp) (Wy : Nat → List (Fin 10)) (g p q : Int) (G : Nat → Nat → Int) : Nat → Nat → Int := if chgE t Wy g p q = 0 then layG G (vals (Wy g.toNat)) p q else G
theorem chgG_ok {t : Nat → Gp} {Wy : Nat → List (Fin 10)} {n : Nat} {p q : Int} {G : Nat → Nat → Int} (h : chgE t Wy n p q = 0) : chgG t Wy n p q G = layG G (vals (Wy n)) p q := if_pos h
theorem chgG_no {t : Nat → Gp} {Wy : Nat → List (Fin 10)} {g p q : Int} {G : Nat → Nat → Int} (h : chgE t Wy g p q ≠ 0) : chgG t Wy g p q G = G := if_neg h

set_option maxRecDepth 100000 in
set_option maxHeartbeats 2000000 in
theorem rcharge_way (b n : Nat) (p q : Int) (t : Nat → Gp) (Wy : Nat → List (Fin 10)) (c : Nat) (h : Nat → Bool) (G : Nat → Nat → Int) (w : World) (H0 : UAt w b h G) (hT : Tree t Wy c) (hc : c ≤ 1000) (hR : Rel t Wy h G) (hl : Lims t) (hr : refE t n p q = 0) :
    Calls Try.prog 30 #[.pointer (some ⟨b, 0, none⟩), .int .i64 n, .int .i64 p, .int .i64 q] w fun e w' => (e = .returned (.int .i64 (chgE t Wy n p q))) ∧ UAt w' b h (chgG t Wy n p q G) ∧ Frm b w w' := by
  have HS := Hid.intro (hT.small hc)
  obtain ⟨n', hnn, hn, hh, hp, hq⟩ := refE_zero hr
  obtain rfl : n = n' := by omega
  have H := Hid.intro (And.intro H0 (And.intro hT (And.intro hR (And.intro hh (And.intro hl hr)))))
  have hbl := H0.lt
  clear H0 hT hR hh hl hr hnn
  go_enter Try.func30, Try.ntmps30
  go_wp2_with fail
  refine (chargeable_any b n p q t h G _ H.out.1 (fun k hk => (H.out.2.2.1 k hk).1)).mono ?_
  rintro e w1 ⟨rfl, hw1⟩
  subst w1
  rw [H.out.2.2.2.2.2]
  go_wp2_with fail
  refine (rway_any b n t Wy c h G _ H.out.1 H.out.2.1 H.out.2.2.1 hn H.out.2.2.2.1).mono ?_
  rintro e w2 ⟨v, rfl, R⟩
  have hl0 : 0 < (vals (Wy n)).length := by
    obtain ⟨r, hr, _⟩ := way_cons H.out.2.1.ways hn H.out.2.2.2.1
    rw [hr]; simp [vals]
  have hl4 : (vals (Wy n)).length ≤ 4 := by simpa [vals] using H.out.2.1.deep n hn
  obtain ⟨gg, cap, rfl, hg1, hg2, hcell⟩ := R.cells hl0
  have HY : Hid (Lc w w2 b h G (vals (Wy n)) gg) := ⟨R.bel, H.out.1.below R.bel hbl, hcell, hbl, hg2⟩
  have HWH := Hid.intro (way_there (H.out.2.1.ways n hn))
  clear R hcell
  generalize hN : (vals (Wy n)).length = N at *
  have HN := Hid.intro hN
  clear hN
  go_wp2_with fail
  go_loopw [11] (fun i wr => ∃ (pre rest : List (Fin 10)) (k : Nat), i = .int .i64 k ∧ k ≤ N ∧ Hid (Wy n = pre ++ rest ∧ pre.length = k ∧ (∀ y ∈ pre, lackB t Wy p q y = false) ∧ Lc w wr b h G (vals (Wy n)) gg)) (fun i _ => N - (intOf i).toNat)
  case atStart => exact ⟨[], Wy n, 0, rfl, by omega, rfl, rfl, by simp, HY.out⟩
  case round =>
    clear HY
    obtain ⟨pre, rest, k, rfl, hk, HK⟩ := hrel
    cases rest with
    | nil =>
      have hkN : ¬ k < N := by
        have e := HK.out.1
        rw [List.append_nil] at e
        have := HN.out
        rw [e] at this
        simp [vals, HK.out.2.1] at this
        omega
      have hkI : ¬ (k : Int) < N := by omega
      have HE : Hid (chgE t Wy n p q = 0) := by
        have e := HK.out.1
        rw [List.append_nil] at e
        unfold Hid chgE lackA
        rw [if_pos H.out.2.2.2.2.2, Int.toNat_natCast, if_neg]
        rw [List.any_eq_true]
        rintro ⟨y, hy, hy2⟩
        rw [e] at hy
        rw [HK.out.2.2.1 y hy] at hy2
        cases hy2
      have HLC := Hid.intro HK.out.2.2.2
      clear HK
      go_wp2_with fail
      refine (rlay_any b n p q t Wy c h G _ HLC.out.tre H.out.2.1 hc H.out.2.2.1 hn H.out.2.2.2.1 (by omega) (by omega)).mono ?_
      rintro e W5 ⟨⟨v, rfl⟩, hU5, hF5⟩
      have HU5 := Hid.intro (And.intro hU5 ((Frm.of_below HLC.out.bel).trans hF5))
      clear hU5 hF5
      go_wp2_with fail
      go_ret
      exact ⟨by rw [HE.out]; rfl, by rw [chgG_ok HE.out]; exact HU5.out.1, HU5.out.2⟩
    | cons x rest =>
      have hlt : k < N := by
        have e := HK.out.1
        have := HN.out
        rw [e] at this
        simp [vals, HK.out.2.1] at this
        omega
      have hltI : (k : Int) < N := by omega
      have cl := HK.out.2.2.2.lst k (by rw [HN.out]; exact hlt)
      have hxe : (vals (Wy n)).getD k 0 = x.val := by
        rw [HK.out.1, List.getD_eq_getElem?_getD]
        simp [vals, ← HK.out.2.1]
      rw [hxe] at cl
      have hxm : x.val ∈ vals (Wy n) := by rw [HK.out.1]; simp [vals]
      have hx := HWH.out _ hxm
      have hxI : (x.val : Int) < 10 := by omega
      have g := H.out.2.2.1.g hx.1 hx.2
      have g0 : wr.cell? ⟨b, 10 + x.val * 5, none⟩ = _ := HK.out.2.2.2.tre.cg x.val 0 hx.1 (by omega)
      have g1 := HK.out.2.2.2.tre.cg x.val 1 hx.1 (by omega)
      have g2 := HK.out.2.2.2.tre.cg x.val 2 hx.1 (by omega)
      have g3 := HK.out.2.2.2.tre.cg x.val 3 hx.1 (by omega)
      have g4 := HK.out.2.2.2.tre.cg x.val 4 hx.1 (by omega)
      rw [g.1] at g0
      rw [g.2.1] at g1
      rw [g.2.2.1] at g2
      rw [g.2.2.2.1] at g3
      rw [g.2.2.2.2] at g4
      have b1 := totTo_bd Wy (x.val : Int) (fun k hk => (HS.out k hk).1) 10 (Nat.le_refl _)
      have b2 := totTo_bd Wy (x.val : Int) (fun k hk => (HS.out k hk).2) 10 (Nat.le_refl _)
      have HLC := Hid.intro (lack_cases (p := p) (q := q) (Wy := Wy) (y := x) H.out.2.2.2.2.1 rfl rfl rfl rfl)
      have HXE := Hid.intro hxe
      clear g hxm hx hxe
      generalize totTo t Wy x.val Gp.op 10 = X at *
      generalize totTo t Wy x.val Gp.oq 10 = Y at *
      generalize (t x.val).lp = LP at *
      generalize (t x.val).lq = LQ at *
      generalize (t x.val).par = PR at *
      have gl := HK.out.2.2.2.gl
      have ub := HK.out.2.2.2.tre.lt
      have al : ∀ (o : Obj) (p : Addr), p.block < wr.heap.size → (wr.alloc o).cell? p = wr.cell? p := fun o p hp => ((Below.refl _ wr).alloc (Nat.le_refl _) o).cell hp
      have al0 : ∀ o : Obj, (wr.alloc o).cell? ⟨gg, k, none⟩ = some (.int .i64 (x.val : Int)) := fun o => (al o _ gl).trans cl
      have al1 : ∀ o : Obj, (wr.alloc o).cell? ⟨b, 10 + x.val * 5, none⟩ = some (.int .i64 PR) := fun o => (al o _ ub).trans g0
      have al2 : ∀ o : Obj, (wr.alloc o).cell? ⟨b, 10 + x.val * 5 + 1, none⟩ = some (.int .i64 LP) := fun o => (al o _ ub).trans g1
      have al3 : ∀ o : Obj, (wr.alloc o).cell? ⟨b, 10 + x.val * 5 + 2, none⟩ = some (.int .i64 LQ) := fun o => (al o _ ub).trans g2
      have al4 : ∀ o : Obj, (wr.alloc o).cell? ⟨b, 10 + x.val * 5 + 3, none⟩ = some (.int .i64 X) := fun o => (al o _ ub).trans g3
      have al5 : ∀ o : Obj, (wr.alloc o).cell? ⟨b, 10 + x.val * 5 + 4, none⟩ = some (.int .i64 Y) := fun o => (al o _ ub).trans g4
      clear al
      go_wp2_with fail
      go_region
      go_upto_region 9 with fail
      have S8 : Lc w (wr.alloc (.cells #[.int .i64 PR, .int .i64 LP, .int .i64 LQ, .int .i64 X, .int .i64 Y] 76)).drew b h G (vals (Wy n)) gg := HK.out.2.2.2.below ((Below.refl _ wr).alloc (Nat.le_refl _) _).drew
      refine wp_gen (fun W => Lc w W b h G (vals (Wy n)) gg ∧ W.heap[wr.heap.size]? = some (.cells #[.int .i64 PR, .int .i64 LP, .int .i64 LQ, .int .i64 X, .int .i64 Y] 76 (0, 0))) ⟨S8, heap_alloc_new _ _⟩ ?_
      rintro W8 ⟨hS8, hC8⟩
      have HK3 := Hid.intro (And.intro HK.out.1 (And.intro HK.out.2.1 HK.out.2.2.1))
      clear al0 al1 al2 al3 al4 al5 g0 g1 g2 g3 g4 cl HK S8 gl ub
      generalize wr.heap.size = g8 at *
      have cl := hS8.lst k (by rw [HN.out]; exact hlt)
      rw [HXE.out] at cl
      have r1 : W8.cell? ⟨g8, 1, none⟩ = some (.int .i64 LP) := heap_cell hC8 1
      have r2 : W8.cell? ⟨g8, 2, none⟩ = some (.int .i64 LQ) := heap_cell hC8 2
      have r3 : W8.cell? ⟨g8, 3, none⟩ = some (.int .i64 X) := heap_cell hC8 3
      have r4 : W8.cell? ⟨g8, 4, none⟩ = some (.int .i64 Y) := heap_cell hC8 4
      have HK8 := Hid.intro hS8
      clear hS8 hC8
      rcases HLC.out with ⟨hlf, hc1, hc2⟩ | ⟨hlt3, hc⟩
      · have HLF := Hid.intro hlf
        clear hlf HLC
        rcases hc1 with h1 | ⟨h1, h2⟩ | ⟨h1, h2, h3⟩ <;> rcases hc2 with h4 | ⟨h4, h5⟩ | ⟨h4, h5, h6⟩
        all_goals (go_wp2_with fail)
        all_goals (go_roundw)
        all_goals (first | exact ⟨pre ++ [x], rest, k + 1, by go_num, by omega, by rw [HK3.out.1]; simp, by simp [HK3.out.2.1], fun y hy => (List.mem_append.1 hy).elim (HK3.out.2.2 y) (fun e => by simp at e; rw [e]; exact HLF.out), HK8.out⟩ | (simp [intOf]; omega))
      · have HE : Hid (chgE t Wy n p q = 6) := by
          unfold Hid chgE lackA
          rw [if_pos H.out.2.2.2.2.2, Int.toNat_natCast, if_pos]
          rw [List.any_eq_true]
          exact ⟨x, by rw [HK3.out.1]; simp, hlt3⟩
        clear hlt3 HLC
        rcases hc with ⟨h1, h2, h3⟩ | ⟨h1 | ⟨h1, h2⟩ | ⟨h1, h2, h3⟩, h4, h5, h6⟩
        all_goals (go_wp2_with fail)
        all_goals (go_ret)
        all_goals (exact ⟨by rw [HE.out]; rfl, by rw [chgG_no (by rw [HE.out]; decide)]; exact HK8.out.tre, Frm.of_below HK8.out.bel⟩)

theorem refE_pos {t : Nat → Gp} {g p q : Int} (h : refE t g p q ≠ 0) : 0 < refE t g p q := by
  unfold refE at h ⊢
  by_cases hw : wr t g = 0
  · rw [if_pos hw] at h ⊢
    split <;> simp_all
  · rw [if_neg hw]; exact wr_pos hw
set_option maxRecDepth 100000 in
set_option maxHeartbeats 400000 in
theorem rcharge_ref (b : Nat) (g p q : Int) (t : Nat → Gp) (h : Nat → Bool) (G : Nat → Nat → Int) (w : World) (H0 : UAt w b h G) (hh : ∀ k, k < 10 → h k = (t k).there) (hr : refE t g p q ≠ 0) :
    Calls Try.prog 30 #[.pointer (some ⟨b, 0, none⟩), .int .i64 g, .int .i64 p, .int .i64 q] w fun e w' => e = .returned (.int .i64 (refE t g p q)) ∧ w' = w := by
  have H := Hid.intro (And.intro H0 hh)
  have hp := refE_pos hr
  clear H0 hh hr
  go_enter Try.func30, Try.ntmps30
  go_wp2_with fail
  refine (chargeable_any b g p q t h G _ H.out.1 H.out.2).mono ?_
  rintro e w1 ⟨rfl, hw1⟩
  subst w1
  go_wp2
  go_ret
  exact ⟨rfl, rfl⟩
theorem rcharge_any (b : Nat) (g p q : Int) (t : Nat → Gp) (Wy : Nat → List (Fin 10)) (c : Nat) (h : Nat → Bool) (G : Nat → Nat → Int) (w : World) (H0 : UAt w b h G) (hT : Tree t Wy c) (hc : c ≤ 1000) (hR : Rel t Wy h G) (hl : Lims t) :
    Calls Try.prog 30 #[.pointer (some ⟨b, 0, none⟩), .int .i64 g, .int .i64 p, .int .i64 q] w fun e w' => e = .returned (.int .i64 (chgE t Wy g p q)) ∧ UAt w' b h (chgG t Wy g p q G) ∧ Frm b w w' := by
  by_cases hr : refE t g p q = 0
  · obtain ⟨n, rfl, _⟩ := refE_zero hr
    exact rcharge_way b n p q t Wy c h G w H0 hT hc hR hl hr
  · have e : chgE t Wy g p q = refE t g p q := if_neg hr
    refine (rcharge_ref b g p q t h G w H0 (fun k hk => (hR k hk).1) hr).mono ?_
    rintro e w1 ⟨rfl, rfl⟩
    exact ⟨by rw [e], by rw [chgG_no (by rw [e]; exact hr)]; exact H0, Frm.refl _ _⟩
set_option maxRecDepth 100000 in
set_option maxHeartbeats 400000 in
theorem rlacks_ref (b : Nat) (g p q : Int) (t : Nat → Gp) (h : Nat → Bool) (G : Nat → Nat → Int) (w : World) (H0 : UAt w b h G) (hh : ∀ k, k < 10 → h k = (t k).there) (hr : refE t g p q ≠ 0) :
    Calls Try.prog 34 #[.pointer (some ⟨b, 0, none⟩), .int .i64 g, .int .i64 p, .int .i64 q] w fun e w' => e = .returned (.int .i64 (-1)) ∧ w' = w := by
  have H := Hid.intro (And.intro H0 hh)
  have hp := refE_pos hr
  clear H0 hh hr
  go_enter Try.func34, Try.ntmps34
  go_wp2_with fail
  refine (chargeable_any b g p q t h G _ H.out.1 H.out.2).mono ?_
  rintro e w1 ⟨rfl, hw1⟩
  subst w1
  go_wp2
  go_ret
  exact ⟨rfl, rfl⟩
end Go.Proofs.Ytgabceeekkcekaa

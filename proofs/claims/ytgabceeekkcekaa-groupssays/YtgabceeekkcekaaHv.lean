/- The document's own tree: chargeable, below, Lay, Under. -/
import Derived.Test.YtgabceeekkcekaaHm
import Derived.BigRegion
namespace Go.Proofs.Ytgabceeekkcekaa
open Go.RowKit Go.Shelf

theorem wr_pos {t : Nat → Gp} {g : Int} (h : wr t g ≠ 0) : 0 < wr t g := by rcases wr_cases t g with e | e | e <;> omega

set_option maxRecDepth 100000 in
set_option maxHeartbeats 400000 in
theorem chargeable_any (b : Nat) (g p q : Int) (t : Nat → Gp) (h : Nat → Bool) (G : Nat → Nat → Int) (w : World) (H0 : UAt w b h G) (hh : ∀ k, k < 10 → h k = (t k).there) :
    Calls Try.prog 64 #[.pointer (some ⟨b, 0, none⟩), .int .i64 g, .int .i64 p, .int .i64 q] w fun e w' => e = .returned (.int .i64 (refE t g p q)) ∧ w' = w := by
  have H := Hid.intro (And.intro H0 hh)
  clear H0 hh
  by_cases hw : wr t g = 0
  · have e : refE t g p q = if fromB p q 0 = true then 0 else 1 := if_pos hw
    rw [e]
    have HW := Hid.intro hw
    clear e hw
    by_cases h1 : p < 0
    · have e : fromB p q 0 = false := by rw [Bool.eq_false_iff, Ne, fromB_iff]; omega
      rw [e]
      clear e
      go_enter Try.func64, Try.ntmps64
      go_wp2_with fail
      refine (is_any b g t h G _ H.out.1 H.out.2).mono ?_
      rintro e w1 ⟨rfl, hw1⟩
      subst w1
      rw [HW.out]
      go_wp2
      go_ret
      exact ⟨rfl, rfl⟩
    · have d1 : decide (p < 0) = false := by simp; omega
      by_cases h2 : 20 < p
      · have e : fromB p q 0 = false := by rw [Bool.eq_false_iff, Ne, fromB_iff]; omega
        rw [e]
        clear e h1
        go_enter Try.func64, Try.ntmps64
        go_wp2_with fail
        refine (is_any b g t h G _ H.out.1 H.out.2).mono ?_
        rintro e w1 ⟨rfl, hw1⟩
        subst w1
        rw [HW.out]
        go_wp2
        go_ret
        exact ⟨rfl, rfl⟩
      · have d2 : decide (20 < p) = false := by simp; omega
        by_cases h3 : q < 0
        · have e : fromB p q 0 = false := by rw [Bool.eq_false_iff, Ne, fromB_iff]; omega
          rw [e]
          clear e h1 h2
          go_enter Try.func64, Try.ntmps64
          go_wp2_with fail
          refine (is_any b g t h G _ H.out.1 H.out.2).mono ?_
          rintro e w1 ⟨rfl, hw1⟩
          subst w1
          rw [HW.out]
          go_wp2
          go_ret
          exact ⟨rfl, rfl⟩
        · have d3 : decide (q < 0) = false := by simp; omega
          by_cases h4 : 64 < q
          · have e : fromB p q 0 = false := by rw [Bool.eq_false_iff, Ne, fromB_iff]; omega
            rw [e]
            clear e h1 h2 h3
            go_enter Try.func64, Try.ntmps64
            go_wp2_with fail
            refine (is_any b g t h G _ H.out.1 H.out.2).mono ?_
            rintro e w1 ⟨rfl, hw1⟩
            subst w1
            rw [HW.out]
            go_wp2
            go_ret
            exact ⟨rfl, rfl⟩
          · have d4 : decide (64 < q) = false := by simp; omega
            have e : fromB p q 0 = true := by rw [fromB_iff]; omega
            rw [e]
            clear e h1 h2 h3 h4
            go_enter Try.func64, Try.ntmps64
            go_wp2_with fail
            refine (is_any b g t h G _ H.out.1 H.out.2).mono ?_
            rintro e w1 ⟨rfl, hw1⟩
            subst w1
            rw [HW.out]
            go_wp2
            go_ret
            exact ⟨rfl, rfl⟩
  · have e : refE t g p q = wr t g := if_neg hw
    rw [e]
    have hp := wr_pos hw
    clear e hw
    go_enter Try.func64, Try.ntmps64
    go_wp2_with fail
    refine (is_any b g t h G _ H.out.1 H.out.2).mono ?_
    rintro e w1 ⟨rfl, hw1⟩
    subst w1
    go_wp2
    go_ret
    exact ⟨rfl, rfl⟩

set_option maxRecDepth 100000 in
set_option maxHeartbeats 1000000 in
theorem rbelow_any (b n : Nat) (t : Nat → Gp) (Wy : Nat → List (Fin 10)) (h : Nat → Bool) (G : Nat → Nat → Int) (w : World) (H0 : UAt w b h G) (hR : Rel t Wy h G) :
    Calls Try.prog 60 #[.pointer (some ⟨b, 0, none⟩), .int .i64 n] w fun e w' => e = .returned (.bool (abvB t n)) ∧ w' = w := by
  have H := Hid.intro (And.intro H0 hR)
  clear H0 hR
  go_enter Try.func60, Try.ntmps60
  go_wp2_with fail
  go_loopw [5] (fun i wr => ∃ (k : Nat), i = .int .i64 k ∧ k ≤ 10 ∧ wr = w ∧ Hid (∀ j, j < k → ¬ ((t j).there = true ∧ (t j).par = n))) (fun i _ => 10 - (intOf i).toNat)
  case atStart => exact ⟨0, rfl, by omega, rfl, fun j hj => by omega⟩
  case round =>
    obtain ⟨k, rfl, hk, rfl, HR⟩ := hrel
    by_cases hlt : k < 10
    · have hltI : (k : Int) < 10 := by omega
      have c0 := H.out.1.ch k hlt
      rw [(H.out.2 k hlt).1] at c0
      have c1 : wr.cell? ⟨b, 10 + k * 5, none⟩ = _ := H.out.1.cg k 0 hlt (by omega)
      cases hth : (t k).there
      · rw [hth] at c0
        have HN : Hid (∀ j, j < k + 1 → ¬ ((t j).there = true ∧ (t j).par = n)) := fun j hj => by
          by_cases e : j = k
          · subst e; rw [hth]; simp
          · exact HR.out j (by omega)
        clear hth c1
        go_wp2_with fail
        go_roundw
        case rel => exact ⟨k + 1, by go_num, by omega, trivial, HN.out⟩
        case measure => simp [intOf]; omega
      · rw [hth] at c0
        rw [(H.out.2.g hlt hth).1] at c1
        by_cases hp : (t k).par = n
        · rw [hp] at c1
          have HA := Hid.intro (abvB_true hlt hth hp)
          clear hth hp
          go_wp2
          go_ret
          exact ⟨by rw [HA.out]; rfl, rfl⟩
        · have hpf : ((t k).par == (n : Int)) = false := by simpa using hp
          have HN : Hid (∀ j, j < k + 1 → ¬ ((t j).there = true ∧ (t j).par = n)) := fun j hj => by
            by_cases e : j = k
            · subst e; exact fun hx => hp hx.2
            · exact HR.out j (by omega)
          clear hth hp
          go_wp2_with fail
          go_roundw
          case rel => exact ⟨k + 1, by go_num, by omega, trivial, HN.out⟩
          case measure => simp [intOf]; omega
    · have hk10 : k = 10 := by omega
      subst hk10
      have HA := Hid.intro (abvB_false HR.out)
      go_wp2
      go_ret
      exact ⟨by rw [HA.out]; rfl, rfl⟩

set_option maxRecDepth 100000 in
set_option maxHeartbeats 1000000 in
theorem runder_any (b : Nat) (g other : Int) (t : Nat → Gp) (Wy : Nat → List (Fin 10)) (c : Nat) (h : Nat → Bool) (G : Nat → Nat → Int) (w : World) (H0 : UAt w b h G) (hT : Tree t Wy c) (hR : Rel t Wy h G) (hw : wr t g = 0) :
    Calls Try.prog 36 #[.pointer (some ⟨b, 0, none⟩), .int .i64 g, .int .i64 other] w fun e w' => e = .returned (.bool (und Wy g.toNat other)) ∧ Below w.heap.size w w' := by
  obtain ⟨n, rfl, hn, hh⟩ := wr_zero hw
  rw [Int.toNat_natCast]
  have H := Hid.intro (And.intro H0 (And.intro hT (And.intro hR (And.intro hw hh))))
  have hbl := H0.lt
  clear H0 hT hR hw hh
  go_enter Try.func36, Try.ntmps36
  go_wp2_with fail
  refine (is_any b n t h G _ H.out.1 (fun k hk => (H.out.2.2.1 k hk).1)).mono ?_
  rintro e w1 ⟨rfl, hw1⟩
  subst w1
  rw [H.out.2.2.2.1]
  go_wp2_with fail
  refine (rway_any b n t Wy c h G _ H.out.1 H.out.2.1 H.out.2.2.1 hn H.out.2.2.2.2).mono ?_
  rintro e w2 ⟨v, rfl, R⟩
  have hl0 : 0 < (vals (Wy n)).length := by
    obtain ⟨r, hr, _⟩ := way_cons H.out.2.1.ways hn H.out.2.2.2.2
    rw [hr]; simp [vals]
  have hl4 : (vals (Wy n)).length ≤ 4 := by simpa [vals] using H.out.2.1.deep n hn
  obtain ⟨gg, cap, rfl, hg1, hg2, hcell⟩ := R.cells hl0
  have HB := Hid.intro R.bel
  have HC := Hid.intro hcell
  clear R hcell
  generalize hL : vals (Wy n) = L at *
  have HL := Hid.intro hL
  clear hL
  generalize hN : L.length = N at *
  have HN := Hid.intro hN
  clear hN
  go_wp2_with fail
  go_loopw [8] (fun i wr => ∃ (k : Nat), i = .int .i64 k ∧ k ≤ N ∧ wr = w2 ∧ Hid (∀ j, j < k → ((L.getD j 0 : Nat) : Int) ≠ other)) (fun i _ => N - (intOf i).toNat)
  case atStart => exact ⟨0, rfl, by omega, rfl, fun j hj => by omega⟩
  case round =>
    obtain ⟨k, rfl, hk, rfl, HR⟩ := hrel
    by_cases hlt : k < N
    · have hltI : (k : Int) < N := by omega
      have c0 := HC.out k hlt
      generalize hx : L.getD k 0 = x at *
      have HX := Hid.intro hx
      clear hx
      by_cases hp : (x : Int) = other
      · have HU : Hid (und Wy n other = true) := by
          unfold Hid
          rw [← hp, und_mem, HL.out, ← HX.out, List.getD_eq_getElem?_getD, List.getElem?_eq_getElem (by rw [HN.out]; exact hlt)]
          exact List.getElem_mem _
        subst hp
        go_wp2
        go_ret
        exact ⟨by rw [HU.out]; rfl, HB.out⟩
      · have hpf : ((x : Int) == other) = false := by simpa using hp
        have HN2 : Hid (∀ j, j < k + 1 → ((L.getD j 0 : Nat) : Int) ≠ other) := fun j hj => by
          by_cases e : j = k
          · subst e; rw [HX.out]; exact hp
          · exact HR.out j (by omega)
        clear hp
        go_wp2_with fail
        go_roundw
        case rel => exact ⟨k + 1, by go_num, by omega, trivial, HN2.out⟩
        case measure => simp [intOf]; omega
    · have hkN : k = N := by omega
      subst hkN
      have HU : Hid (und Wy n other = false) := by
        unfold Hid
        rw [Bool.eq_false_iff, Ne, und_iff]
        rintro ⟨x, hx, e⟩
        have hm : x.val ∈ L := by rw [← HL.out]; exact List.mem_map.2 ⟨x, hx, rfl⟩
        obtain ⟨i, hi, hi2⟩ := List.getElem_of_mem hm
        refine HR.out i (by rw [← HN.out]; exact hi) ?_
        rw [List.getD_eq_getElem?_getD, List.getElem?_eq_getElem hi]
        simp only [Option.getD_some]
        rw [hi2]; exact e
      go_wp2
      go_ret
      exact ⟨by rw [HU.out]; rfl, HB.out⟩

/-- What Lay has in its hands. -/
structure Ly (w W : World) (b : Nat) (h : Nat → Bool) (G : Nat → Nat → Int) (L : List Nat) (gg : Nat) : Prop where
  frm : Frm b w W
  tre : UAt W b h G
  lst : ∀ i, i < L.length → W.cell? ⟨gg, i, none⟩ = some (.int .i64 (L.getD i 0 : Nat))
  ne : b < gg
theorem Ly.set {w W : World} {b gg : Nat} {h : Nat → Bool} {G : Nat → Nat → Int} {L : List Nat} (H : Ly w W b h G L gg) {n j : Nat} (hn : n < 10) (hj : j < 5) (v : Int) : Ly w (W.setCell ⟨b, 10 + n * 5 + j, none⟩ (.int .i64 v)).drew b h (updG G n j v) L gg := by
  have h1 := H.ne
  exact ⟨(H.frm.setCell _ _).drew, H.tre.setG n j hn hj v, fun i hi => by
    have := H.lst i hi
    rw [← World.cell?_setCell_far W ⟨b, 10 + n * 5 + j, none⟩ ⟨gg, i, none⟩ (.int .i64 v) (show b ≠ gg by omega)] at this
    exact this, h1⟩

set_option maxRecDepth 100000 in
set_option maxHeartbeats 1000000 in
theorem rlay_any (b n : Nat) (p q : Int) (t : Nat → Gp) (Wy : Nat → List (Fin 10)) (c : Nat) (h : Nat → Bool) (G : Nat → Nat → Int) (w : World) (H0 : UAt w b h G) (hT : Tree t Wy c) (hc : c ≤ 1000) (hR : Rel t Wy h G) (hn : n < 10) (hh : (t n).there = true) (hp : -100 ≤ p ∧ p ≤ 100) (hq : -100 ≤ q ∧ q ≤ 100) :
    Calls Try.prog 65 #[.pointer (some ⟨b, 0, none⟩), .int .i64 n, .int .i64 p, .int .i64 q] w fun e w' => (∃ v, e = .returned v) ∧ UAt w' b h (layG G (vals (Wy n)) p q) ∧ Frm b w w' := by
  have HS := Hid.intro (hT.small hc)
  have H := Hid.intro (And.intro H0 (And.intro hT (And.intro hR hh)))
  have hbl := H0.lt
  clear H0 hT hR hh hc
  go_enter Try.func65, Try.ntmps65
  go_wp2_with fail
  refine (rway_any b n t Wy c h G _ H.out.1 H.out.2.1 H.out.2.2.1 hn H.out.2.2.2).mono ?_
  rintro e w2 ⟨v, rfl, R⟩
  have hl0 : 0 < (vals (Wy n)).length := by
    obtain ⟨r, hr, _⟩ := way_cons H.out.2.1.ways hn H.out.2.2.2
    rw [hr]; simp [vals]
  have hl4 : (vals (Wy n)).length ≤ 4 := by simpa [vals] using H.out.2.1.deep n hn
  obtain ⟨gg, cap, rfl, hg1, hg2, hcell⟩ := R.cells hl0
  have HY : Hid (Ly w w2 b h (layG G [] p q) (vals (Wy n)) gg) := ⟨Frm.of_below R.bel, by rw [layG_nil]; exact H.out.1.below R.bel hbl, hcell, by omega⟩
  have HD : Hid ((vals (Wy n)).Nodup ∧ ∀ x ∈ vals (Wy n), x < 10 ∧ (t x).there = true) := ⟨way_nodup (H.out.2.1.ways n hn), way_there (H.out.2.1.ways n hn)⟩
  clear R hcell
  generalize hL : vals (Wy n) = L at *
  have HL := Hid.intro hL
  clear hL
  generalize hN : L.length = N at *
  have HN := Hid.intro hN
  clear hN
  go_wp2_with fail
  go_loopw [9] (fun i wr => ∃ (k : Nat), i = .int .i64 k ∧ k ≤ N ∧ Hid (Ly w wr b h (layG G (L.take k) p q) L gg)) (fun i _ => N - (intOf i).toNat)
  case atStart => exact ⟨0, rfl, by omega, HY.out⟩
  case round =>
    clear HY
    obtain ⟨k, rfl, hk, HK⟩ := hrel
    by_cases hlt : k < N
    · have hltI : (k : Int) < N := by omega
      have hkL : k < L.length := by rw [HN.out]; exact hlt
      have cl := HK.out.lst k hkL
      have hxm : L.getD k 0 ∈ L := by
        rw [List.getD_eq_getElem?_getD, List.getElem?_eq_getElem hkL]
        exact List.getElem_mem hkL
      have hx := HD.out.2 _ hxm
      have hxt : L.getD k 0 ∉ L.take k := by
        have hd := HD.out.1
        rw [← List.take_append_drop (k + 1) L, take_snoc L hkL] at hd
        have := (List.nodup_append.1 hd).1
        rw [List.nodup_append] at this
        intro hm
        exact this.2.2 _ hm _ (by simp) rfl
      have SN := Hid.intro (layG_snoc G (L.take k) (L.getD k 0) p q hxt)
      rw [← take_snoc L hkL] at SN
      have hbd : (-100000 ≤ layG G (L.take k) p q (L.getD k 0) 3 ∧ layG G (L.take k) p q (L.getD k 0) 3 ≤ 100000000) ∧ (-100000 ≤ layG G (L.take k) p q (L.getD k 0) 4 ∧ layG G (L.take k) p q (L.getD k 0) 4 ≤ 100000000) := by
        have e3 : layG G (L.take k) p q (L.getD k 0) 3 = G (L.getD k 0) 3 := by unfold layG; rw [if_neg hxt]
        have e4 : layG G (L.take k) p q (L.getD k 0) 4 = G (L.getD k 0) 4 := by unfold layG; rw [if_neg hxt]
        have g := H.out.2.2.1.g hx.1 hx.2
        have b1 := totTo_bd Wy ((L.getD k 0 : Nat) : Int) (fun k hk => (HS.out k hk).1) 10 (Nat.le_refl _)
        have b2 := totTo_bd Wy ((L.getD k 0 : Nat) : Int) (fun k hk => (HS.out k hk).2) 10 (Nat.le_refl _)
        rw [e3, e4, g.2.2.2.1, g.2.2.2.2]
        omega
      clear hxm hxt hkL
      generalize hxe : L.getD k 0 = x at *
      have HX := Hid.intro hxe
      clear hxe
      have hx10 := hx.1
      have hxI : (x : Int) < 10 := by omega
      have g3 := HK.out.tre.cg x 3 hx10 (by omega)
      have gf := HK.out.tre.frozen
      generalize layG G (L.take k) p q = GG at *
      generalize hV3 : GG x 3 = V3 at *
      generalize hV4 : GG x 4 = V4 at *
      have HV := Hid.intro (And.intro hV3 hV4)
      obtain ⟨bd3, bd4⟩ := hbd
      clear hV3 hV4 hx
      have hne : gg ≠ b := by have := HK.out.ne; omega
      have hne2 : b ≠ gg := by omega
      go_wp2_with fail
      go_region
      go_wp2_with fail
      refine wp_gen (fun W => Ly w W b h (updG GG x 3 (V3 + p)) L gg) (HK.out.set hx10 (by omega) (V3 + p)) ?_
      intro W5 hY5
      have HY5 := Hid.intro hY5
      clear cl g3 gf hY5
      have cl := HY5.out.lst k (by rw [HN.out]; exact hlt)
      rw [show L.getD k 0 = x from HX.out] at cl
      have g4 := HY5.out.tre.cg x 4 hx10 (by omega)
      rw [show updG GG x 3 (V3 + p) x 4 = V4 by rw [← HV.out.2]; simp [updG]] at g4
      have gf := HY5.out.tre.frozen
      go_region
      go_wp2_with fail
      go_roundw
      case rel =>
        refine ⟨k + 1, by go_num, by omega, ?_⟩
        have hZ := HY5.out.set hx10 (show 4 < 5 by omega) (V4 + q)
        rw [SN.out] at hZ
        exact hZ
      case measure => simp [intOf]; omega
    · have hkN : k = N := by omega
      subst hkN
      have hK := HK.out
      rw [show L.take k = L by rw [← HN.out]; exact List.take_length] at hK
      have HK2 := Hid.intro hK
      clear HK hK
      go_wp2_with fail
      go_end0
      exact ⟨⟨_, rfl⟩, by rw [HL.out]; exact HK2.out.tre, HK2.out.frm⟩
end Go.Proofs.Ytgabceeekkcekaa

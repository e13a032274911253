/- The document's own table: Enter, Leave. -/
import Derived.Test.YtgabfkaadflciaaVk
namespace Go.Proofs.Ytgabfkaadflciaa
open Go.RowKit
open Sp (T)

section
variable {w : World} {b : Nat} {t : T}
theorem rinT_start {n y : Nat} (h : Tb false w b t) (hy : y < 20) : Tb false (w.setCell ⟨b, 138 + y, none⟩ (.int .i64 ((n : Int) + 1))) b (Sp.inT t [] n y) := by
  have := h.setOf y (n + 1) hy
  rw [show co false (n + 1) = (n : Int) + 1 by unfold co; simp] at this
  exact this.congr (cell_sort (fun m hm => by rw [cellT_here false _ m hm, cellT_here false _ m hm]; rfl) (fun m hm => by rw [cellT_par false _ m hm, cellT_par false _ m hm]; rfl) (fun m q hm hq => by rw [cellT_who false _ m q hm hq, cellT_who false _ m q hm hq]; simp [Sp.inT, Sp.putT]) (fun z hz => by rw [cellT_of, cellT_of]; rfl))
theorem rinT_up {L : List Nat} {n y m : Nat} (h : Tb false w b (Sp.inT t L n y)) (hm : m < 6) (hp : Sp.low t m < 21) : Tb false (w.setCell ⟨b, m * 23 + 2 + Sp.low t m, none⟩ (.int .i64 ((y : Int) + 1))) b (Sp.inT t (L ++ [m]) n y) := by
  have := h.setWho m (Sp.low t m) (y + 1) hm hp
  rw [show cw false ((Sp.inT t L n y).here m) (y + 1) = (y : Int) + 1 by unfold cw; simp] at this
  refine this.congr (cell_sort (fun a ha => by rw [cellT_here false _ a ha, cellT_here false _ a ha]; rfl) (fun a ha => by rw [cellT_par false _ a ha, cellT_par false _ a ha]; rfl) (fun a q ha hq => ?_) (fun z hz => by rw [cellT_of, cellT_of]; rfl))
  rw [cellT_who false _ a q ha hq, cellT_who false _ a q ha hq]
  have e : (Sp.inT t (L ++ [m]) n y).who a q = (upW (Sp.inT t L n y) m (Sp.low t m) (y + 1)).who a q := by
    show (if a ∈ L ++ [m] ∧ q = Sp.low t a then y + 1 else t.who a q) = if a = m ∧ q = Sp.low t m then y + 1 else (if a ∈ L ∧ q = Sp.low t a then y + 1 else t.who a q)
    by_cases c : a = m
    · subst c
      by_cases c2 : q = Sp.low t a
      · rw [if_pos ⟨by simp, c2⟩, if_pos ⟨rfl, c2⟩]
      · rw [if_neg (fun k => c2 k.2), if_neg (fun k => c2 k.2), if_neg (fun k => c2 k.2)]
    · rw [if_neg (show ¬ (a = m ∧ q = Sp.low t m) from fun k => c k.1)]
      have : (a ∈ L ++ [m]) ↔ a ∈ L := by simp [c]
      simp only [this]
  rw [e]; rfl
end

/-- What Enter has in its hands: the table; the way. -/
structure EL (w W : World) (b gg : Nat) (t : T) (L : List Nat) (n y k : Nat) : Prop where
  tb : Tb false W b (Sp.inT t (L.take k) n y)
  frm : Frm b w W
  lst : ∀ i, i < L.length → W.cell? ⟨gg, i, none⟩ = some (.int .i64 ((L.getD i 0 : Nat) : Int))
  ne : gg ≠ b
theorem EL.drew {w W : World} {b gg : Nat} {t : T} {L : List Nat} {n y k : Nat} (h : EL w W b gg t L n y k) : EL w W.drew b gg t L n y k := ⟨h.tb.drew, h.frm.drew, h.lst, h.ne⟩
theorem EL.up {w W : World} {b gg : Nat} {t : T} {L : List Nat} {n y k m : Nat} (h : EL w W b gg t L n y k) (hk : k < L.length) (hm : L.getD k 0 = m) (hm6 : m < 6) (hp : Sp.low t m < 21) : EL w (W.setCell ⟨b, m * 23 + 2 + Sp.low t m, none⟩ (.int .i64 ((y : Int) + 1))) b gg t L n y (k + 1) := by
  refine ⟨?_, h.frm.setCell _ _, fun i hi => ?_, h.ne⟩
  · have e : L.take (k + 1) = L.take k ++ [m] := by
      rw [List.take_succ_eq_append_getElem hk, ← hm, List.getD_eq_getElem?_getD, List.getElem?_eq_getElem hk]; rfl
    rw [e]; exact rinT_up h.tb hm6 hp
  · rw [World.cell?_setCell_far _ _ _ _ (Ne.symm h.ne)]; exact h.lst i hi

set_option maxRecDepth 100000 in
set_option maxHeartbeats 400000 in
theorem renter_wrong (b : Nat) (z x : Int) (t : T) (w : World) (h : Tb false w b t) (k : Sp.pairE t z x ≠ 0) :
    Calls Try.prog 69 #[.pointer (some ⟨b, 0, none⟩), .int .i64 z, .int .i64 x] w fun e w' => e = .returned (.tuple #[.int .i64 0, .int .i64 (Sp.pairE t z x)]) ∧ w' = w := by
  have HF := Hid.intro h
  by_cases i0 : Sp.isE t z = 0
  · have HK := Hid.intro i0
    have HE : Hid (Sp.pairE t z x = 1) := Hid.intro (by
      unfold Sp.pairE at k ⊢
      rw [if_pos i0] at k ⊢
      exact (Sp.procE_cases x).resolve_left k)
    have hx : x < 0 ∨ 20 ≤ x := by
      refine Classical.byContradiction fun c => ?_
      have : Sp.pairE t z x = 0 := by unfold Sp.pairE; rw [if_pos i0]; exact if_neg c
      exact k this
    clear h k i0
    by_cases x0 : x < 0
    · clear hx
      go_enter Try.func69, Try.ntmps69
      go_wp2_with fail
      refine (ris_any b z t _ HF.out).mono ?_
      rintro e w1 ⟨rfl, hw⟩
      subst w1
      rw [HK.out]
      go_wp2
      go_ret2
      rw [HE.out]; exact ⟨rfl, rfl⟩
    · have x1 : decide (x < 0) = false := by simp; omega
      have x2 : 19 < x := by omega
      clear hx x0
      go_enter Try.func69, Try.ntmps69
      go_wp2_with fail
      refine (ris_any b z t _ HF.out).mono ?_
      rintro e w1 ⟨rfl, hw⟩
      subst w1
      rw [HK.out]
      go_wp2
      go_ret2
      rw [HE.out]; exact ⟨rfl, rfl⟩
  · have hp := (Sp.isE_cases t z).resolve_left i0
    have HE : Hid (Sp.pairE t z x = Sp.isE t z) := Hid.intro (by unfold Sp.pairE; rw [if_neg i0])
    obtain ⟨E, hE⟩ : ∃ E, Sp.isE t z = E := ⟨_, rfl⟩
    have HX := Hid.intro hE
    rw [hE] at hp
    clear h k hE i0
    go_enter Try.func69, Try.ntmps69
    go_wp2_with fail
    refine (ris_any b z t _ HF.out).mono ?_
    rintro e w1 ⟨rfl, hw⟩
    subst w1
    rw [HX.out]
    go_wp2
    go_ret2
    rw [HE.out, HX.out]; exact ⟨rfl, rfl⟩
set_option maxRecDepth 100000 in
set_option maxHeartbeats 400000 in
theorem renter_exist (b n y : Nat) (t : T) (w : World) (h : Tb false w b t) (k : Sp.isE t n = 0) (hy : y < 20) (ho : t.of y ≠ 0) :
    Calls Try.prog 69 #[.pointer (some ⟨b, 0, none⟩), .int .i64 n, .int .i64 y] w fun e w' => e = .returned (.tuple #[.int .i64 0, .int .i64 3]) ∧ w' = w := by
  have HF := Hid.intro h
  have HK := Hid.intro k
  have c := h.ofR y hy
  have hyI : (y : Int) < 20 := by omega
  have x2 : decide (19 < (y : Int)) = false := by simp; omega
  generalize t.of y = v at *
  have v0 : (0 : Int) < (v : Int) := by omega
  clear h k ho
  go_enter Try.func69, Try.ntmps69
  go_wp2_with fail
  refine (ris_any b n t _ HF.out).mono ?_
  rintro e w1 ⟨rfl, hw⟩
  subst w1
  rw [HK.out]
  go_wp2
  go_ret2
  exact ⟨rfl, rfl⟩
set_option maxRecDepth 100000 in
set_option maxHeartbeats 2000000 in
theorem renter_ok (b n y : Nat) (t : T) (d : Nat → Nat) (w : World) (h : Tb false w b t) (hI : Sp.Inv t d) (k : Sp.isE t n = 0) (hn : n < 6) (hh : t.here n = true) (hy : y < 20) (ho : t.of y = 0) :
    Calls Try.prog 69 #[.pointer (some ⟨b, 0, none⟩), .int .i64 n, .int .i64 y] w fun e w' => e = .returned (.tuple #[.int .i64 (Sp.pidN (Sp.inT t (Sp.W t n) n y) y n : Int), .int .i64 (Sp.pidE (Sp.inT t (Sp.W t n) n y) y n)]) ∧ Tb false w' b (Sp.inT t (Sp.W t n) n y) ∧ Frm b w w' := by
  have HF := Hid.intro h
  have HI := Hid.intro hI
  have HK := Hid.intro k
  have HH := Hid.intro (And.intro hh ho)
  have c := h.ofR y hy
  rw [ho] at c
  have c' : w.cell? ⟨b, 138 + y, none⟩ = some (.int .i64 0) := c
  have cf := h.frozen
  have hyI : (y : Int) < 20 := by omega
  have hnI : (n : Int) < 6 := by omega
  have x2 : decide (19 < (y : Int)) = false := by simp; omega
  have hwn : IntKind.i64.wrap ((n : Int) + 1) = (n : Int) + 1 := IntWalk.i64_in _ ⟨by omega, by omega⟩
  have S0 : Hid (Tb false (w.setCell ⟨b, 138 + y, none⟩ (.int .i64 ((n : Int) + 1))) b (Sp.inT t [] n y) ∧ Frm b w (w.setCell ⟨b, 138 + y, none⟩ (.int .i64 ((n : Int) + 1)))) := Hid.intro ⟨rinT_start h hy, (Frm.refl b w).setCell _ _⟩
  have WS : Hid (Sp.W (Sp.inT t [] n y) n = Sp.W t n) := Hid.intro (Sp.W_same hI.tree (fun _ _ _ => rfl) hn hh)
  have TR : Hid (Sp.Tree (Sp.inT t [] n y) d) := Hid.intro ⟨hI.tree.root, hI.tree.up, hI.tree.le⟩
  clear h hI k hh ho c
  go_enter Try.func69, Try.ntmps69
  go_wp2_with fail
  refine (ris_any b n t _ HF.out).mono ?_
  rintro e w1 ⟨rfl, hw⟩
  subst w1
  rw [HK.out]
  go_wp2_with fail
  refine (rway_any b n (Sp.inT t [] n y) d _ S0.out.1 TR.out hn HH.out.1).mono ?_
  rintro e w2 ⟨v, rfl, hL⟩
  rw [WS.out] at hL
  obtain ⟨gg, cap, hv, hg1, hg2⟩ := hL.own.form (by rw [HI.out.tree.step hn HH.out.1]; simp)
  subst hv
  have S2 : Hid (EL w w2 b gg t (Sp.W t n) n y 0) := Hid.intro ⟨S0.out.1.below hL.bel, S0.out.2.trans (Frm.of_below hL.bel), fun i hi => by
    rw [hL.own.cellAt i (by omega)]
    exact rowOf_at _ _ _ (by rw [List.getD_eq_getElem?_getD, List.getElem?_eq_getElem hi]; rfl), by
    have := S0.out.1.lt; omega⟩
  have HM := Hid.intro (HI.out.tree.mem hn HH.out.1)
  have ND := Hid.intro (HI.out.tree.nodup hn HH.out.1)
  have hl4 : (Sp.W t n).length ≤ 4 := by rw [HI.out.tree.len hn HH.out.1]; exact (HI.out.tree.le n hn HH.out.1).2
  clear hL hg1 hg2 c' cf S0 WS TR
  obtain ⟨L, hL⟩ : ∃ L, Sp.W t n = L := ⟨_, rfl⟩
  have HL := Hid.intro hL
  rw [hL] at S2 HM ND hl4 ⊢
  clear hL
  go_wp2_with fail
  go_loopw [10] (fun i wr => ∃ (k : Nat), i = .int .i64 k ∧ k ≤ L.length ∧ Hid (EL w wr b gg t L n y k)) (fun i _ => L.length - (intOf i).toNat)
  case atStart => exact ⟨0, rfl, by omega, S2⟩
  case round =>
    clear S2
    obtain ⟨k, rfl, hk, S⟩ := hrel
    by_cases hlt : k < L.length
    · have hltI : (k : Int) < (L.length : Int) := by omega
      obtain ⟨m, hm⟩ : ∃ m, L.getD k 0 = m := ⟨_, rfl⟩
      have HMD := Hid.intro hm
      have hmem : m ∈ L := by rw [← hm, List.getD_eq_getElem?_getD, List.getElem?_eq_getElem hlt]; exact List.getElem_mem hlt
      have hm6 : m < 6 := (HM.out m hmem).1
      have hmI : (m : Int) < 6 := by omega
      have LW := Hid.intro (HI.out.low hy HH.out.2 hm6)
      have NM : Hid (m ∉ L.take k) := Hid.intro (fun c => by
        have nd := ND.out
        rw [← List.take_append_drop k L, List.drop_eq_getElem_cons hlt] at nd
        have e : L[k] = m := by rw [← hm, List.getD_eq_getElem?_getD, List.getElem?_eq_getElem hlt]; rfl
        rw [e] at nd
        exact (List.nodup_append.1 nd).2.2 m c m (by simp) rfl)
      have SW : Hid (∀ p, (Sp.inT t (L.take k) n y).who m p = t.who m p) := Hid.intro (fun p => by
        show (if m ∈ L.take k ∧ p = Sp.low t m then y + 1 else t.who m p) = t.who m p
        rw [if_neg (fun c => NM.out c.1)])
      clear hm hmem
      go_wp2_with fail
      go_loopw [11] (fun i wr => ∃ (q : Nat), i = .int .i64 q ∧ 1 ≤ q ∧ q < 21 ∧ Hid (EL w wr b gg t L n y k ∧ q ≤ Sp.low t m)) (fun i _ => 21 - (intOf i).toNat)
      case atStart => exact ⟨1, rfl, by omega, by omega, S.out, LW.out.1⟩
      case round =>
        clear S
        obtain ⟨q, rfl, hq1, hq21, S⟩ := hrel
        have hqI : (q : Int) < 21 := by omega
        have l1 : wr.cell? ⟨gg, k, none⟩ = some (.int .i64 (m : Int)) := by rw [S.out.1.lst k hlt, HMD.out]
        have l2 : wr.cell? ⟨b, m * 23 + 2 + q, none⟩ = some (.int .i64 (t.who m q : Int)) := by rw [S.out.1.tb.whoR m q hm6 hq21, SW.out]
        by_cases e : t.who m q = 0
        · have HQ : Hid (q = Sp.low t m) := Hid.intro (by
            by_cases c : q < Sp.low t m
            · exact absurd e (LW.out.2.2.2 q hq1 c)
            · have := S.out.2; omega)
          rw [e] at l2
          have l2' : wr.cell? ⟨b, m * 23 + 2 + q, none⟩ = some (.int .i64 0) := l2
          clear e l2
          go_wp2_with fail
          go_region
          go_wp2_with fail
          have cf := S.out.1.tb.frozen
          have hwy : IntKind.i64.wrap ((y : Int) + 1) = (y : Int) + 1 := IntWalk.i64_in _ ⟨by omega, by omega⟩
          go_region
          generalize hW2 : World.drew _ = W2
          have S3 : Hid (EL w W2 b gg t L n y (k + 1)) := Hid.intro (by
            rw [← hW2, HQ.out]
            exact (S.out.1.up hlt HMD.out hm6 LW.out.2.1).drew.drew)
          clear hW2 l1 l2' cf
          go_wp2_with fail
          go_roundw
          case rel => exact ⟨k + 1, by go_num, by omega, S3⟩
          case measure => simp [intOf]; omega
        · have HQ : Hid (q < Sp.low t m) := Hid.intro (by
            by_cases c : q < Sp.low t m
            · exact c
            · have c2 : q = Sp.low t m := by have := S.out.2; omega
              rw [c2, LW.out.2.2.1] at e; exact absurd rfl e)
          obtain ⟨u, hu⟩ : ∃ u, t.who m q = u := ⟨_, rfl⟩
          rw [hu] at l2 e
          have hu0 : (0 : Int) < (u : Int) := by omega
          clear e hu
          go_wp2_with fail
          go_region
          go_wp2_with fail
          go_roundw
          case rel => exact ⟨q + 1, by go_num, by omega, by have := HQ.out; have := LW.out.2.1; omega, S.out.1.drew, HQ.out⟩
          case measure => simp [intOf]; omega
    · have hk2 : k = L.length := by omega
      subst hk2
      have S3 : Hid (Tb false wr b (Sp.inT t L n y) ∧ Frm b w wr) := Hid.intro (by have := S.out.tb; rw [List.take_length] at this; exact ⟨this, S.out.frm⟩)
      have h0 : Hid (∀ m, m < 6 → (Sp.inT t L n y).who m 0 = 0) := Hid.intro (fun m hm => by
        show (if m ∈ L ∧ 0 = Sp.low t m then y + 1 else t.who m 0) = 0
        have := (HI.out.low hy HH.out.2 hm).1
        rw [if_neg (fun c => by omega)]; exact HI.out.who0 m hm)
      clear S
      go_wp2_with fail
      refine (rpid_any b y n _ _ S3.out.1 h0.out).mono ?_
      rintro e w3 ⟨rfl, hw3⟩
      subst w3
      go_wp2_with fail
      go_ret2
      rw [HL.out]
      exact ⟨rfl, S3.out⟩

theorem renter_any (b : Nat) (z x : Int) (t : T) (d : Nat → Nat) (w : World) (h : Tb false w b t) (hI : Sp.Inv t d) :
    Calls Try.prog 69 #[.pointer (some ⟨b, 0, none⟩), .int .i64 z, .int .i64 x] w fun e w' => e = .returned (.tuple #[.int .i64 (Sp.entN t z x : Int), .int .i64 (Sp.entE t z x)]) ∧ Tb false w' b (Sp.entT t z x) ∧ Frm b w w' := by
  by_cases k : Sp.pairE t z x = 0
  · obtain ⟨n, y, rfl, rfl, hn, hy, hh⟩ := Sp.pairE_zero k
    have ki := Sp.isE_nat hn hh
    by_cases ho : t.of y = 0
    · have e1 : Sp.entE t n y = 0 := by unfold Sp.entE; rw [if_pos k, Int.toNat_natCast, if_pos ho]
      have e3 : Sp.entT t n y = Sp.inT t (Sp.W t n) n y := by unfold Sp.entT; rw [e1, if_pos rfl, Int.toNat_natCast, Int.toNat_natCast]; rfl
      have e2 : Sp.entN t n y = Sp.pidOf (Sp.inT t (Sp.W t n) n y) n y := by unfold Sp.entN; rw [e1, if_pos rfl, e3, Int.toNat_natCast, Int.toNat_natCast]
      have i2 := hI.enter n y
      rw [e3] at i2
      have hp := i2.pid (n := n) (x := y) hn ⟨Sp.low t n, (hI.low hy ho hn).2.1, by
        show (if n ∈ Sp.W t n ∧ Sp.low t n = Sp.low t n then y + 1 else t.who n (Sp.low t n)) = y + 1
        rw [if_pos ⟨by rw [hI.tree.step hn hh]; simp, rfl⟩]⟩
      have p1 : Sp.pidE (Sp.inT t (Sp.W t n) n y) y n = 0 := by
        unfold Sp.pidE Sp.pairE
        rw [show Sp.isE (Sp.inT t (Sp.W t n) n y) n = 0 from Sp.isE_nat hn hh, if_pos rfl, Sp.procE_nat hy, if_pos rfl, Int.toNat_natCast, Int.toNat_natCast, if_neg hp.1]
      have p2 : Sp.pidN (Sp.inT t (Sp.W t n) n y) y n = Sp.pidOf (Sp.inT t (Sp.W t n) n y) n y := by
        unfold Sp.pidN; rw [p1, if_pos rfl, Int.toNat_natCast, Int.toNat_natCast]
      refine (renter_ok b n y t d w h hI ki hn hh hy ho).mono ?_
      rintro e w' ⟨rfl, h1, h2⟩
      rw [e1, e2, e3, p1, p2]
      exact ⟨rfl, h1, h2⟩
    · have e1 : Sp.entE t n y = 3 := by unfold Sp.entE; rw [if_pos k, Int.toNat_natCast, if_neg ho]
      have e3 : Sp.entT t n y = t := by unfold Sp.entT; rw [e1]; rfl
      have e2 : Sp.entN t n y = 0 := by unfold Sp.entN; rw [e1]; rfl
      refine (renter_exist b n y t w h ki hy ho).mono ?_
      rintro e w' ⟨rfl, rfl⟩
      rw [e1, e2, e3]; exact ⟨rfl, h, Frm.refl _ _⟩
  · have e1 : Sp.entE t z x = Sp.pairE t z x := by unfold Sp.entE; rw [if_neg k]
    have e3 : Sp.entT t z x = t := by unfold Sp.entT; rw [e1, if_neg k]
    have e2 : Sp.entN t z x = 0 := by unfold Sp.entN; rw [e1, if_neg k]
    refine (renter_wrong b z x t w h k).mono ?_
    rintro e w' ⟨rfl, rfl⟩
    rw [e1, e2, e3]; exact ⟨rfl, h, Frm.refl _ _⟩

/-- A table in which the numbers of y are given back, up to the q-th of the k-th space. -/
def cutG (t : T) (y k q : Nat) : T := { t with who := fun a p => if (a < k ∨ (a = k ∧ p < q)) ∧ t.who a p = y + 1 then 0 else t.who a p }
theorem cutG_who (t : T) (y k q : Nat) : (cutG t y k q).who k q = t.who k q := by
  show (if (k < k ∨ (k = k ∧ q < q)) ∧ t.who k q = y + 1 then 0 else t.who k q) = t.who k q
  rw [if_neg (fun c => by omega)]
section
variable {w : World} {b : Nat} {t : T}
theorem cutG_cong {y k q k' q' : Nat} (h : Tb false w b (cutG t y k q)) (e : ∀ a p, a < 6 → p < 21 → t.who a p = y + 1 → ((a < k' ∨ (a = k' ∧ p < q')) ↔ (a < k ∨ (a = k ∧ p < q)))) : Tb false w b (cutG t y k' q') := by
  refine h.congr (cell_sort (fun a ha => by rw [cellT_here false _ a ha, cellT_here false _ a ha]; rfl) (fun a ha => by rw [cellT_par false _ a ha, cellT_par false _ a ha]; rfl) (fun a p ha hp => ?_) (fun z hz => by rw [cellT_of, cellT_of]; rfl))
  rw [cellT_who false _ a p ha hp, cellT_who false _ a p ha hp]
  have : (cutG t y k' q').who a p = (cutG t y k q).who a p := by
    show (if (a < k' ∨ (a = k' ∧ p < q')) ∧ t.who a p = y + 1 then 0 else t.who a p) = (if (a < k ∨ (a = k ∧ p < q)) ∧ t.who a p = y + 1 then 0 else t.who a p)
    by_cases c : t.who a p = y + 1
    · simp only [e a p ha hp c]
    · rw [if_neg (fun k => c k.2), if_neg (fun k => c k.2)]
  rw [this]; rfl
theorem cutG_set {y k q : Nat} (h : Tb false w b (cutG t y k q)) (hk : k < 6) (hq : q < 21) : Tb false (w.setCell ⟨b, k * 23 + 2 + q, none⟩ (.int .i64 0)) b (upW (cutG t y k q) k q 0) := h.setWho k q 0 hk hq
theorem cutG_up {y k q : Nat} (h : Tb false w b (upW (cutG t y k q) k q 0)) (e : t.who k q = y + 1) : Tb false w b (cutG t y k (q + 1)) := by
  refine h.congr (cell_sort (fun a ha => by rw [cellT_here false _ a ha, cellT_here false _ a ha]; rfl) (fun a ha => by rw [cellT_par false _ a ha, cellT_par false _ a ha]; rfl) (fun a p ha hp => ?_) (fun z hz => by rw [cellT_of, cellT_of]; rfl))
  rw [cellT_who false _ a p ha hp, cellT_who false _ a p ha hp]
  have : (cutG t y k (q + 1)).who a p = (upW (cutG t y k q) k q 0).who a p := by
    show (if (a < k ∨ (a = k ∧ p < q + 1)) ∧ t.who a p = y + 1 then 0 else t.who a p) = if a = k ∧ p = q then 0 else (if (a < k ∨ (a = k ∧ p < q)) ∧ t.who a p = y + 1 then 0 else t.who a p)
    by_cases c : a = k ∧ p = q
    · obtain ⟨rfl, rfl⟩ := c
      rw [if_pos ⟨.inr ⟨rfl, by omega⟩, e⟩, if_pos ⟨rfl, rfl⟩]
    · rw [if_neg c]
      have : (a < k ∨ (a = k ∧ p < q + 1)) ↔ (a < k ∨ (a = k ∧ p < q)) := by omega
      simp only [this]
  rw [this]; rfl
end
set_option maxRecDepth 100000 in
set_option maxHeartbeats 400000 in
theorem rleave_wrong (b : Nat) (x : Int) (t : T) (w : World) (h : Tb false w b t) (hs : ∀ x, x < 20 → t.of x ≤ 6) (k : Sp.inE t x ≠ 0) :
    Calls Try.prog 71 #[.pointer (some ⟨b, 0, none⟩), .int .i64 x] w fun e w' => e = .returned (.int .i64 (Sp.inE t x)) ∧ w' = w := by
  have HF := Hid.intro (And.intro h hs)
  have hp : 0 < Sp.inE t x := by
    unfold Sp.inE at k ⊢
    rcases Sp.procE_cases x with c | c
    · rw [if_pos c] at k ⊢
      by_cases o : t.of x.toNat = 0
      · rw [if_pos o]; omega
      · rw [if_neg o] at k; exact absurd rfl k
    · rw [c, if_neg (by decide)]; omega
  obtain ⟨E, hE⟩ : ∃ E, Sp.inE t x = E := ⟨_, rfl⟩
  have HX := Hid.intro hE
  rw [hE] at hp
  clear h k hE hs
  go_enter Try.func71, Try.ntmps71
  go_wp2_with fail
  refine (rin_any b x t _ HF.out.1 HF.out.2).mono ?_
  rintro e w1 ⟨rfl, hw⟩
  subst w1
  rw [HX.out]
  go_wp2
  go_ret
  rw [HX.out]; exact ⟨rfl, rfl⟩
set_option maxRecDepth 100000 in
set_option maxHeartbeats 2000000 in
theorem rleave_ok (b y : Nat) (t : T) (w : World) (h : Tb false w b t) (hs : ∀ x, x < 20 → t.of x ≤ 6) (hw0 : ∀ n, n < 6 → t.who n 0 = 0) (hwl : ∀ n p, n < 6 → p < 21 → t.who n p ≤ 20) (k : Sp.inE t y = 0) (hy : y < 20) :
    Calls Try.prog 71 #[.pointer (some ⟨b, 0, none⟩), .int .i64 y] w fun e w' => e = .returned (.int .i64 0) ∧ Tb false w' b { cutG t y 6 1 with of := Sp.upN t.of y 0 } ∧ Frm b w w' := by
  have HF := Hid.intro (And.intro h hs)
  have HW := Hid.intro (And.intro hw0 hwl)
  have HK := Hid.intro k
  have hyI : (y : Int) < 20 := by omega
  have hwy : IntKind.i64.wrap ((y : Int) + 1) = (y : Int) + 1 := IntWalk.i64_in _ ⟨by omega, by omega⟩
  have S0 : Hid (Tb false w b (cutG t y 0 1) ∧ Frm b w w) := Hid.intro ⟨by
    refine h.congr (cell_sort (fun a ha => by rw [cellT_here false _ a ha, cellT_here false _ a ha]; rfl) (fun a ha => by rw [cellT_par false _ a ha, cellT_par false _ a ha]; rfl) (fun a p ha hp => ?_) (fun z hz => by rw [cellT_of, cellT_of]; rfl))
    rw [cellT_who false _ a p ha hp, cellT_who false _ a p ha hp]
    have : (cutG t y 0 1).who a p = t.who a p := by
      show (if (a < 0 ∨ (a = 0 ∧ p < 1)) ∧ t.who a p = y + 1 then 0 else t.who a p) = t.who a p
      by_cases c : (a < 0 ∨ (a = 0 ∧ p < 1)) ∧ t.who a p = y + 1
      · obtain ⟨c1, c2⟩ := c
        obtain rfl : p = 0 := by omega
        rw [hw0 a ha] at c2; omega
      · rw [if_neg c]
    rw [this]; rfl, Frm.refl b w⟩
  clear h k hs hw0 hwl
  go_enter Try.func71, Try.ntmps71
  go_wp2_with fail
  refine (rin_any b y t _ HF.out.1 HF.out.2).mono ?_
  rintro e w1 ⟨rfl, hw⟩
  subst w1
  rw [HK.out]
  go_wp2_with fail
  go_loopw [7] (fun i wr => ∃ (k : Nat), i = .int .i64 k ∧ k ≤ 6 ∧ Hid (Tb false wr b (cutG t y k 1) ∧ Frm b w wr)) (fun i _ => 6 - (intOf i).toNat)
  case atStart => exact ⟨0, rfl, by omega, S0⟩
  case round =>
    clear S0
    obtain ⟨k, rfl, hk, S⟩ := hrel
    by_cases hlt : k < 6
    · have hltI : (k : Int) < 6 := by omega
      go_wp2_with fail
      go_loopw [8] (fun i wr => ∃ (q : Nat), i = .int .i64 q ∧ 1 ≤ q ∧ q ≤ 21 ∧ Hid (Tb false wr b (cutG t y k q) ∧ Frm b w wr)) (fun i _ => 21 - (intOf i).toNat)
      case atStart => exact ⟨1, rfl, by omega, by omega, S⟩
      case round =>
        clear S
        obtain ⟨q, rfl, hq1, hq21, S⟩ := hrel
        by_cases hq : q < 21
        · have hqI : (q : Int) < 21 := by omega
          have cc : wr.cell? ⟨b, k * 23 + 2 + q, none⟩ = some (.int .i64 (t.who k q : Int)) := by rw [S.out.1.whoR k q hlt hq, cutG_who]
          have cf := S.out.1.frozen
          by_cases e : t.who k q = y + 1
          · have HE := Hid.intro e
            rw [e] at cc
            have cc' : wr.cell? ⟨b, k * 23 + 2 + q, none⟩ = some (.int .i64 ((y : Int) + 1)) := cc
            clear e cc
            go_wp2_with fail
            go_roundw
            case rel => exact ⟨q + 1, by go_num, by omega, by omega, cutG_up (cutG_set S.out.1 hlt hq) HE.out, S.out.2.setCell _ _⟩
            case measure => simp [intOf]; omega
          · have HE := Hid.intro e
            have e' : ((t.who k q : Int) == (y : Int) + 1) = false := by simp; omega
            obtain ⟨u, hu⟩ : ∃ u, t.who k q = u := ⟨_, rfl⟩
            rw [hu] at cc e'
            clear e hu
            go_wp2_with fail
            go_roundw
            case rel => exact ⟨q + 1, by go_num, by omega, by omega, cutG_cong S.out.1 (fun a p ha hp c => by
              by_cases d : a = k ∧ p = q
              · obtain ⟨rfl, rfl⟩ := d
                exact absurd c HE.out
              · omega), S.out.2⟩
            case measure => simp [intOf]; omega
        · have hqI : ¬ (q : Int) < 21 := by omega
          go_wp2_with fail
          go_roundw
          case rel => exact ⟨k + 1, by go_num, by omega, cutG_cong S.out.1 (fun a p ha hp c => by
            by_cases p0 : p = 0
            · subst p0; rw [HW.out.1 a ha] at c; omega
            · omega), S.out.2⟩
          case measure => simp [intOf]; omega
    · have hk6 : k = 6 := by omega
      subst hk6
      have cc := S.out.1.ofR y hy
      have cf := S.out.1.frozen
      have S3 : Hid (Tb false (wr.setCell ⟨b, 138 + y, none⟩ (.int .i64 0)) b { cutG t y 6 1 with of := Sp.upN t.of y 0 } ∧ Frm b w (wr.setCell ⟨b, 138 + y, none⟩ (.int .i64 0))) := Hid.intro ⟨S.out.1.setOf y 0 hy, S.out.2.setCell _ _⟩
      clear S
      go_wp2_with fail
      go_ret
      exact ⟨rfl, S3.out⟩
theorem Sp.Inv.of_le {t : T} {d : Nat → Nat} (h : Sp.Inv t d) (x : Nat) (hx : x < 20) : t.of x ≤ 6 := by
  by_cases e : t.of x = 0
  · omega
  · exact (h.ofs x hx e).1
theorem rleave_any (b : Nat) (x : Int) (t : T) (d : Nat → Nat) (w : World) (h : Tb false w b t) (hI : Sp.Inv t d) :
    Calls Try.prog 71 #[.pointer (some ⟨b, 0, none⟩), .int .i64 x] w fun e w' => e = .returned (.int .i64 (Sp.inE t x)) ∧ Tb false w' b (Sp.leaT t x) ∧ Frm b w w' := by
  by_cases k : Sp.inE t x = 0
  · obtain ⟨y, rfl, hy, ho⟩ := Sp.inE_zero k
    refine (rleave_ok b y t w h hI.of_le hI.who0 hI.wle k hy).mono ?_
    rintro e w' ⟨rfl, h1, h2⟩
    rw [k]
    refine ⟨rfl, ?_, h2⟩
    unfold Sp.leaT
    rw [k, if_pos rfl, Int.toNat_natCast]
    refine h1.congr (cell_sort (fun a ha => by rw [cellT_here false _ a ha, cellT_here false _ a ha]; rfl) (fun a ha => by rw [cellT_par false _ a ha, cellT_par false _ a ha]; rfl) (fun a q ha hq => ?_) (fun z hz => by rw [cellT_of, cellT_of]))
    rw [cellT_who false _ a q ha hq, cellT_who false _ a q ha hq]
    have e : (if a ∈ List.range 6 ∧ t.who a q = y + 1 then 0 else t.who a q) = (if (a < 6 ∨ (a = 6 ∧ q < 1)) ∧ t.who a q = y + 1 then 0 else t.who a q) := by
      have : (a ∈ List.range 6) ↔ (a < 6 ∨ (a = 6 ∧ q < 1)) := by simp; omega
      simp only [this]
    show Value.int .i64 (cw false (t.here a) (if a ∈ List.range 6 ∧ t.who a q = y + 1 then 0 else t.who a q)) = Value.int .i64 (cw false (t.here a) (if (a < 6 ∨ (a = 6 ∧ q < 1)) ∧ t.who a q = y + 1 then 0 else t.who a q))
    rw [e]
  · have e3 : Sp.leaT t x = t := by unfold Sp.leaT; rw [if_neg k]
    refine (rleave_wrong b x t w h hI.of_le k).mono ?_
    rintro e w' ⟨rfl, rfl⟩
    rw [e3]; exact ⟨rfl, h, Frm.refl _ _⟩
end Go.Proofs.Ytgabfkaadflciaa

/- The walk of pay. -/
import Derived.Test.YtgabfkaadflciaaFp
import Derived.Test.YtgabfkaadflciaaSt
namespace Go.Proofs.Ytgabfkaadflciaa
open Go.RowKit
open Hp (Q)
open Fr (Un M)
attribute [local go_sem] max_if

theorem SAt.setRanG {w : World} {b : Nat} {m : M} {qs : Nat → Q} (h : SAt w b m qs) (g n : Nat) (hg : g < 10) : SAt w b (m.set g { m.u g with ran := n }) qs := by
  have e : ∀ v, (m.set g { m.u g with ran := n }).u v = m.u v ∨ (v = g ∧ (m.set g { m.u g with ran := n }).u v = { m.u g with ran := n }) := fun v => by
    by_cases e : v = g
    · subst e; rw [Fr.set_same]; exact .inr ⟨rfl, rfl⟩
    · rw [Fr.set_ne _ _ _ _ e]; exact .inl rfl
  refine ⟨h.blk, h.now, fun v f hv hf => ?_, h.que, fun v f hv hf => ?_, fun k f hk hf => ?_⟩
  · rw [h.unit v f hv hf]
    rcases e v with e | ⟨rfl, e⟩ <;> rw [e] <;> rfl
  · rw [h.grp v f hv hf]
    rcases e v with e | ⟨rfl, e⟩ <;> rw [e] <;> rfl
  · rw [h.task k f hk hf, Fr.set_ne _ _ _ _ (by omega)]

theorem wrap_pay (T wt : Nat) (h : T ≤ 1048576000000) : IntKind.u64.wrap ((T : Int) + 1048576 / (wt : Int)) = ((T + 1048576 / wt : Nat) : Int) := by
  have e : ((T : Int) + 1048576 / (wt : Int)) = ((T + 1048576 / wt : Nat) : Int) := rfl
  have hd : 1048576 / wt ≤ 1048576 := Nat.div_le_self _ _
  rw [e]
  generalize 1048576 / wt = d at *
  exact IntWalk.u64_in _ ⟨by omega, by omega⟩

/-- What the stores of pay leave. -/
theorem payT_task {m : M} {u g : Nat} (hI : InG m u g) (hne : g ≠ u) (h10 : 10 ≤ u) (hq : (m.u u).quota = 0) :
    Fr.payT m u = (m.set g { m.u g with floor := max (m.u g).floor (m.u u).time }).set u { m.u u with time := (m.u u).time + 1048576 / (m.u u).weight } := by
  rw [Fr.payT_eq (by rw [hI.grp]; exact hne)]
  unfold Fr.payF
  rw [hI.grp]
  congr 1
  unfold Fr.payU
  rw [if_neg (by omega), if_neg (by omega)]
theorem payT_group {m : M} {u g : Nat} (hI : InG m u g) (hne : g ≠ u) (h10 : u < 10) :
    Fr.payT m u = (m.set g { m.u g with floor := max (m.u g).floor (m.u u).time }).set u { m.u u with time := (m.u u).time + 1048576 / (m.u u).weight, used := if 0 < (m.u u).quota then (m.u u).used + 1 else (m.u u).used, ran := (m.u u).ran + 1 } := by
  rw [Fr.payT_eq (by rw [hI.grp]; exact hne)]
  unfold Fr.payF
  rw [hI.grp]
  congr 1
  unfold Fr.payU
  rw [if_pos h10]

/-- Cut out behind the stores, and lined up anew. -/
theorem Cpl.pay {m m4 : M} {qs' : Nat → Q} {u : Nat} (h : Cpl (Fr.setWas m u false) qs') (hm : m4 = Fr.payT m u) : Cpl (Fr.setWas m4 u false) qs' := by
  subst hm
  have e : ∀ v, v ≠ u → (Fr.setWas (Fr.payT m u) u false).u v = (Fr.payF m u).u v := fun v hv => by
    unfold Fr.setWas Fr.payT; rw [Fr.set_ne _ _ _ _ hv, Fr.set_ne _ _ _ _ hv]
  have e' : ∀ v, v ≠ u → (Fr.setWas m u false).u v = m.u v := fun v hv => by unfold Fr.setWas; rw [Fr.set_ne _ _ _ _ hv]
  refine h.turn (fun g v _ _ => ?_) (fun g v _ _ hk => ?_)
  · by_cases hv : v = u
    · subst hv
      unfold Fr.kidB Fr.setWas
      rw [Fr.set_same, Fr.set_same]
      simp
    · unfold Fr.kidB
      rw [e v hv, e' v hv, Fr.payF_here, Fr.payF_inn, (Fr.payF_tw m u v).2.1]
  · have hv : v ≠ u := fun hv => by
      subst hv
      have := (Fr.kidB_iff.1 hk).2.2.2
      unfold Fr.setWas at this; rw [Fr.set_same] at this; cases this
    rw [e v hv, e' v hv, (Fr.payF_tw m u v).1]

theorem InG.payT {m : M} {u g : Nat} (h : InG m u g) (hg : Fr.grp m u ≠ u) : InG (Fr.setWas (Fr.payT m u) u false) u g := by
  have e : (Fr.setWas (Fr.payT m u) u false).u u = { Fr.payU u (m.u u) with was := false } := by
    unfold Fr.setWas; rw [Fr.set_same, Fr.payT_u hg]
  exact ⟨h.pos, h.lt, by rw [e]; exact h.here, h.glt, by rw [e]; exact h.inn⟩

set_option maxRecDepth 100000 in
set_option maxHeartbeats 2000000 in
theorem pay_task (b u g : Nat) (m : M) (w : World) (h : Fair w b m) (hI : Fr.Inv m) (hG : InG m u g) (h10 : 10 ≤ u) (hw : (m.u u).was = true) (hn : m.now ≤ 1000000) :
    Calls Try.prog 157 #[.pointer (some ⟨b, 0, none⟩), .int .i64 u] w fun e w' => e = .returned (.tuple #[]) ∧ Fair w' b (Fr.payC m u) ∧ Frm b w w' := by
  obtain ⟨qs, hS, hC⟩ := h
  have hgrp : Fr.grp m u = g := hG.grp
  have hgne : g ≠ u := by have := (hI.grp hG.pos hG.lt hG.here).2.2.2; rw [hgrp] at this; exact this
  have hfl := hI.fl u hG.pos hG.lt hG.here hw
  have hq : (m.u u).quota = 0 := by
    refine Nat.eq_zero_of_not_pos fun k => ?_
    have := hI.quo u hG.lt k; omega
  have hwt := hI.wt u hG.pos hG.lt hG.here
  have htm := hI.tm u hG.lt
  have c1 := hS.cIn u hG.lt
  rw [hG.inn] at c1
  have l1 : (u : Int) < 30 := by have := hG.lt; omega
  have l2 : (g : Int) < 10 := by have := hG.glt; omega
  have HE : Hid (Fr.line (Fr.setWas (Fr.payT m u) u false) u = Fr.payC m u) := Fr.line_pay (by rw [hgrp]; exact hgne) hfl
  have HT : Hid (Fr.payT m u = (m.set g { m.u g with floor := max (m.u g).floor (m.u u).time }).set u { m.u u with time := (m.u u).time + 1048576 / (m.u u).weight }) := payT_task hG hgne h10 hq
  have HN : Hid (Fr.grp m u ≠ u) := Hid.intro (by rw [hgrp]; exact hgne)
  have HW : Hid ((m.u u).was = true) := hw
  have HI : Hid (Fr.Inv m) := hI
  have HG : Hid (InG m u g) := hG
  have HC : Hid (Cpl m qs) := hC
  have HS : Hid (SAt w b m qs) := hS
  have hgne' : Hid (g ≠ u) := hgne
  have h10' : ¬ (u : Int) < 10 := by omega
  clear hS hC hG hI hw hq hfl hgrp hgne
  obtain ⟨T, hT⟩ : ∃ T, (m.u u).time = T := ⟨_, rfl⟩
  obtain ⟨L, hL⟩ : ∃ L, (m.u g).floor = L := ⟨_, rfl⟩
  obtain ⟨wt, hWt⟩ : ∃ x, (m.u u).weight = x := ⟨_, rfl⟩
  rw [hT, hL, hWt] at HT
  rw [hWt] at hwt
  rw [hT] at htm
  have htb : T ≤ 1048576000000 := by have := htm.1; omega
  have HTL : Hid ((m.u u).time = T ∧ (m.u g).floor = L ∧ (m.u u).weight = wt) := Hid.intro ⟨hT, hL, hWt⟩
  clear hT hL hWt htm
  go_enter Try.func157, Try.ntmps157
  go_wp2
  go_quiet (fail)
  go_wp2_with fail
  refine wp_gen (fun W => SAt W b m qs ∧ Frm b w W) ⟨HS.out.drewN _, (Frm.refl b w).drewN _⟩ ?_
  clear HS c1
  rintro W ⟨hS, hF⟩
  have c2 : W.cell? ⟨b, 1 + u * 4 + 3, none⟩ = some (.int .u64 (T : Int)) := by rw [← HTL.out.1]; exact hS.cTime u HG.out.lt
  have c3 : W.cell? ⟨b, 121 + g * 198 + 193, none⟩ = some (.int .u64 (L : Int)) := by rw [← HTL.out.2.1]; exact hS.cFloor g HG.out.glt
  have cf := hS.frozen
  have HS : Hid (SAt W b m qs) := hS
  have HF : Hid (Frm b w W) := hF
  clear hS hF
  go_region
  go_wp2_with fail
  refine wp_gen (fun W => SAt W b (m.set g { m.u g with floor := max L T }) qs ∧ Frm b w W) ⟨(HS.out.setFloor g (max L T) HG.out.glt).drew, (HF.out.setCell _ _).drew⟩ ?_
  clear HS HF c2 c3 cf
  clear W
  rintro W ⟨hS, hF⟩
  have e1 : (m.set g { m.u g with floor := max L T }).u u = m.u u := Fr.set_ne _ _ _ _ (Ne.symm hgne'.out)
  have c2 : W.cell? ⟨b, 1 + u * 4 + 3, none⟩ = some (.int .u64 (T : Int)) := by rw [← HTL.out.1, ← e1]; exact hS.cTime u HG.out.lt
  have c3 : W.cell? ⟨b, 1 + u * 4 + 2, none⟩ = some (.int .u64 (wt : Int)) := by rw [← HTL.out.2.2, ← e1]; exact hS.cWeight u HG.out.pos HG.out.lt
  have cf := hS.frozen
  have HS : Hid (SAt W b (m.set g { m.u g with floor := max L T }) qs) := hS
  have HF : Hid (Frm b w W) := hF
  have HE1 : Hid ((m.set g { m.u g with floor := max L T }).u u = m.u u) := e1
  have z1 : ((wt : Int) == 0) = false := by simp; omega
  clear hS hF e1
  go_region
  go_wp2_with fail
  have HS2 : Hid (SAt (W.setCell ⟨b, 1 + u * 4 + 3, none⟩ (.int .u64 (IntKind.u64.wrap ((T : Int) + 1048576 / (wt : Int))))).drew b (Fr.payT m u) qs) := Hid.intro (by
    rw [wrap_pay T wt htb, HT.out]
    have := (HS.out.setTime u (T + 1048576 / wt) HG.out.lt).drew
    rw [HE1.out] at this
    exact this)
  refine (cut_has b (121 + g * 198) u (qs g) _ ⟨HS2.out.at_ g HG.out.glt, (HC.out.ok g HG.out.glt).1, (HC.out.ok g HG.out.glt).2⟩ (by omega) (place_yes HC.out HG.out HW.out)).mono ?_
  rintro e w2 ⟨rfl, o2, q2, g2, m2, k2, h2⟩
  have HF2 : Hid (Fair w2 b (Fr.setWas (Fr.payT m u) u false)) := Hid.intro
    ⟨_, (HS2.out.queue HG.out.glt o2 g2.at_).setWas u false, (HC.out.cut HG.out.pos HG.out.glt HG.out.here HG.out.inn ⟨g2.ok, g2.full⟩ k2 h2).pay rfl⟩
  have HR2 : Hid (Frm b w w2) := Hid.intro ((HF.out.setCell _ _).drew.trans o2.frm)
  clear o2 g2 m2 k2 h2 HS2 c2 c3 cf HS HF
  go_wp2_with fail
  refine (line_any b u g _ _ HF2.out (HG.out.payT HN.out)).mono ?_
  rintro e w3 ⟨rfl, f3, r3⟩
  have FIN : Hid (Fair w3 b (Fr.payC m u) ∧ Frm b w w3) := Hid.intro ⟨by rw [← HE.out]; exact f3, HR2.out.trans r3⟩
  clear f3 r3
  go_wp2_with fail
  go_end0
  exact ⟨rfl, FIN.out⟩

set_option maxRecDepth 100000 in
set_option maxHeartbeats 2000000 in
theorem pay_group (b u g : Nat) (m : M) (w : World) (h : Fair w b m) (hI : Fr.Inv m) (hG : InG m u g) (h10 : u < 10) (hw : (m.u u).was = true) (hn : m.now ≤ 1000000) :
    Calls Try.prog 157 #[.pointer (some ⟨b, 0, none⟩), .int .i64 u] w fun e w' => e = .returned (.tuple #[]) ∧ Fair w' b (Fr.payC m u) ∧ Frm b w w' := by
  obtain ⟨qs, hS, hC⟩ := h
  have hgrp : Fr.grp m u = g := hG.grp
  have hgne : g ≠ u := by have := (hI.grp hG.pos hG.lt hG.here).2.2.2; rw [hgrp] at this; exact this
  have hfl := hI.fl u hG.pos hG.lt hG.here hw
  have hwt := hI.wt u hG.pos hG.lt hG.here
  have htm := hI.tm u hG.lt
  have c1 := hS.cIn u hG.lt
  rw [hG.inn] at c1
  have l1 : (u : Int) < 30 := by have := hG.lt; omega
  have l2 : (g : Int) < 10 := by have := hG.glt; omega
  have HE : Hid (Fr.line (Fr.setWas (Fr.payT m u) u false) u = Fr.payC m u) := Fr.line_pay (by rw [hgrp]; exact hgne) hfl
  have HT : Hid (Fr.payT m u = (m.set g { m.u g with floor := max (m.u g).floor (m.u u).time }).set u { m.u u with time := (m.u u).time + 1048576 / (m.u u).weight, used := if 0 < (m.u u).quota then (m.u u).used + 1 else (m.u u).used, ran := (m.u u).ran + 1 }) := payT_group hG hgne h10
  have HN : Hid (Fr.grp m u ≠ u) := Hid.intro (by rw [hgrp]; exact hgne)
  have HW : Hid ((m.u u).was = true) := hw
  have HI : Hid (Fr.Inv m) := hI
  have HG : Hid (InG m u g) := hG
  have HC : Hid (Cpl m qs) := hC
  have HS : Hid (SAt w b m qs) := hS
  have hgne' : Hid (g ≠ u) := hgne
  have h10' : (u : Int) < 10 := by omega
  clear hS hC hG hI hw hfl hgrp hgne
  obtain ⟨T, hT⟩ : ∃ T, (m.u u).time = T := ⟨_, rfl⟩
  obtain ⟨L, hL⟩ : ∃ L, (m.u g).floor = L := ⟨_, rfl⟩
  obtain ⟨wt, hWt⟩ : ∃ x, (m.u u).weight = x := ⟨_, rfl⟩
  rw [hT, hL, hWt] at HT
  rw [hWt] at hwt
  rw [hT] at htm
  obtain ⟨qu, hQu⟩ : ∃ x, (m.u u).quota = x := ⟨_, rfl⟩
  obtain ⟨us, hUs⟩ : ∃ x, (m.u u).used = x := ⟨_, rfl⟩
  rw [hUs] at htm
  have hub : us ≤ 1000000 := by have := htm.2.2.1; omega
  have htb : T ≤ 1048576000000 := by have := htm.1; omega
  have HTL : Hid ((m.u u).time = T ∧ (m.u g).floor = L ∧ (m.u u).weight = wt ∧ (m.u u).quota = qu ∧ (m.u u).used = us) := Hid.intro ⟨hT, hL, hWt, hQu, hUs⟩
  clear hT hL hWt htm hQu hUs
  go_enter Try.func157, Try.ntmps157
  go_wp2
  go_quiet (fail)
  go_wp2_with fail
  refine wp_gen (fun W => SAt W b m qs ∧ Frm b w W) ⟨HS.out.drewN _, (Frm.refl b w).drewN _⟩ ?_
  clear HS c1
  rintro W ⟨hS, hF⟩
  have c2 : W.cell? ⟨b, 1 + u * 4 + 3, none⟩ = some (.int .u64 (T : Int)) := by rw [← HTL.out.1]; exact hS.cTime u HG.out.lt
  have c3 : W.cell? ⟨b, 121 + g * 198 + 193, none⟩ = some (.int .u64 (L : Int)) := by rw [← HTL.out.2.1]; exact hS.cFloor g HG.out.glt
  have cf := hS.frozen
  have HS : Hid (SAt W b m qs) := hS
  have HF : Hid (Frm b w W) := hF
  clear hS hF
  go_region
  go_wp2_with fail
  refine wp_gen (fun W => SAt W b (m.set g { m.u g with floor := max L T }) qs ∧ Frm b w W) ⟨(HS.out.setFloor g (max L T) HG.out.glt).drew, (HF.out.setCell _ _).drew⟩ ?_
  clear HS HF c2 c3 cf
  clear W
  rintro W ⟨hS, hF⟩
  have e1 : (m.set g { m.u g with floor := max L T }).u u = m.u u := Fr.set_ne _ _ _ _ (Ne.symm hgne'.out)
  have c2 : W.cell? ⟨b, 1 + u * 4 + 3, none⟩ = some (.int .u64 (T : Int)) := by rw [← HTL.out.1, ← e1]; exact hS.cTime u HG.out.lt
  have c3 : W.cell? ⟨b, 1 + u * 4 + 2, none⟩ = some (.int .u64 (wt : Int)) := by rw [← HTL.out.2.2.1, ← e1]; exact hS.cWeight u HG.out.pos HG.out.lt
  have cf := hS.frozen
  have HS : Hid (SAt W b (m.set g { m.u g with floor := max L T }) qs) := hS
  have HF : Hid (Frm b w W) := hF
  have HE1 : Hid ((m.set g { m.u g with floor := max L T }).u u = m.u u) := e1
  have z1 : ((wt : Int) == 0) = false := by simp; omega
  have c4 : W.cell? ⟨b, 121 + u * 198 + 195, none⟩ = some (.int .i64 (qu : Int)) := by rw [← HTL.out.2.2.2.1, ← e1]; exact hS.cQuota u h10
  have c5 : W.cell? ⟨b, 121 + u * 198 + 197, none⟩ = some (.int .i64 (us : Int)) := by rw [← HTL.out.2.2.2.2, ← e1]; exact hS.cUsed u h10
  clear hS hF e1
  by_cases hq : 0 < qu
  · have q1 : (0 : Int) < (qu : Int) := by omega
    go_region
    go_wp2_with fail
    go_region
    go_wp2_with fail
    have HS2 : Hid (SAt ((W.setCell ⟨b, 1 + u * 4 + 3, none⟩ (.int .u64 (IntKind.u64.wrap ((T : Int) + 1048576 / (wt : Int))))).setCell ⟨b, 121 + u * 198 + 197, none⟩ (.int .i64 ((us : Int) + 1))).drew.drew b (Fr.payT m u) qs) := Hid.intro (by
      rw [wrap_pay T wt htb, HT.out]
      have := ((((HS.out.setTime u (T + 1048576 / wt) HG.out.lt).setUsed u (us + 1) h10).setRanG u ((m.u u).ran + 1) h10).drew).drew
      rw [HE1.out] at this
      simp only [Fr.set_same, Fr.set_set] at this
      rw [if_pos (show 0 < (m.u u).quota by rw [HTL.out.2.2.2.1]; exact hq), HTL.out.2.2.2.2]
      exact this)
    refine (cut_has b (121 + g * 198) u (qs g) _ ⟨HS2.out.at_ g HG.out.glt, (HC.out.ok g HG.out.glt).1, (HC.out.ok g HG.out.glt).2⟩ (by omega) (place_yes HC.out HG.out HW.out)).mono ?_
    rintro e w2 ⟨rfl, o2, q2, g2, m2, k2, h2⟩
    have HF2 : Hid (Fair w2 b (Fr.setWas (Fr.payT m u) u false)) := Hid.intro
      ⟨_, (HS2.out.queue HG.out.glt o2 g2.at_).setWas u false, (HC.out.cut HG.out.pos HG.out.glt HG.out.here HG.out.inn ⟨g2.ok, g2.full⟩ k2 h2).pay rfl⟩
    have HR2 : Hid (Frm b w w2) := Hid.intro (((HF.out.setCell _ _).setCell _ _).drew.drew.trans o2.frm)
    clear o2 g2 m2 k2 h2 HS2 c2 c3 cf HS HF c4 c5
    go_wp2_with fail
    refine (line_any b u g _ _ HF2.out (HG.out.payT HN.out)).mono ?_
    rintro e w3 ⟨rfl, f3, r3⟩
    have FIN : Hid (Fair w3 b (Fr.payC m u) ∧ Frm b w w3) := Hid.intro ⟨by rw [← HE.out]; exact f3, HR2.out.trans r3⟩
    clear f3 r3
    go_wp2_with fail
    go_end0
    exact ⟨rfl, FIN.out⟩
  · have q1 : ¬ (0 : Int) < (qu : Int) := by omega
    go_region
    go_wp2_with fail
    have HS2 : Hid (SAt (W.setCell ⟨b, 1 + u * 4 + 3, none⟩ (.int .u64 (IntKind.u64.wrap ((T : Int) + 1048576 / (wt : Int))))).drew b (Fr.payT m u) qs) := Hid.intro (by
      rw [wrap_pay T wt htb, HT.out]
      have := ((HS.out.setTime u (T + 1048576 / wt) HG.out.lt).setRanG u ((m.u u).ran + 1) h10).drew
      rw [HE1.out] at this
      simp only [Fr.set_same, Fr.set_set] at this
      rw [if_neg (show ¬ 0 < (m.u u).quota by rw [HTL.out.2.2.2.1]; exact hq)]
      exact this)
    refine (cut_has b (121 + g * 198) u (qs g) _ ⟨HS2.out.at_ g HG.out.glt, (HC.out.ok g HG.out.glt).1, (HC.out.ok g HG.out.glt).2⟩ (by omega) (place_yes HC.out HG.out HW.out)).mono ?_
    rintro e w2 ⟨rfl, o2, q2, g2, m2, k2, h2⟩
    have HF2 : Hid (Fair w2 b (Fr.setWas (Fr.payT m u) u false)) := Hid.intro
      ⟨_, (HS2.out.queue HG.out.glt o2 g2.at_).setWas u false, (HC.out.cut HG.out.pos HG.out.glt HG.out.here HG.out.inn ⟨g2.ok, g2.full⟩ k2 h2).pay rfl⟩
    have HR2 : Hid (Frm b w w2) := Hid.intro ((HF.out.setCell _ _).drew.trans o2.frm)
    clear o2 g2 m2 k2 h2 HS2 c2 c3 cf HS HF c4 c5
    go_wp2_with fail
    refine (line_any b u g _ _ HF2.out (HG.out.payT HN.out)).mono ?_
    rintro e w3 ⟨rfl, f3, r3⟩
    have FIN : Hid (Fair w3 b (Fr.payC m u) ∧ Frm b w w3) := Hid.intro ⟨by rw [← HE.out]; exact f3, HR2.out.trans r3⟩
    clear f3 r3
    go_wp2_with fail
    go_end0
    exact ⟨rfl, FIN.out⟩

theorem pay_any (b u g : Nat) (m : M) (w : World) (h : Fair w b m) (hI : Fr.Inv m) (hG : InG m u g) (hw : (m.u u).was = true) (hn : m.now ≤ 1000000) :
    Calls Try.prog 157 #[.pointer (some ⟨b, 0, none⟩), .int .i64 u] w fun e w' => e = .returned (.tuple #[]) ∧ Fair w' b (Fr.payC m u) ∧ Frm b w w' := by
  by_cases k : 10 ≤ u
  · exact pay_task b u g m w h hI hG k hw hn
  · exact pay_group b u g m w h hI hG (by omega) hw hn

end Go.Proofs.Ytgabfkaadflciaa

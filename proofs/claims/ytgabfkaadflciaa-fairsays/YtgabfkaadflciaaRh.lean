/- The document's own sched: MoveTask. -/
import Derived.Test.YtgabfkaadflciaaRg
namespace Go.Proofs.Ytgabfkaadflciaa
open Go.RowKit
open Fr (Un M)

theorem Fr.moved_inv {m m1 : M} (h : Fr.Inv m) (hS : Fr.Sync m) {n G : Nat} (hn : n < 20) (hh : (m.u (10 + n)).here = true) (hG : G < 10) (hGh : (m.u G).here = true) (k : Fr.Look (m.set (10 + n) { m.u (10 + n) with awake := false }) (10 + n) m1) :
    Fr.Inv (m1.set (10 + n) (Fr.moved (m.u (10 + n)) G)) ∧ Fr.Sync (m1.set (10 + n) (Fr.moved (m.u (10 + n)) G)) := by
  have a := Fr.asleep h hS hn hh k
  have wt := h.wt (10 + n) (by omega) (by omega) hh
  refine ⟨a.1.add (wt := (m.u (10 + n)).weight) (g := G) (by omega) (by omega) (.inr (by omega)) hG (by rw [a.2.2.2.2.2.2.2.2]; exact hGh) wt _ rfl (by rw [a.2.2.1]; exact (h.tm (10 + n) (by omega)).2.2.2), ?_⟩
  exact a.2.1.lay a.2.2.2.2.1 rfl (fun _ => by unfold Fr.ready; rw [if_pos (by omega), Fr.set_same]; rfl)

set_option maxRecDepth 100000 in
set_option maxHeartbeats 1000000 in
theorem rmoveTask_any (b : Nat) (z zg : Int) (m : M) (w : World) (h : RAt w b m) (hI : Fr.Inv m) (hS : Fr.Sync m) :
    Calls Try.prog 110 #[.pointer (some ⟨b, 0, none⟩), .int .i64 z, .int .i64 zg] w fun e w' => e = .returned (.int .i64 (Fr.moveE m z zg)) ∧ ∃ m', Fr.MoveTo m z zg m' ∧ RAt w' b m' ∧ Frm b w w' := by
  have HF := Hid.intro h
  have HI := Hid.intro hI
  have HS := Hid.intro hS
  have NO : Hid (∀ E, Fr.moveE m z zg = E → E ≠ 0 → ∃ m', Fr.MoveTo m z zg m' ∧ RAt w b m' ∧ Frm b w w) := Hid.intro (fun E e h0 => ⟨m, .inr ⟨by rw [e]; exact h0, rfl⟩, HF.out, Frm.refl b w⟩)
  clear h hI hS
  rcases taskE_cases m z with k | k
  · have HK := Hid.intro k
    rcases groupE_cases m zg with kg | kg
    · have HKG := Hid.intro kg
      have HE : Hid (Fr.moveE m z zg = 0) := Hid.intro (by unfold Fr.moveE; rw [if_pos k, kg])
      obtain ⟨n, rfl, hn, hh⟩ := Fr.taskE_zero k
      obtain ⟨G, rfl, hG, hGh⟩ := Fr.groupE_zero kg
      have HH := Hid.intro hh
      have HGH := Hid.intro hGh
      have hnI : (n : Int) < 20 := by omega
      obtain ⟨c0, c1, c2, c3, c4, c5, c6, c7, c8, c9, ca, cb⟩ := HF.out.cells (10 + n) (by omega)
      have hl := HF.out.lt
      obtain ⟨x, hx⟩ : ∃ x, m.u (10 + n) = x := ⟨_, rfl⟩
      have HX := Hid.intro hx
      rw [hx] at c0 c1 c2 c3 c4 c5 c6 c7 c8 c9 ca cb
      clear k kg hh hGh hx
      go_enter Try.func110, Try.ntmps110
      go_wp2_with fail
      refine (rtask_any b n m _ HF.out).mono ?_
      rintro e w1 ⟨rfl, hw⟩
      subst w1
      rw [HK.out]
      go_wp2_with fail
      refine (rgroup_any b G m _ HF.out).mono ?_
      rintro e w1 ⟨rfl, hw⟩
      subst w1
      rw [HKG.out]
      go_wp2_with fail
      refine (rwake_any b n false m _ (HF.out.below ((Below.refl _ _).alloc (Nat.le_refl _) _)) HI.out).mono ?_
      rintro e w1 ⟨rfl, m1, k1, f1, r1⟩
      rw [HK.out]
      have K1 : Hid (Fr.Look (m.set (10 + n) { m.u (10 + n) with awake := false }) (10 + n) m1) := Hid.intro (by
        rcases k1 with ⟨_, k1⟩ | ⟨k1, _⟩
        · exact k1
        · exact absurd HK.out k1)
      have A1 := Hid.intro f1
      have R1 : Hid (Frm b w w1) := Hid.intro ((Frm.of_below ((Below.refl _ _).alloc (Nat.le_refl _) _)).trans r1)
      have B1 := (r1.block w.heap.size (by simp) (by omega)).trans (heap_alloc_new w _)
      have t1 : w1.cell? ⟨w.heap.size, 1, none⟩ = some (.bool x.awake) := (cell_blk B1 1).trans rfl
      have t5 : w1.cell? ⟨w.heap.size, 5, none⟩ = some (.int .i64 (x.weight : Int)) := (cell_blk B1 5).trans rfl
      have t6 : w1.cell? ⟨w.heap.size, 6, none⟩ = some (.int .i64 (x.ran : Int)) := (cell_blk B1 6).trans rfl
      have LT1 : Hid (w.heap.size < w1.heap.size) := Hid.intro (Array.getElem?_eq_some_iff.1 B1).1
      have nb' : Hid (b ≠ w.heap.size) := Hid.intro (by omega)
      clear c0 c1 c2 c3 c4 c5 c6 c7 c8 c9 ca cb k1 r1 B1 hl
      obtain ⟨c0, c1, c2, c3, c4, c5, c6, c7, c8, c9, ca, cb⟩ := f1.cells (10 + n) (by omega)
      have cf := f1.frozen
      have MI : Hid (Fr.Inv (m1.set (10 + n) (Fr.moved x G))) := Hid.intro (by rw [← HX.out]; exact (Fr.moved_inv HI.out HS.out hn HH.out hG HGH.out K1.out).1)
      have TE : Hid (Fr.taskE (m1.set (10 + n) (Fr.moved x G)) n = 0) := Hid.intro (Fr.taskE_nat hn (by rw [Fr.set_same]; rfl))
      clear f1
      generalize w.heap.size = nb at *
      go_wp2_with fail
      go_region
      generalize hW2 : World.drew _ = W2
      have a2 : RAt W2 b (m1.set (10 + n) (Fr.moved x G)) := by rw [← hW2]; exact (A1.out.put (10 + n) (Fr.moved x G) (by omega)).drew
      have r1' : Frm b w1 W2 := by rw [← hW2]; exact ((Frm.refl b w1).set12 _ _ _ _ _ _ _ _ _ _ _ _ _ _ _ _ _ _ _ _ _ _ _ _).drew
      have r2 : Frm b w W2 := R1.out.trans r1'
      have t2 : W2.cell? ⟨nb, 1, none⟩ = some (.bool x.awake) := (World.cell?_of_block (r1'.block nb LT1.out (fun e => nb'.out e.symm))).trans t1
      clear c0 c1 c2 c3 c4 c5 c6 c7 c8 c9 ca cb cf t1 t5 t6 hW2 r1'
      have A2 := Hid.intro a2
      have R2 := Hid.intro r2
      clear a2 r2
      go_wp2_with fail
      refine (rwake_any b n x.awake _ _ A2.out MI.out).mono ?_
      rintro e w3 ⟨rfl, m3, k3, f3, r3⟩
      rw [TE.out]
      have FIN : Hid (∃ m', Fr.MoveTo m n G m' ∧ RAt w3 b m' ∧ Frm b w w3) := Hid.intro ⟨m3, .inl ⟨HE.out, m1, K1.out, by rw [Int.toNat_natCast, HX.out]; exact k3⟩, f3, R2.out.trans r3⟩
      clear k3 f3 r3
      go_wp2_with fail
      go_ret
      rw [HE.out]; exact ⟨rfl, FIN.out⟩
    · obtain ⟨E, hE⟩ : ∃ E, Fr.groupE m zg = E := ⟨_, rfl⟩
      have HG := Hid.intro hE
      rw [hE] at kg
      have HE : Hid (Fr.moveE m z zg = E) := Hid.intro (by unfold Fr.moveE; rw [if_pos k, hE])
      clear hE k
      go_enter Try.func110, Try.ntmps110
      go_wp2_with fail
      refine (rtask_any b z m _ HF.out).mono ?_
      rintro e w1 ⟨rfl, hw⟩
      subst w1
      rw [HK.out]
      go_wp2_with fail
      refine (rgroup_any b zg m _ HF.out).mono ?_
      rintro e w1 ⟨rfl, hw⟩
      subst w1
      rw [HG.out]
      go_wp2
      go_ret
      have := NO.out E HE.out (by omega)
      exact ⟨by rw [HE.out]; rfl, this⟩
  · obtain ⟨E, hE⟩ : ∃ E, Fr.taskE m z = E := ⟨_, rfl⟩
    have HG := Hid.intro hE
    rw [hE] at k
    have HE : Hid (Fr.moveE m z zg = E) := Hid.intro (by unfold Fr.moveE; rw [hE, if_neg (by omega)])
    clear hE
    go_enter Try.func110, Try.ntmps110
    go_wp2_with fail
    refine (rtask_any b z m _ HF.out).mono ?_
    rintro e w1 ⟨rfl, hw⟩
    subst w1
    rw [HG.out]
    go_wp2
    go_ret
    have := NO.out E HE.out (by omega)
    exact ⟨by rw [HE.out]; rfl, this⟩

end Go.Proofs.Ytgabfkaadflciaa

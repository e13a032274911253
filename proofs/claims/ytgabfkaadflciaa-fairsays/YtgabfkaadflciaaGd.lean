/- The walk of DropGroup. -/
import Derived.Test.YtgabfkaadflciaaGc
import Derived.Deep.MidRow
namespace Go.Proofs.Ytgabfkaadflciaa
open Go.RowKit
open Hp (Q)
open Fr (Un M)

set_option maxRecDepth 100000 in
set_option maxHeartbeats 2000000 in
theorem dropGroup_wrong (b : Nat) (z : Int) (m : M) (w : World) (h : Fair w b m) (k : Fr.groupE m z ≠ 0) :
    Calls Try.prog 105 #[.pointer (some ⟨b, 0, none⟩), .int .i64 z] w fun e w' => e = .returned (errV (Fr.groupE m z)) ∧ w' = w := by
  have HF := Hid.intro h
  obtain ⟨E, hE⟩ : ∃ E, Fr.groupE m z = E := ⟨_, rfl⟩
  have HG := Hid.intro hE
  rw [hE] at k ⊢
  clear hE h
  go_enter Try.func105, Try.ntmps105
  go_wp2_with fail
  refine (wrongGroup_any b z m _ HF.out).mono ?_
  rintro e w1 ⟨rfl, hw⟩
  subst w1
  rw [HG.out, errV_ne k]
  go_wp2
  go_ret
  exact ⟨by rw [errV_ne k]; rfl, rfl⟩

set_option maxRecDepth 100000 in
set_option maxHeartbeats 2000000 in
theorem dropGroup_root (b : Nat) (m : M) (w : World) (h : Fair w b m) (k : Fr.groupE m 0 = 0) :
    Calls Try.prog 105 #[.pointer (some ⟨b, 0, none⟩), .int .i64 0] w fun e w' => e = .returned (errV 5) ∧ w' = w := by
  have HF := Hid.intro h
  have HK := Hid.intro k
  clear h k
  go_enter Try.func105, Try.ntmps105
  go_wp2_with fail
  refine (wrongGroup_any b 0 m _ HF.out).mono ?_
  rintro e w1 ⟨rfl, hw⟩
  subst w1
  rw [HK.out, errV_zero]
  go_wp2
  go_ret
  exact ⟨rfl, rfl⟩

set_option maxRecDepth 100000 in
set_option maxHeartbeats 2000000 in
theorem dropGroup_busy (b g : Nat) (m : M) (w : World) (h : Fair w b m) (g0 : g ≠ 0) (k : Fr.groupE m g = 0) (hu : Fr.hasUnit m g = true) :
    Calls Try.prog 105 #[.pointer (some ⟨b, 0, none⟩), .int .i64 g] w fun e w' => e = .returned (errV 5) ∧ Below w.heap.size w w' := by
  have HF := Hid.intro h
  have HK := Hid.intro k
  have HU := Hid.intro hu
  have gz : ((g : Int) == 0) = false := by simp; omega
  clear h k hu
  go_enter Try.func105, Try.ntmps105
  go_wp2_with fail
  refine (wrongGroup_any b g m _ HF.out).mono ?_
  rintro e w1 ⟨rfl, hw⟩
  subst w1
  rw [HK.out, errV_zero]
  go_wp2_with fail
  refine (holds_any b g m _ HF.out).mono ?_
  rintro e w1 ⟨rfl, hb1⟩
  have B1 := Hid.intro hb1
  rw [HU.out]
  clear hb1
  go_wp2
  go_ret
  exact ⟨rfl, B1.out⟩


/-- The cells of a group without anything. -/
def gzF (i : Nat) : Value := if i < 193 then (if i < 129 then .int .i64 0 else .int .u64 0) else grpC Un.no (i - 193)
def gzA : Array Value := ((List.range 198).map gzF).toArray
theorem gz_eq : Try.zeroCells144 = gzA := by kernel_rfl
theorem gz_size : Try.zeroCells144.size = 198 := by kernel_rfl
theorem gz_one : Try.zeroCells144.all (·.oneCell') = true := by kernel_rfl
theorem gz_at (i : Nat) (h : i < 198) : Try.zeroCells144.toList[i]? = some (gzF i) := by rw [gz_eq]; simp [gzA, h]
theorem SAt.store_group {w : World} {b : Nat} {m : M} {qs : Nat → Q} (h : SAt w b m qs) (g : Nat) (hg : g < 10) : (storeCells ⟨b, 121 + g * 198, none⟩ Try.zeroCells144.toList).run Try.prog w = .ok () (w.setCells b (121 + g * 198) Try.zeroCells144.toList) := by
  obtain ⟨C, h1, h2⟩ := h.blk
  have hs : Try.zeroCells144.toList.length = 198 := by kernel_rfl
  have := run_storeCells_cells (P := Try.prog) b (121 + g * 198) Try.zeroCells144.toList 0 w
    (fun j hj => by rw [cell_blk h1, Array.getElem?_eq_getElem (by omega)]; rfl) (fun j hj => frozen_blk h1 _)
    (fun v hv => (Array.all_eq_true_iff_forall_mem.1 gz_one) v (by simpa using hv))
  simp only [Nat.add_zero] at this
  exact this
theorem heap_setCells_ne (b : Nat) : ∀ (vs : List Value) (o : Nat) (w : World) (k : Nat), k ≠ b → (w.setCells b o vs).heap[k]? = w.heap[k]?
  | [], _, _, _, _ => rfl
  | v :: r, o, w, k, h => by
    rw [World.setCells]
    exact (heap_setCells_ne b r (o + 1) _ k h).trans (setBlk _ _ _ _ h)
theorem heap_setCells_blk (b : Nat) {T : TypeId} : ∀ (vs : List Value) (o : Nat) (w : World) (C : Array Value), w.heap[b]? = some (.cells C T (0, 0)) → ∃ C', (w.setCells b o vs).heap[b]? = some (.cells C' T (0, 0)) ∧ C'.size = C.size
  | [], _, _, C, h => ⟨C, h, rfl⟩
  | v :: r, o, w, C, h => by
    rw [World.setCells]
    obtain ⟨C', h1, h2⟩ := heap_setCells_blk b r (o + 1) _ _ (blk_set h o v)
    exact ⟨C', h1, by rw [h2]; simp⟩
theorem Frm.setCells {b : Nat} : ∀ (vs : List Value) (o : Nat) {u w : World}, Frm b u w → Frm b u (w.setCells b o vs)
  | [], _, _, _, h => h
  | v :: r, o, u, w, h => by rw [World.setCells]; exact Frm.setCells r (o + 1) (h.setCell o v)
theorem SAt.noGroup {w : World} {b : Nat} {m : M} {qs : Nat → Q} (h : SAt w b m qs) (g : Nat) (hg : g < 10) (hh : ∀ f, f < 4 → unitC g (m.u g) f = unitC g Un.no f) :
    SAt (w.setCells b (121 + g * 198) Try.zeroCells144.toList) b (m.set g Un.no) (fun k => if k = g then q0 else qs k) := by
  obtain ⟨C, h1, h2⟩ := h.blk
  have hs : Try.zeroCells144.toList.length = 198 := by kernel_rfl
  obtain ⟨C', k1, k2⟩ := heap_setCells_blk b Try.zeroCells144.toList (121 + g * 198) w C h1
  have hin : ∀ j, j < 198 → (w.setCells b (121 + g * 198) Try.zeroCells144.toList).cell? ⟨b, 121 + g * 198 + j, none⟩ = some (gzF j) := fun j hj => by
    rw [World.cell?_setCells_in b Try.zeroCells144.toList (121 + g * 198) w (fun i hi => by rw [cell_blk h1, Array.getElem?_eq_getElem (by omega)]; rfl) j (by omega), ← gz_at j hj, List.getElem?_eq_getElem (by omega)]
  have hout : ∀ i, i < 121 + g * 198 ∨ 121 + g * 198 + 198 ≤ i → (w.setCells b (121 + g * 198) Try.zeroCells144.toList).cell? ⟨b, i, none⟩ = w.cell? ⟨b, i, none⟩ := fun i hi => by
    refine World.cell?_setCells_out b _ (121 + g * 198) w ⟨b, i, none⟩ (fun _ _ => ?_)
    rw [hs]; exact hi
  refine ⟨⟨C', k1, by omega⟩, by rw [hout 0 (by omega)]; exact h.now, fun u f hu hf => ?_, fun k i hk hi => ?_, fun k f hk hf => ?_, fun n f hn hf => ?_⟩
  · rw [hout _ (by omega), h.unit u f hu hf]
    by_cases e : u = g
    · subst e; rw [Fr.set_same, hh f hf]
    · rw [Fr.set_ne _ _ _ _ e]
  · by_cases e : k = g
    · subst e
      rw [hin i (by omega), if_pos rfl, encq0 i hi]
      unfold gzF; rw [if_pos hi]
    · rw [hout _ (by omega), if_neg e]; exact h.que k i hk hi
  · by_cases e : k = g
    · subst e
      rw [hin (193 + f) (by omega), Fr.set_same]
      unfold gzF; rw [if_neg (by omega), show 193 + f - 193 = f by omega]
    · rw [hout _ (by omega), Fr.set_ne _ _ _ _ e]; exact h.grp k f hk hf
  · rw [hout _ (by omega), Fr.set_ne _ _ _ _ (by omega)]; exact h.task n f hn hf
/-- A group that nobody is in, and that was not ready: its queue may be emptied. -/
theorem Cpl.noGroup {m : M} {qs : Nat → Q} (h : Cpl m qs) {g : Nat} (hw : (m.u g).was = false) (hk : ∀ v, 0 < v → v < 30 → (m.u v).here = true → Fr.grp m v ≠ g) : Cpl (m.set g Un.no) (fun k => if k = g then q0 else qs k) := by
  have hkd : ∀ k u, Fr.kidB (m.set g Un.no) k u = Fr.kidB m k u := fun k u => Fr.kids_same hw rfl k u
  have hno : ∀ u, u < 30 → Fr.kidB m g u = false := fun u hu => by
    cases c : Fr.kidB m g u
    · rfl
    · have kb := Fr.kidB_iff.1 c
      exact absurd (Fr.kid_grp c) (hk u kb.1 hu kb.2.1)
  refine ⟨fun k hk' => ?_, fun k u hk' hu => ?_, fun k u hk' hu c => ?_⟩
  · by_cases e : k = g
    · rw [if_pos e]; exact ⟨q0_ok, q0_full⟩
    · rw [if_neg e]; exact h.ok k hk'
  · rw [hkd]
    by_cases e : k = g
    · subst e
      rw [if_pos rfl]
      constructor
      · intro c; exact absurd c (by show ¬ (0 : Nat) < 0; omega)
      · rintro ⟨c1, c2⟩; rw [hno u c1] at c2; cases c2
    · rw [if_neg e]; exact h.has k u hk' hu
  · rw [hkd] at c
    by_cases e : k = g
    · subst e; rw [hno u hu] at c; cases c
    · have : u ≠ g := fun e2 => by
        have kb := Fr.kidB_iff.1 c
        rw [e2, hw] at kb; exact absurd kb.2.2.2 (by decide)
      rw [if_neg e, Fr.set_ne _ _ _ _ this]; exact h.key k u hk' hu c

set_option maxRecDepth 100000 in
set_option maxHeartbeats 2000000 in
theorem dropGroup_free (b g : Nat) (m : M) (w : World) (h : Fair w b m) (hI : Fr.Inv m) (hS : Fr.Sync m) (g0 : g ≠ 0) (hg : g < 10) (k : Fr.groupE m g = 0) (hh : (m.u g).here = true) (hu : Fr.hasUnit m g = false) :
    Calls Try.prog 105 #[.pointer (some ⟨b, 0, none⟩), .int .i64 g] w fun e w' => e = .returned (errV 0) ∧ Fair w' b (m.set g Un.no) ∧ Frm b w w' := by
  have HF := Hid.intro h
  have HK := Hid.intro k
  have HU := Hid.intro hu
  have gz : ((g : Int) == 0) = false := by simp; omega
  have EG := Hid.intro (Fr.empty_group hI hS (by omega) hg hh hu)
  have hgI : (g : Int) < 10 := by omega
  have hg30 : (g : Int) < 30 := by omega
  clear h k hu hI hS hh
  go_enter Try.func105, Try.ntmps105
  go_wp2_with fail
  refine (wrongGroup_any b g m _ HF.out).mono ?_
  rintro e w1 ⟨rfl, hw⟩
  subst w1
  rw [HK.out, errV_zero]
  go_wp2_with fail
  refine (holds_any b g m _ HF.out).mono ?_
  rintro e w1 ⟨rfl, hb1⟩
  have F1 : Hid (Fair w1 b m ∧ Frm b w w1) := Hid.intro ⟨HF.out.same (hb1.block b HF.out.lt), Frm.of_below hb1⟩
  rw [HU.out]
  clear hb1
  obtain ⟨qs, hS, hC⟩ := F1.out.1
  have HS := Hid.intro hS
  have HC := Hid.intro hC
  have c0 := hS.cHere g (by omega)
  have c1 := hS.cIn g (by omega)
  have c2 := hS.cWeight g (by omega) (by omega)
  have c3 := hS.cTime g (by omega)
  have cf := hS.frozen
  have h4 := (((hS.setHere g false (by omega)).setIn g 0 (by omega)).setWeight g 0 (by omega) (by omega)).setTime g 0 (by omega)
  simp only [Fr.set_same, Fr.set_set] at h4
  have st : (storeCells ⟨b, 121 + g * 198, none⟩ Try.zeroCells144.toList).run Try.prog ((((w1.setCell ⟨b, 1 + g * 4, none⟩ (.bool false)).setCell ⟨b, 1 + g * 4 + 1, none⟩ (.int .i64 0)).setCell ⟨b, 1 + g * 4 + 2, none⟩ (.int .u64 0)).setCell ⟨b, 1 + g * 4 + 3, none⟩ (.int .u64 0)).drew = .ok () (((((w1.setCell ⟨b, 1 + g * 4, none⟩ (.bool false)).setCell ⟨b, 1 + g * 4 + 1, none⟩ (.int .i64 0)).setCell ⟨b, 1 + g * 4 + 2, none⟩ (.int .u64 0)).setCell ⟨b, 1 + g * 4 + 3, none⟩ (.int .u64 0)).drew.setCells b (121 + g * 198) Try.zeroCells144.toList) := h4.drew.store_group g hg
  have H4 := Hid.intro h4
  clear hS hC h4
  go_wp2_with fail
  go_region
  generalize hW2 : World.setCells _ _ _ _ = W2
  have F2 : Hid (Fair W2 b (m.set g Un.no) ∧ Frm b w W2) := Hid.intro (by
    rw [← hW2]
    refine ⟨⟨_, ?_, HC.out.noGroup EG.out.1 EG.out.2⟩, ((((((F1.out.2.setCell _ _).setCell _ _).setCell _ _).setCell _ _).drew).setCells _ _)⟩
    have := H4.out.drew.noGroup g hg (four (by rw [Fr.set_same]; rfl) (by rw [Fr.set_same]; rfl) (by rw [Fr.set_same]; rfl) (by rw [Fr.set_same]; rfl))
    rw [Fr.set_set] at this
    exact this)
  clear hW2 c0 c1 c2 c3 cf st
  go_wp2_with fail
  go_ret
  exact ⟨rfl, F2.out⟩

theorem dropGroup_any (b : Nat) (z : Int) (m : M) (w : World) (h : Fair w b m) (hI : Fr.Inv m) (hS : Fr.Sync m) :
    Calls Try.prog 105 #[.pointer (some ⟨b, 0, none⟩), .int .i64 z] w fun e w' => e = .returned (errV (Fr.dropGroupE m z)) ∧ Fair w' b (Fr.dropGroupM m z) ∧ Frm b w w' := by
  have NO : ∀ E, Fr.dropGroupE m z = E → E ≠ 0 → ∀ w', Below w.heap.size w w' → Fair w' b (Fr.dropGroupM m z) ∧ Frm b w w' := fun E e h0 w' hb => ⟨by unfold Fr.dropGroupM; rw [e, if_neg h0]; exact h.same (hb.block b h.lt), Frm.of_below hb⟩
  by_cases k : Fr.groupE m z = 0
  · obtain ⟨g, rfl, hg, hh⟩ := Fr.groupE_zero k
    by_cases g0 : g = 0
    · subst g0
      have HE : Fr.dropGroupE m ((0 : Nat) : Int) = 5 := by unfold Fr.dropGroupE; rw [if_pos k, if_pos (.inl rfl)]
      refine (dropGroup_root b m w h k).mono ?_
      rintro e w' ⟨rfl, rfl⟩
      exact ⟨by rw [HE], NO 5 HE (by decide) _ (Below.refl _ _)⟩
    · cases hu : Fr.hasUnit m g
      · have HE : Fr.dropGroupE m (g : Int) = 0 := by unfold Fr.dropGroupE; rw [if_pos k, Int.toNat_natCast, hu, if_neg]; rintro (c | c); omega; cases c
        refine (dropGroup_free b g m w h hI hS g0 hg k hh hu).mono ?_
        rintro e w' ⟨rfl, f, r⟩
        refine ⟨by rw [HE], ?_, r⟩
        unfold Fr.dropGroupM
        rw [HE, if_pos rfl, Int.toNat_natCast]; exact f
      · have HE : Fr.dropGroupE m (g : Int) = 5 := by unfold Fr.dropGroupE; rw [if_pos k, if_pos (.inr (by rw [Int.toNat_natCast]; exact hu))]
        refine (dropGroup_busy b g m w h g0 k hu).mono ?_
        rintro e w' ⟨rfl, hb⟩
        exact ⟨by rw [HE], NO 5 HE (by decide) _ hb⟩
  · have HE : Fr.dropGroupE m z = Fr.groupE m z := by unfold Fr.dropGroupE; rw [if_neg k]
    refine (dropGroup_wrong b z m w h k).mono ?_
    rintro e w' ⟨rfl, rfl⟩
    exact ⟨by rw [HE], NO _ HE k _ (Below.refl _ _)⟩

end Go.Proofs.Ytgabfkaadflciaa

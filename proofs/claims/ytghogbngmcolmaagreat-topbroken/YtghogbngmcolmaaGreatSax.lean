import Derived.Test.YtghogbngmcolmaaGreatSaw
namespace Go.Proofs.YtghogbngmcolmaaGreat.Fa
open Go.RowKit
open Hp (Q)
open Fr (Un M)
theorem newUnit_any (g x : Int) (w : World) : Calls Tryz.prog 144 #[.int .i64 g, .int .u64 x] w fun e w' => e = .returned (.agg #[.bool true, .int .i64 g, .int .u64 x, .int .u64 0]) ∧ Below w.heap.size w w' := by
  go_enter Tryz.func144, Tryz.ntmps144
  go_wp2
  refine bodyPost_ret (v := .agg #[.bool true, .int .i64 g, .int .u64 x, .int .u64 0]) (by simp [results, Tryz.results144, go_sem]) rfl ⟨rfl, (Below.refl _ _).alloc (Nat.le_refl _) _⟩
theorem SAt.put4 {w : World} {b : Nat} {m : M} {qs : Nat → Q} (h : SAt w b m qs) (u g wt tm : Nat) (h0 : 0 < u) (hu : u < 30) :
    SAt ((((w.setCell ⟨b, 1 + u * 4, none⟩ (.bool true)).setCell ⟨b, 1 + u * 4 + 1, none⟩ (.int .i64 (g : Int))).setCell ⟨b, 1 + u * 4 + 2, none⟩ (.int .u64 (wt : Int))).setCell ⟨b, 1 + u * 4 + 3, none⟩ (.int .u64 (tm : Int))) b (m.set u { m.u u with here := true, inn := g, weight := wt, time := tm }) qs := by
  have := (((h.setHere u true hu).setIn u g hu).setWeight u wt h0 hu).setTime u tm hu
  simp only [Fr.set_same, Fr.set_set] at this
  exact this
theorem Cpl.fresh {m : M} {qs : Nat → Q} (h : Cpl m qs) {u : Nat} {x : Un} (h1 : (m.u u).was = false) (h2 : x.was = false) : Cpl (m.set u x) qs := by
  have e : ∀ g, Fr.kidB m g u = false := fun g => by
    cases hk : Fr.kidB m g u
    · rfl
    · have := (Fr.kidB_iff.1 hk).2.2.2; rw [h1] at this; cases this
  have e' : ∀ g, Fr.kidB (m.set u x) g u = false := fun g => by
    cases hk : Fr.kidB (m.set u x) g u
    · rfl
    · have := (Fr.kidB_iff.1 hk).2.2.2; rw [Fr.set_same, h2] at this; cases this
  refine h.turn (fun g v _ _ => ?_) (fun g v _ _ hk => ?_)
  · by_cases k : v = u
    · subst k; rw [e, e']
    · exact Fr.kid_ne k
  · have k : v ≠ u := fun k => by subst k; rw [e] at hk; cases hk
    rw [Fr.set_ne _ _ _ _ k]
set_option maxRecDepth 100000 in
set_option maxHeartbeats 1000000 in
theorem add_ok (b u g wt : Nat) (z : Int) (hz : z = u) (m : M) (w : World) (h : Fair w b m) (hI : Fr.Inv m) (h0 : 0 < u) (hu : u < 30) (hn : (m.u u).here = false) (hg : g < 10) (hh : (m.u g).here = true) (hw : 1 ≤ wt) (hw2 : wt ≤ 1000) :
    Calls Tryz.prog 119 #[.pointer (some ⟨b, 0, none⟩), .int .i64 z, .int .i64 g, .int .i64 wt] w fun e w' => e = .returned .nilIface ∧ Fair w' b (m.set u (Un.new g wt)) ∧ Frm b w w' := by
  subst hz
  have HF : Hid (Fair w b m) := h
  have HE : Hid (Fr.groupE m g = 0) := Fr.groupE_nat hg hh
  have HU : Hid (m.u u = Un.no) := hI.no u hu hn
  have c1 := h.cHere u hu
  rw [hn] at c1
  have d1 : decide ((wt : Int) < 1) = false := by simp; omega
  have d2 : ¬ (1000 : Int) < (wt : Int) := by omega
  have hlt : (u : Int) < 30 := by omega
  have HL : Hid (b < w.heap.size) := h.lt
  clear h hI hh hn
  go_enter Tryz.func119, Tryz.ntmps119
  go_wp2_with fail
  refine (wrongGroup_any b g m _ HF.out).mono ?_
  rintro e w1 ⟨rfl, hw⟩
  subst w1
  rw [HE.out, errV_zero]
  go_wp2_with fail
  go_region_held3 (fun _ => True) (trivial) ((go_at_call 144; refine (newUnit_any _ _ _).mono ?_; rintro e w2 ⟨rfl, hb2⟩; have F2 : Fair w2 b m := HF.out.drew.same (hb2.block b HL.out); have t0 := F2.cHere u hu; have ts : ∃ v1 v2 v3, w2.cell? ⟨b, 1 + u * 4 + 1, none⟩ = some v1 ∧ w2.cell? ⟨b, 1 + u * 4 + 2, none⟩ = some v2 ∧ w2.cell? ⟨b, 1 + u * 4 + 3, none⟩ = some v3 := (by obtain ⟨qs, hS, _⟩ := F2; exact ⟨_, _, _, hS.cIn u hu, hS.cWeight u h0 hu, hS.cTime u hu⟩); obtain ⟨v1, v2, v3, t1, t2, t3⟩ := ts; have cf := F2.frozen; have HF2 : Hid (Fair w2 b m) := F2; have HB2 : Hid (Frm b w w2) := Hid.intro ((Frm.refl b w).drew.trans (Frm.of_below hb2)); clear F2 hb2))
  clear t0 t1 t2 t3 cf
  go_wp2
  go_ret
  refine ⟨rfl, ?_, (((HB2.out.setCell _ _).setCell _ _).setCell _ _).setCell _ _⟩
  obtain ⟨qs, hS, hC⟩ := HF2.out
  have hP := hS.put4 u g wt 0 h0 hu
  rw [HU.out] at hP
  rw [show IntKind.u64.wrap (wt : Int) = (wt : Int) from IntWalk.u64_in _ ⟨by omega, by omega⟩]
  exact ⟨qs, hP, hC.fresh (by rw [HU.out]; rfl) rfl⟩
set_option maxRecDepth 100000 in
set_option maxHeartbeats 1000000 in
theorem add_bad (b u : Nat) (z g wt : Int) (hz : z = u) (m : M) (w : World) (h : Fair w b m) (hu : u < 30) (hE : Fr.addE m u g wt ≠ 0) :
    Calls Tryz.prog 119 #[.pointer (some ⟨b, 0, none⟩), .int .i64 z, .int .i64 g, .int .i64 wt] w fun e w' => e = .returned (errV (Fr.addE m u g wt)) ∧ w' = w := by
  subst hz
  have HF : Hid (Fair w b m) := h
  have c1 := h.cHere u hu
  have hlt : (u : Int) < 30 := by omega
  by_cases k : wt < 1 ∨ 1000 < wt
  · have e : Hid (Fr.addE m u g wt = 1) := Hid.intro (if_pos k)
    by_cases k1 : wt < 1
    · clear h hE k c1
      go_enter Tryz.func119, Tryz.ntmps119
      go_wp2
      go_ret
      rw [e.out]; exact ⟨rfl, rfl⟩
    · have d1 : decide (wt < 1) = false := by simp; omega
      have d2 : 1000 < wt := by omega
      clear h hE k c1 k1
      go_enter Tryz.func119, Tryz.ntmps119
      go_wp2
      go_ret
      rw [e.out]; exact ⟨rfl, rfl⟩
  · have d1 : decide (wt < 1) = false := by simp; omega
    have d2 : ¬ 1000 < wt := by omega
    cases hh : (m.u u).here
    · have e : Fr.addE m u g wt = Fr.groupE m g := by unfold Fr.addE; rw [if_neg k, hh]; rfl
      rw [e] at hE ⊢
      rw [hh] at c1
      have HW := Hid.intro (errV_ne hE)
      clear h hE k hh e
      go_enter Tryz.func119, Tryz.ntmps119
      go_wp2_with fail
      refine (wrongGroup_any b g m _ HF.out).mono ?_
      rintro e w1 ⟨rfl, hw⟩
      subst w1
      rw [HW.out]
      go_wp2
      go_ret
      rw [HW.out]; exact ⟨rfl, rfl⟩
    · have e : Hid (Fr.addE m u g wt = 3) := Hid.intro (by unfold Fr.addE; rw [if_neg k, hh]; rfl)
      rw [hh] at c1
      clear h hE k hh
      go_enter Tryz.func119, Tryz.ntmps119
      go_wp2
      go_ret
      rw [e.out]; exact ⟨rfl, rfl⟩
theorem add_any (b u : Nat) (z g wt : Int) (hz : z = u) (m : M) (w : World) (h : Fair w b m) (hI : Fr.Inv m) (hu : u < 30) :
    Calls Tryz.prog 119 #[.pointer (some ⟨b, 0, none⟩), .int .i64 z, .int .i64 g, .int .i64 wt] w fun e w' => e = .returned (errV (Fr.addE m u g wt)) ∧ Fair w' b (Fr.addM m (Fr.addE m u g wt) u g wt) ∧ Frm b w w' := by
  by_cases k : Fr.addE m u g wt = 0
  · obtain ⟨g', x, rfl, rfl, h1, h2, h3, h4, h5⟩ := Fr.addE_zero k
    have hu0 : u ≠ 0 := fun e => by rw [e, hI.root] at h5; cases h5
    unfold Fr.addM
    rw [if_pos k, k, Int.toNat_natCast]
    exact add_ok b u g' x z hz m w h hI (by omega) hu h5 h1 h2 h3 h4
  · unfold Fr.addM
    rw [if_neg k]
    exact (add_bad b u z g wt hz m w h hu k).mono fun _ w' ⟨h1, h2⟩ => ⟨h1, by rw [h2]; exact h, by rw [h2]; exact Frm.refl b w⟩
set_option maxRecDepth 100000 in
set_option maxHeartbeats 1000000 in
theorem addTask_any (b : Nat) (z g wt : Int) (m : M) (w : World) (h : Fair w b m) (hI : Fr.Inv m) :
    Calls Tryz.prog 70 #[.pointer (some ⟨b, 0, none⟩), .int .i64 z, .int .i64 g, .int .i64 wt] w fun e w' => e = .returned (errV (Fr.addTaskE m z g wt)) ∧ Fair w' b (Fr.addTaskM m z g wt) ∧ Frm b w w' := by
  have HF : Hid (Fair w b m) := h
  have HI : Hid (Fr.Inv m) := hI
  clear h hI
  by_cases k : z < 0 ∨ 20 ≤ z
  · have e : Hid (Fr.addTaskE m z g wt = 1 ∧ Fr.addTaskM m z g wt = m) := Hid.intro (by
      have e : Fr.addTaskE m z g wt = 1 := if_pos k
      refine ⟨e, ?_⟩
      unfold Fr.addTaskM Fr.addM; rw [e]; rfl)
    by_cases k1 : z < 0
    · clear k
      go_enter Tryz.func70, Tryz.ntmps70
      go_wp2
      go_ret
      rw [e.out.1, e.out.2]; exact ⟨rfl, HF.out, Frm.refl b w⟩
    · have d1 : decide (z < 0) = false := by simp; omega
      have d2 : 20 ≤ z := by omega
      clear k k1
      go_enter Tryz.func70, Tryz.ntmps70
      go_wp2
      go_ret
      rw [e.out.1, e.out.2]; exact ⟨rfl, HF.out, Frm.refl b w⟩
  · obtain ⟨n, rfl⟩ := Int.eq_ofNat_of_zero_le (show 0 ≤ z by omega)
    have e : Hid (Fr.addTaskE m n g wt = Fr.addE m (10 + n) g wt) := Hid.intro (by unfold Fr.addTaskE; rw [if_neg k, Int.toNat_natCast])
    have d1 : ¬ (20 : Int) ≤ (n : Int) := by omega
    have hn : 10 + n < 30 := by omega
    clear k
    go_enter Tryz.func70, Tryz.ntmps70
    go_wp2_with fail
    refine (add_any b (10 + n) _ g wt (by omega) m _ HF.out HI.out hn).mono ?_
    rintro e w1 ⟨rfl, f1, r1⟩
    have FIN : Hid (Fair w1 b (Fr.addTaskM m n g wt) ∧ Frm b w w1) := Hid.intro ⟨by unfold Fr.addTaskM; rw [e.out, Int.toNat_natCast]; exact f1, r1⟩
    clear f1 r1
    go_wp2_with fail
    go_ret
    rw [e.out]; exact ⟨rfl, FIN.out⟩
end Go.Proofs.YtghogbngmcolmaaGreat.Fa
namespace Go.Proofs.YtghogbngmcolmaaGreat.Fa
open Go.RowKit
open Hp (Q)
open Fr (Un M)
def q0 : Q := ⟨0, fun _ => 0, fun _ => 0, fun _ => 0⟩
theorem q0_ok : Hp.Okp q0 := ⟨by show (0 : Nat) ≤ 64; omega, fun i hi => absurd hi (by show ¬ i < 0; omega), fun j _ => ⟨Nat.le_refl _, fun h => absurd h (by show ¬ (0 : Nat) < 0; omega)⟩⟩
theorem q0_full : Hp.Full q0 := fun i _ hi => absurd hi (by show ¬ i < 0; omega)
def zeroF (i : Nat) : Value := if i = 0 then .int .i64 0 else if i < 121 then unitC 1 Un.no ((i - 1) % 4) else if i < 2101 then (if (i - 121) % 198 < 193 then (if (i - 121) % 198 < 129 then .int .i64 0 else .int .u64 0) else grpC Un.no ((i - 121) % 198 - 193)) else taskC Un.no ((i - 2101) % 2)
def zeroA : Array Value := ((List.range 2141).map zeroF).toArray
theorem zeroA_at (i : Nat) (h : i < 2141) : zeroA[i]? = some (zeroF i) := by simp [zeroA, h]
theorem encq0 (i : Nat) (h : i < 193) : (enc q0)[i]? = some (if i < 129 then .int .i64 0 else .int .u64 0) := by
  rcases Nat.lt_or_ge i 1 with hj | hj
  · obtain rfl : i = 0 := by omega
    rw [enc_many]; rfl
  · rcases Nat.lt_or_ge i 65 with hj1 | hj1
    · obtain ⟨j, rfl⟩ : ∃ j, i = 1 + j := ⟨i - 1, by omega⟩
      rw [enc_heap q0 j (by omega), if_pos (by omega)]; rfl
    · rcases Nat.lt_or_ge i 129 with hj2 | hj2
      · obtain ⟨j, rfl⟩ : ∃ j, i = 65 + j := ⟨i - 65, by omega⟩
        rw [enc_place q0 j (by omega), if_pos (by omega)]; rfl
      · obtain ⟨j, rfl⟩ : ∃ j, i = 129 + j := ⟨i - 129, by omega⟩
        rw [enc_keys q0 j (by omega), if_neg (by omega)]; rfl
theorem zero_eq : Tryz.zeroCells174 = zeroA := by kernel_rfl
def mz : M := ⟨fun _ => Un.no, 0⟩
theorem unit_no (u f : Nat) (hf : f < 4) : unitC u Un.no f = unitC 1 Un.no f := by
  refine four (P := fun f => unitC u Un.no f = unitC 1 Un.no f) rfl rfl ?_ rfl f hf
  show Value.int .u64 ((if u = 0 then 0 else Un.no.weight : Nat) : Int) = _
  split <;> rfl
theorem sat_zero {w : World} {b : Nat} (h : w.heap[b]? = some (.cells zeroA 174 (0, 0))) : SAt w b mz (fun _ => q0) := by
  refine ⟨⟨_, h, by simp [zeroA]⟩, ?_, fun u f hu hf => ?_, fun g i hg hi => ?_, fun g f hg hf => ?_, fun n f hn hf => ?_⟩
  · rw [cell_blk h, zeroA_at 0 (by omega)]; rfl
  · rw [cell_blk h, zeroA_at _ (by omega)]
    unfold zeroF
    rw [if_neg (by omega), if_pos (by omega), show (1 + u * 4 + f - 1) % 4 = f by omega]
    rw [show mz.u u = Un.no from rfl, unit_no u f hf]
  · rw [cell_blk h, zeroA_at _ (by omega), encq0 i hi]
    unfold zeroF
    rw [if_neg (by omega), if_neg (by omega), if_pos (by omega), show (121 + g * 198 + i - 121) % 198 = i by omega, if_pos hi]
  · rw [cell_blk h, zeroA_at _ (by omega)]
    unfold zeroF
    rw [if_neg (by omega), if_neg (by omega), if_pos (by omega), show (121 + g * 198 + (193 + f) - 121) % 198 = 193 + f by omega, if_neg (by omega), show 193 + f - 193 = f by omega]
    rfl
  · rw [cell_blk h, zeroA_at _ (by omega)]
    unfold zeroF
    rw [if_neg (by omega), if_neg (by omega), if_neg (by omega), show (2101 + n * 2 + f - 2101) % 2 = f by omega]
    rfl
theorem SAt.root {w : World} {b : Nat} (h : SAt w b mz (fun _ => q0)) : SAt ((((w.setCell ⟨b, 1, none⟩ (.bool true)).setCell ⟨b, 2, none⟩ (.int .i64 (-1))).setCell ⟨b, 3, none⟩ (.int .u64 0)).setCell ⟨b, 4, none⟩ (.int .u64 0)) b Fr.m0 (fun _ => q0) := by
  have h1 := (h.setHere 0 true (by omega)).setIn 0 (-1) (by omega)
  have h2 := h1.setUnit 0 2 (by omega) (by omega) (.int .u64 0) ((({ Un.no with here := true, inn := -1, weight := 1 } : Un))) (four (by rw [Fr.set_same]; rfl) (by rw [Fr.set_same]; rfl) rfl (by rw [Fr.set_same]; rfl)) (fun k => by rw [Fr.set_same]; rfl) (fun k => by rw [Fr.set_same]; rfl)
  have h3 := h2.setTime 0 0 (by omega)
  simp only [Fr.set_same, Fr.set_set] at h3
  have e : Fr.M.set mz 0 { here := true, awake := Un.no.awake, frozen := Un.no.frozen, was := Un.no.was, inn := -1, weight := 1, ran := Un.no.ran, time := 0, floor := Un.no.floor, quota := Un.no.quota, period := Un.no.period, used := Un.no.used } = Fr.m0 := rfl
  rw [e] at h3
  exact h3
theorem fair_new {w : World} {b : Nat} (h : SAt w b Fr.m0 (fun _ => q0)) : Fair w b Fr.m0 := by
  have hk : ∀ g u, Fr.kidB Fr.m0 g u = false := fun g u => by
    cases k : Fr.kidB Fr.m0 g u
    · rfl
    · have := Fr.kidB_iff.1 k
      rw [Fr.m0_ne u (by omega)] at this
      exact absurd this.2.1 (by decide)
  refine ⟨_, h, fun g hg => ⟨q0_ok, q0_full⟩, fun g u hg hu => ?_, fun g u hg hu k => ?_⟩
  · rw [hk]; simp [q0]
  · rw [hk] at k; cases k
set_option maxRecDepth 100000 in
set_option maxHeartbeats 1000000 in
theorem new_any (w : World) : Calls Tryz.prog 54 #[] w fun e w' => e = .returned (.pointer (some ⟨w.heap.size, 0, none⟩)) ∧ Fair w' w.heap.size Fr.m0 ∧ Below w.heap.size w w' ∧ w.heap.size < w'.heap.size := by
  have Z : (w.alloc (.cells Tryz.zeroCells174 174)).heap[w.heap.size]? = some (.cells zeroA 174 (0, 0)) := by
    rw [zero_eq]; exact heap_alloc_new w _
  have Z2 : (w.alloc (.cells ((((Tryz.zeroCells174.setIfInBounds 1 (Value.bool true)).setIfInBounds 2 (Value.int IntKind.i64 (-1))).setIfInBounds 3 (Value.int IntKind.u64 0)).setIfInBounds 4 (Value.int IntKind.u64 0)) 174)).heap[w.heap.size]? = some (.cells ((((zeroA.setIfInBounds 1 (Value.bool true)).setIfInBounds 2 (Value.int IntKind.i64 (-1))).setIfInBounds 3 (Value.int IntKind.u64 0)).setIfInBounds 4 (Value.int IntKind.u64 0)) 174 (0, 0)) := by
    rw [zero_eq]; exact heap_alloc_new w _
  have FIN : Hid (Fair (w.alloc (.cells ((((Tryz.zeroCells174.setIfInBounds 1 (Value.bool true)).setIfInBounds 2 (Value.int IntKind.i64 (-1))).setIfInBounds 3 (Value.int IntKind.u64 0)).setIfInBounds 4 (Value.int IntKind.u64 0)) 174)) w.heap.size Fr.m0) := Hid.intro (by
    have h := (sat_zero Z).root
    refine (fair_new h).same ?_
    rw [Z2, blk_set (blk_set (blk_set (blk_set Z 1 _) 2 _) 3 _) 4 _])
  clear Z Z2
  go_enter Tryz.func54, Tryz.ntmps54
  go_wp2_with fail
  go_ret
  exact ⟨rfl, FIN.out, (Below.refl _ _).alloc (Nat.le_refl _) _, by simp⟩
end Go.Proofs.YtghogbngmcolmaaGreat.Fa

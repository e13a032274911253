/- TopTree: the walk of rooted. -/
import Derived.Test.YtfgnhldnmbfnkabWc
import Derived.BigQuiet
namespace Go.Proofs.Ytfgnhldnmbfnkab
open Go.RowKit
open Tr (Fo Nd)

theorem Calls.quiet_name (s : ByteArray) (v : Bool) (h : Tr.nameB s = v) (w : World) : Calls Try.prog 40 #[.string s] w fun e w' => e = .returned (.bool v) ∧ w' = w := by rw [← h]; exact tName_any s w
set_option maxRecDepth 100000 in
set_option maxHeartbeats 8000000 in
theorem rooted_any (b k : Nat) (F : Fo) (w : World) (h : FAt w b F) (ho : Tr.Ok F) (hb : Tr.Hb F k) (hk : k < 1000) :
    Calls Try.prog 51 #[.pointer (some ⟨b, 0, none⟩)] w fun e w' => e = .returned (.bool true) ∧ Below w.heap.size w w' := by
  have HF := Hid.intro h
  have HO := Hid.intro ho
  have HH := Hid.intro (And.intro hb hk)
  clear h ho hb hk
  go_enter Try.func51, Try.ntmps51
  go_upto_region 2 with fail
  refine wp_gen (fun W' => RT w W' b w.heap.size F (Tr.rN F 0)) (by
    have bb := (Below.refl w.heap.size w).alloc (Nat.le_refl _) (.cells (arrZ 40 fun _ => ((0 : Nat) : Int)) 183)
    have hl := HF.out.lt
    have r : RT w (w.alloc (.cells (arrZ 40 fun _ => ((0 : Nat) : Int)) 183)) b w.heap.size F (fun _ => 0) := ⟨bb, HF.out.below bb, heap_alloc_new w _, Nat.le_refl _, by omega⟩
    exact r.congr (fun i => by unfold Tr.rN; rw [Nat.zero_min]; rfl)) ?_
  intro W0 hR0
  have R0 := Hid.intro hR0
  clear hR0 HF
  generalize w.heap.size = g at *
  have hgw : True := trivial
  clear hgw
  go_wp2_with fail
  go_loopw [4, 5, 6] (fun t r e wr => ∃ j : Nat, t = .int .i64 j ∧ j ≤ 4 ∧ Hid (RT w wr b g F (Tr.rN F j))) (fun t _ _ _ => 4 - (intOf t).toNat)
  case atStart => exact ⟨0, rfl, by omega, R0⟩
  case round =>
    clear R0
    obtain ⟨j, rfl, hj, R⟩ := hrel
    by_cases hlt : j < 4
    · have hltI : (j : Int) < 4 := by omega
      by_cases ht : j < F.trees
      · have e0 : Tr.rootE F (j : Int) = 0 := by unfold Tr.rootE; rw [if_neg (by omega), Int.toNat_natCast, if_neg (by omega)]
        have e1 : Tr.rootN F (j : Int) = F.root j := by unfold Tr.rootN; rw [if_pos e0, Int.toNat_natCast]
        obtain ⟨r40, _⟩ := HO.out.rt j ht
        obtain ⟨r, hr⟩ : ∃ r, F.root j = r := ⟨_, rfl⟩
        rw [hr] at e1 r40
        have vle : Tr.rN F j r ≤ 4 := Nat.le_trans (sumN_one_le _ (fun i => oneN_le _ _) _) (by omega)
        have c0 := R.out.2.2.1.cell r r40
        have cf := R.out.2.2.1.frozen r
        have R1 : Hid (RT w (wr.setCell ⟨g, r, none⟩ (.int .i64 ((Tr.rN F j r : Int) + 1))) b g F (Tr.rN F (j + 1))) := Hid.intro ((R.out.bump r r40).congr (fun i => by rw [Tr.rN_yes ht, hr]))
        have EE := Hid.intro (And.intro e0 e1)
        generalize Tr.rN F j r = v at *
        have hw : IntKind.i64.wrap ((v : Int) + 1) = (v : Int) + 1 := IntWalk.i64_in _ ⟨by omega, by omega⟩
        have r40I : (r : Int) < 40 := by omega
        clear e0 e1 hr
        go_wp2_with fail
        refine (troot_any b (j : Int) F _ R.out.2.1).mono ?_
        rintro e W1 ⟨rfl, hW1⟩
        subst W1
        rw [EE.out.1, EE.out.2, errV_zero]
        go_wp2_with fail
        go_roundw
        case rel => exact ⟨j + 1, by go_num, by omega, R1⟩
        case measure => simp [intOf]; omega
      · have e0 : Tr.rootE F (j : Int) = 2 := by unfold Tr.rootE; rw [if_neg (by omega), Int.toNat_natCast, if_pos (by omega)]
        have R1 : Hid (RT w wr b g F (Tr.rN F (j + 1))) := Hid.intro (R.out.congr (fun i => Tr.rN_no (by omega) i))
        go_wp2_with fail
        refine (troot_any b (j : Int) F _ R.out.2.1).mono ?_
        rintro e W1 ⟨rfl, hW1⟩
        subst W1
        rw [e0, errV_ne (by decide)]
        go_wp2_with fail
        go_roundw
        case rel => exact ⟨j + 1, by go_num, by omega, R1⟩
        case measure => simp [intOf]; omega
    · have hltI : ¬ (j : Int) < 4 := by omega
      obtain rfl : j = 4 := by omega
      have R1 : Hid (RT w wr b g F (Tr.dN F 0)) := Hid.intro (R.out.congr (fun i => by rw [Tr.rN_all HO.out.tr]; rfl))
      clear R
      go_wp2_with fail
      go_loopw [7, 8, 9, 10, 11, 12, 13, 14, 15, 16, 17, 18, 19, 20] (fun n _ _ _ _ _ _ _ _ _ _ _ _ _ wr => ∃ j : Nat, n = .int .i64 j ∧ j ≤ 40 ∧ Hid (RT w wr b g F (Tr.dN F j))) (fun n _ _ _ _ _ _ _ _ _ _ _ _ _ _ => 40 - (intOf n).toNat)
      case atStart => exact ⟨0, rfl, by omega, R1⟩
      case round =>
        clear R1
        obtain ⟨n, rfl, hn, R⟩ := hrel
        by_cases hlt : n < 40
        · have hltI : (n : Int) < 40 := by omega
          by_cases k2 : (F.nd n).kind = 2
          · have h2 := (Tr.isE_two hlt).2 k2
            go_wp2_with fail
            refine (tlist_any b (n : Int) F _ R.out.2.1 HO.out.sz).mono ?_
            rintro e W1 ⟨v, rfl, so⟩
            have T1 := Hid.intro (so.tl R.out.2.2.1.lt)
            have R1 : Hid (RT w W1 b g F (Tr.eN F n 0)) := Hid.intro ((R.out.below so.bel).congr (fun i => rfl))
            have l8 := Tr.lisL_len HO.out.sz (n : Int)
            obtain ⟨av, cv, hv⟩ := so.form
            clear so R
            rw [h2, errV_zero]
            obtain ⟨m, hm⟩ : ∃ m, (Tr.lisL F (n : Int)).length = m := ⟨_, rfl⟩
            rw [hm] at l8 hv
            subst hv
            have l8I : ¬ (8 : Int) < (m : Int) := by omega
            have HM := Hid.intro (And.intro hm h2)
            have K2 := Hid.intro k2
            clear hm h2 k2
            go_wp2_with fail
            go_loopw [10, 11, 12, 13, 14, 15, 16, 17, 18, 19, 20] (fun i _ _ _ _ _ _ _ _ _ _ wr => ∃ j : Nat, i = .int .i64 j ∧ j ≤ m ∧ Hid (RT w wr b g F (Tr.eN F n j) ∧ TL g (Tr.lisL F (n : Int)) (.slice av m cv) wr)) (fun i _ _ _ _ _ _ _ _ _ _ _ => m - (intOf i).toNat)
            case atStart => exact ⟨0, rfl, by omega, Hid.intro ⟨R1.out, T1.out⟩⟩
            case round =>
              clear R1 T1
              obtain ⟨j, rfl, hj, R⟩ := hrel
              by_cases hjm : j < m
              · have hjmI : (j : Int) < (m : Int) := by omega
                obtain ⟨a', c', e', kk⟩ := R.out.2
                obtain ⟨gl, ha, gne, glt, cls⟩ := kk (by rw [HM.out.1]; omega)
                injection e' with e1 e2 e3
                clear e2
                subst a'
                subst e1
                subst e3
                have cj := cls j (by rw [HM.out.1]; exact hjm)
                obtain ⟨K, K40, hfn, hfk, hnb, hne, htr, hup⟩ := Tr.lis_kid HO.out hlt K2.out (i := j) (by rw [HM.out.1]; exact hjm)
                have CL : Hid (∀ W, Below wr.heap.size wr W → ∀ i, i < m → W.cell? ⟨gl, i, none⟩ = some (.string ((Tr.lisL F (n : Int)).getD i ⟨#[]⟩))) := Hid.intro (fun W hW i hi => (hW.cell (p := ⟨gl, i, none⟩) glt).trans (cls i (by rw [HM.out.1]; exact hi)))
                obtain ⟨s, hs⟩ : ∃ s, (Tr.lisL F (n : Int)).getD j ⟨#[]⟩ = s := ⟨_, rfl⟩
                rw [hs] at cj hfn hfk hnb
                have FN := Hid.intro hfn
                have HK := Hid.intro (And.intro hfk (And.intro hne (And.intro htr hup)))
                have HS := Hid.intro hs
                clear kk cls hfn hfk hne htr hup hs gne glt
                go_wp2_with fail
                refine (tfind_any b (n : Int) s F _ R.out.1.2.1 HO.out.sz).mono ?_
                rintro e W1 ⟨K', E', rfl, hf', b1⟩
                obtain ⟨rfl, rfl⟩ := FN.out.unique hf'
                have R1 := Hid.intro (And.intro (R.out.1.below b1) (R.out.2.below b1))
                have CL1 : Hid (∀ i, i < m → W1.cell? ⟨gl, i, none⟩ = some (.string ((Tr.lisL F (n : Int)).getD i ⟨#[]⟩))) := Hid.intro (CL.out W1 b1)
                clear hf' b1 R cj CL FN
                rw [errV_zero]
                have cj : W1.cell? ⟨gl, j, none⟩ = some (.string s) := by rw [← HS.out]; exact CL1.out j hjm
                have k0I : decide ((K : Int) < 0) = false := decide_eq_false (by omega)
                have k39I : decide ((39 : Int) < (K : Int)) = false := decide_eq_false (by omega)
                by_cases j0 : j = 0
                · subst j0
                  clear CL1
                  go_upto_region 19 with fail
                  go_big_quiet ((go_at_call 40; refine Calls.quiet_of_same (Calls.quiet_name s true hnb _)))
                  obtain ⟨W2, hW2⟩ : ∃ W2, W1.drewN nq = W2 := ⟨_, rfl⟩
                  rw [hW2]
                  have bq : Below W1.heap.size W1 W2 := by rw [← hW2]; exact ⟨rfl, rfl, rfl, Nat.le_refl _, fun _ _ => rfl⟩
                  have R2 := Hid.intro (And.intro (R1.out.1.below bq) (R1.out.2.below bq))
                  clear bq hW2 R1 cj
                  have c0 := R2.out.1.2.2.1.cell K K40
                  have cf := R2.out.1.2.2.1.frozen K
                  have vle : Tr.eN F n (0) K ≤ 1000 := by
                    have a1 := Tr.dN_le HO.out hn K
                    have a2 := sumN_one_le (fun q => oneN (Tr.fk (F.nd n) ((Tr.lisL F (n : Int)).getD q ⟨#[]⟩).toList) K) (fun i => oneN_le _ _) (0)
                    unfold Tr.eN
                    omega
                  have R3 : Hid (RT w (W2.setCell ⟨g, K, none⟩ (.int .i64 ((Tr.eN F n (0) K : Int) + 1))) b g F (Tr.eN F n (0 + 1)) ∧ TL g (Tr.lisL F (n : Int)) (.slice (some ⟨gl, 0, none⟩) m cv) (W2.setCell ⟨g, K, none⟩ (.int .i64 ((Tr.eN F n (0) K : Int) + 1)))) := Hid.intro ⟨(R2.out.1.bump K K40).congr (fun i => by
                    show Tr.dN F n i + (sumN _ (0) + _) = Tr.dN F n i + sumN _ (0) + _
                    (dsimp only; rw [HS.out, HK.out.1]; omega)), R2.out.2.frm ((Frm.refl g W2).setCell _ _)⟩
                  generalize Tr.eN F n (0) K = v at *
                  have hw : IntKind.i64.wrap ((v : Int) + 1) = (v : Int) + 1 := IntWalk.i64_in _ ⟨by omega, by omega⟩
                  have r40I : (K : Int) < 40 := by omega
                  go_upto_region 22 with fail
                  refine wp_gen (fun W' => RT w W' b g F (Tr.eN F n (0 + 1)) ∧ TL g (Tr.lisL F (n : Int)) (.slice (some ⟨gl, 0, none⟩) m cv) W') R3.out ?_
                  intro W3 h3
                  have R4 := Hid.intro h3
                  clear h3 R3 R2 c0 cf hw HS
                  go_wp2_with fail
                  refine (tof_any b (K : Int) F _ R4.out.1.2.1).mono ?_
                  rintro e W4 ⟨rfl, b4⟩
                  have R5 := Hid.intro (And.intro (R4.out.1.below b4) (R4.out.2.below b4))
                  have EO : ofA F (K : Int) = #[.int .i64 ((F.nd K).kind : Int), .int .i64 ((F.nd K).links : Int), .int .i64 ((F.nd K).held : Int), .int .i64 ((F.nd K).size : Int)] := by unfold ofA; rw [if_pos HK.out.2.1, Int.toNat_natCast]
                  rw [EO, HK.out.2.1, errV_zero]
                  clear b4 R4 EO
                  obtain ⟨kd, hkd⟩ : ∃ kd, (F.nd K).kind = kd := ⟨_, rfl⟩
                  rw [hkd]
                  generalize (F.nd K).links = x1
                  generalize (F.nd K).held = x2
                  generalize (F.nd K).size = x3
                  go_upto_region 23 with fail
                  refine wp_gen (fun W' => (RT w W' b g F (Tr.eN F n (0 + 1)) ∧ TL g (Tr.lisL F (n : Int)) (.slice (some ⟨gl, 0, none⟩) m cv) W') ∧ W'.cell? ⟨W4.heap.size, 0, none⟩ = some (.int .i64 (kd : Int))) (by
                    have bb : Below W4.heap.size W4 (W4.alloc (.cells #[.int .i64 (kd : Int), .int .i64 (x1 : Int), .int .i64 (x2 : Int), .int .i64 (x3 : Int)] 99)) := (Below.refl _ _).alloc (Nat.le_refl _) _
                    exact ⟨⟨R5.out.1.below bb, R5.out.2.below bb⟩, by rw [cell_blk (heap_alloc_new W4 _)]; rfl⟩) ?_
                  rintro W5 ⟨h5, ck5⟩
                  have R6 := Hid.intro h5
                  clear h5 R5
                  generalize W4.heap.size = c1 at *
                  have TT : Hid (Tr.treeN F (n : Int) = Tr.treeN F (K : Int) ∧ (kd = 2 → Tr.upN F (K : Int) = n ∧ Tr.isE F (K : Int) 2 = 0)) := Hid.intro (by
                    have n0 : Tr.nodeE F (n : Int) = 0 := by rw [Tr.nodeE_some hlt, if_neg (by rw [K2.out]; decide)]
                    refine ⟨?_, fun hd => ?_⟩
                    · unfold Tr.treeN
                      rw [if_pos n0, if_pos HK.out.2.1, Int.toNat_natCast, Int.toNat_natCast]
                      exact HK.out.2.2.1.symm
                    · have e := (Tr.isE_two K40).2 (hkd.trans hd)
                      refine ⟨?_, e⟩
                      unfold Tr.upN
                      rw [if_pos e, Int.toNat_natCast]
                      exact HK.out.2.2.2 (hkd.trans hd))
                  clear HK hkd
                  by_cases kd2 : kd = 2
                  · subst kd2
                    have ck6 : W5.cell? ⟨c1, 0, none⟩ = some (.int .i64 2) := ck5
                    clear ck5
                    go_wp2_with fail
                    refine (tup_any b (K : Int) F _ R6.out.1.2.1).mono ?_
                    rintro e W6 ⟨rfl, hW6⟩
                    subst W6
                    rw [(TT.out.2 (by first | rfl | trivial)).1, (TT.out.2 (by first | rfl | trivial)).2, errV_zero]
                    go_wp2_with fail
                    refine (ttree_any b (n : Int) F _ R6.out.1.2.1).mono ?_
                    rintro e W6 ⟨rfl, hW6⟩
                    subst W6
                    rw [TT.out.1]
                    generalize errV (Tr.nodeE F (n : Int)) = y1
                    go_wp2_with fail
                    refine (ttree_any b (K : Int) F _ R6.out.1.2.1).mono ?_
                    rintro e W6 ⟨rfl, hW6⟩
                    subst W6
                    generalize errV (Tr.nodeE F (K : Int)) = y2
                    generalize Tr.treeN F (K : Int) = y3
                    go_wp2_with fail
                    go_roundw
                    case rel => exact ⟨0 + 1, by go_num, by omega, R6⟩
                    case measure => simp [intOf]; omega
                  · have kd2I : ((kd : Int) == 2) = false := by simp; omega
                    have kd2J : ¬ (kd : Int) = 2 := by omega
                    clear kd2
                    go_wp2_with fail
                    refine (tup_any b (K : Int) F _ R6.out.1.2.1).mono ?_
                    rintro e W6 ⟨rfl, hW6⟩
                    subst W6
                    generalize errV (Tr.isE F (K : Int) 2) = y0
                    generalize Tr.upN F (K : Int) = y4
                    go_wp2_with fail
                    refine (ttree_any b (n : Int) F _ R6.out.1.2.1).mono ?_
                    rintro e W6 ⟨rfl, hW6⟩
                    subst W6
                    rw [TT.out.1]
                    generalize errV (Tr.nodeE F (n : Int)) = y1
                    go_wp2_with fail
                    refine (ttree_any b (K : Int) F _ R6.out.1.2.1).mono ?_
                    rintro e W6 ⟨rfl, hW6⟩
                    subst W6
                    generalize errV (Tr.nodeE F (K : Int)) = y2
                    generalize Tr.treeN F (K : Int) = y3
                    go_wp2_with fail
                    go_roundw
                    case rel => exact ⟨0 + 1, by go_num, by omega, R6⟩
                    case measure => simp [intOf]; omega
                · obtain ⟨j', rfl⟩ : ∃ j', j = j' + 1 := ⟨j - 1, by omega⟩
                  have hbl : Op.bytesLess ((Tr.lisL F (n : Int)).getD j' ⟨#[]⟩).toList s.toList = true := by
                    rw [bytesLess_lt, ← HS.out]
                    exact decide_eq_true (Tr.lis_lt HO.out hlt K2.out HM.out.2 (by rw [HM.out.1]; exact hjm))
                  have ck := CL1.out j' (by omega)
                  generalize (Tr.lisL F (n : Int)).getD j' ⟨#[]⟩ = s0 at hbl ck
                  have hw2 : IntKind.i64.wrap (((j' + 1 : Nat) : Int) - 1) = (j' : Int) := by
                    have : ((j' + 1 : Nat) : Int) - 1 = (j' : Int) := by omega
                    rw [this]
                    exact IntWalk.i64_in _ ⟨by omega, by omega⟩
                  have jp : decide ((0 : Int) < ((j' + 1 : Nat) : Int)) = true := decide_eq_true (by omega)
                  have jm : (j' : Int) < (m : Int) := by omega
                  have jz : ((j' + 1 : Nat) : Int) - 1 = (j' : Int) := by omega
                  clear CL1 j0
                  go_upto_region 19 with fail
                  go_big_quiet ((go_at_call 40; refine Calls.quiet_of_same (Calls.quiet_name s true hnb _)))
                  obtain ⟨W2, hW2⟩ : ∃ W2, W1.drewN nq = W2 := ⟨_, rfl⟩
                  rw [hW2]
                  have bq : Below W1.heap.size W1 W2 := by rw [← hW2]; exact ⟨rfl, rfl, rfl, Nat.le_refl _, fun _ _ => rfl⟩
                  have R2 := Hid.intro (And.intro (R1.out.1.below bq) (R1.out.2.below bq))
                  clear bq hW2 R1 cj ck hbl hw2 jp jm jz
                  have c0 := R2.out.1.2.2.1.cell K K40
                  have cf := R2.out.1.2.2.1.frozen K
                  have vle : Tr.eN F n (j' + 1) K ≤ 1000 := by
                    have a1 := Tr.dN_le HO.out hn K
                    have a2 := sumN_one_le (fun q => oneN (Tr.fk (F.nd n) ((Tr.lisL F (n : Int)).getD q ⟨#[]⟩).toList) K) (fun i => oneN_le _ _) (j' + 1)
                    unfold Tr.eN
                    omega
                  have R3 : Hid (RT w (W2.setCell ⟨g, K, none⟩ (.int .i64 ((Tr.eN F n (j' + 1) K : Int) + 1))) b g F (Tr.eN F n (j' + 1 + 1)) ∧ TL g (Tr.lisL F (n : Int)) (.slice (some ⟨gl, 0, none⟩) m cv) (W2.setCell ⟨g, K, none⟩ (.int .i64 ((Tr.eN F n (j' + 1) K : Int) + 1)))) := Hid.intro ⟨(R2.out.1.bump K K40).congr (fun i => by
                    show Tr.dN F n i + (sumN _ (j' + 1) + _) = Tr.dN F n i + sumN _ (j' + 1) + _
                    (dsimp only; rw [HS.out, HK.out.1]; omega)), R2.out.2.frm ((Frm.refl g W2).setCell _ _)⟩
                  generalize Tr.eN F n (j' + 1) K = v at *
                  have hw : IntKind.i64.wrap ((v : Int) + 1) = (v : Int) + 1 := IntWalk.i64_in _ ⟨by omega, by omega⟩
                  have r40I : (K : Int) < 40 := by omega
                  go_upto_region 22 with fail
                  refine wp_gen (fun W' => RT w W' b g F (Tr.eN F n (j' + 1 + 1)) ∧ TL g (Tr.lisL F (n : Int)) (.slice (some ⟨gl, 0, none⟩) m cv) W') R3.out ?_
                  intro W3 h3
                  have R4 := Hid.intro h3
                  clear h3 R3 R2 c0 cf hw HS
                  go_wp2_with fail
                  refine (tof_any b (K : Int) F _ R4.out.1.2.1).mono ?_
                  rintro e W4 ⟨rfl, b4⟩
                  have R5 := Hid.intro (And.intro (R4.out.1.below b4) (R4.out.2.below b4))
                  have EO : ofA F (K : Int) = #[.int .i64 ((F.nd K).kind : Int), .int .i64 ((F.nd K).links : Int), .int .i64 ((F.nd K).held : Int), .int .i64 ((F.nd K).size : Int)] := by unfold ofA; rw [if_pos HK.out.2.1, Int.toNat_natCast]
                  rw [EO, HK.out.2.1, errV_zero]
                  clear b4 R4 EO
                  obtain ⟨kd, hkd⟩ : ∃ kd, (F.nd K).kind = kd := ⟨_, rfl⟩
                  rw [hkd]
                  generalize (F.nd K).links = x1
                  generalize (F.nd K).held = x2
                  generalize (F.nd K).size = x3
                  go_upto_region 23 with fail
                  refine wp_gen (fun W' => (RT w W' b g F (Tr.eN F n (j' + 1 + 1)) ∧ TL g (Tr.lisL F (n : Int)) (.slice (some ⟨gl, 0, none⟩) m cv) W') ∧ W'.cell? ⟨W4.heap.size, 0, none⟩ = some (.int .i64 (kd : Int))) (by
                    have bb : Below W4.heap.size W4 (W4.alloc (.cells #[.int .i64 (kd : Int), .int .i64 (x1 : Int), .int .i64 (x2 : Int), .int .i64 (x3 : Int)] 99)) := (Below.refl _ _).alloc (Nat.le_refl _) _
                    exact ⟨⟨R5.out.1.below bb, R5.out.2.below bb⟩, by rw [cell_blk (heap_alloc_new W4 _)]; rfl⟩) ?_
                  rintro W5 ⟨h5, ck5⟩
                  have R6 := Hid.intro h5
                  clear h5 R5
                  generalize W4.heap.size = c1 at *
                  have TT : Hid (Tr.treeN F (n : Int) = Tr.treeN F (K : Int) ∧ (kd = 2 → Tr.upN F (K : Int) = n ∧ Tr.isE F (K : Int) 2 = 0)) := Hid.intro (by
                    have n0 : Tr.nodeE F (n : Int) = 0 := by rw [Tr.nodeE_some hlt, if_neg (by rw [K2.out]; decide)]
                    refine ⟨?_, fun hd => ?_⟩
                    · unfold Tr.treeN
                      rw [if_pos n0, if_pos HK.out.2.1, Int.toNat_natCast, Int.toNat_natCast]
                      exact HK.out.2.2.1.symm
                    · have e := (Tr.isE_two K40).2 (hkd.trans hd)
                      refine ⟨?_, e⟩
                      unfold Tr.upN
                      rw [if_pos e, Int.toNat_natCast]
                      exact HK.out.2.2.2 (hkd.trans hd))
                  clear HK hkd
                  by_cases kd2 : kd = 2
                  · subst kd2
                    have ck6 : W5.cell? ⟨c1, 0, none⟩ = some (.int .i64 2) := ck5
                    clear ck5
                    go_wp2_with fail
                    refine (tup_any b (K : Int) F _ R6.out.1.2.1).mono ?_
                    rintro e W6 ⟨rfl, hW6⟩
                    subst W6
                    rw [(TT.out.2 (by first | rfl | trivial)).1, (TT.out.2 (by first | rfl | trivial)).2, errV_zero]
                    go_wp2_with fail
                    refine (ttree_any b (n : Int) F _ R6.out.1.2.1).mono ?_
                    rintro e W6 ⟨rfl, hW6⟩
                    subst W6
                    rw [TT.out.1]
                    generalize errV (Tr.nodeE F (n : Int)) = y1
                    go_wp2_with fail
                    refine (ttree_any b (K : Int) F _ R6.out.1.2.1).mono ?_
                    rintro e W6 ⟨rfl, hW6⟩
                    subst W6
                    generalize errV (Tr.nodeE F (K : Int)) = y2
                    generalize Tr.treeN F (K : Int) = y3
                    go_wp2_with fail
                    go_roundw
                    case rel => exact ⟨j' + 1 + 1, by go_num, by omega, R6⟩
                    case measure => simp [intOf]; omega
                  · have kd2I : ((kd : Int) == 2) = false := by simp; omega
                    have kd2J : ¬ (kd : Int) = 2 := by omega
                    clear kd2
                    go_wp2_with fail
                    refine (tup_any b (K : Int) F _ R6.out.1.2.1).mono ?_
                    rintro e W6 ⟨rfl, hW6⟩
                    subst W6
                    generalize errV (Tr.isE F (K : Int) 2) = y0
                    generalize Tr.upN F (K : Int) = y4
                    go_wp2_with fail
                    refine (ttree_any b (n : Int) F _ R6.out.1.2.1).mono ?_
                    rintro e W6 ⟨rfl, hW6⟩
                    subst W6
                    rw [TT.out.1]
                    generalize errV (Tr.nodeE F (n : Int)) = y1
                    go_wp2_with fail
                    refine (ttree_any b (K : Int) F _ R6.out.1.2.1).mono ?_
                    rintro e W6 ⟨rfl, hW6⟩
                    subst W6
                    generalize errV (Tr.nodeE F (K : Int)) = y2
                    generalize Tr.treeN F (K : Int) = y3
                    go_wp2_with fail
                    go_roundw
                    case rel => exact ⟨j' + 1 + 1, by go_num, by omega, R6⟩
                    case measure => simp [intOf]; omega
              · have hjmI : ¬ (j : Int) < (m : Int) := by omega
                obtain rfl : j = m := by omega
                have R2 : Hid (RT w wr b g F (Tr.dN F (n + 1))) := Hid.intro (R.out.1.congr (fun i => by rw [Tr.eN_all HO.out hlt K2.out HM.out.2, HM.out.1]))
                clear R
                go_wp2_with fail
                go_roundw
                case rel => exact ⟨n + 1, by go_num, by omega, R2⟩
                case measure => simp [intOf]; omega
          · have hE : Tr.isE F (n : Int) 2 ≠ 0 := fun e => k2 ((Tr.isE_two hlt).1 e)
            go_wp2_with fail
            refine (tlist_any b (n : Int) F _ R.out.2.1 HO.out.sz).mono ?_
            rintro e W1 ⟨v, rfl, so⟩
            have R1 : Hid (RT w W1 b g F (Tr.dN F (n + 1))) := Hid.intro ((R.out.below so.bel).congr (fun i => Tr.dN_no k2 i))
            clear so R
            rw [errV_ne hE]
            generalize Tr.isE F (n : Int) 2 = x at *
            go_wp2_with fail
            go_roundw
            case rel => exact ⟨n + 1, by go_num, by omega, R1⟩
            case measure => simp [intOf]; omega
        · have hltI : ¬ (n : Int) < 40 := by omega
          obtain rfl : n = 40 := by omega
          have R1 : Hid (RT w wr b g F (Tr.cnt F)) := Hid.intro (R.out.congr (fun i => by unfold Tr.cnt Tr.dN; omega))
          clear R
          go_wp2_with fail
          go_loopw [21, 22, 23, 24, 25, 26, 27, 28] (fun al n _ _ _ _ _ _ wr => ∃ j : Nat, n = .int .i64 j ∧ al = .int .i64 (Tr.cntN F j : Int) ∧ j ≤ 40 ∧ Hid (RT w wr b g F (Tr.cnt F))) (fun _ n _ _ _ _ _ _ _ => 40 - (intOf n).toNat)
          case atStart => exact ⟨0, rfl, rfl, by omega, R1⟩
          case round =>
            clear R1
            obtain ⟨n, rfl, rfl, hn, R⟩ := hrel
            by_cases hlt : n < 40
            · have hltI : (n : Int) < 40 := by omega
              have HC : Hid (Tr.cntN F n ≤ n) := Hid.intro (Tr.cntN_le F n)
              have HC2 : Hid (Tr.cntN F (n + 1) = Tr.cntN F n + (if (F.nd n).kind = 0 then 0 else 1)) := Hid.intro rfl
              by_cases k0 : (F.nd n).kind = 0
              · have e0 : Tr.nodeE F (n : Int) = 2 := by rw [Tr.nodeE_some hlt, if_pos k0]
                have eo : ofA F (n : Int) = #[.int .i64 0, .int .i64 0, .int .i64 0, .int .i64 0] := by unfold ofA; rw [if_neg (by rw [e0]; decide)]
                have EE := Hid.intro (And.intro e0 eo)
                have NX : Hid (Tr.cntN F (n + 1) = Tr.cntN F n) := Hid.intro (by rw [HC2.out, if_pos k0]; rfl)
                have Z0 := HO.out.none k0
                clear e0 eo k0 HC HC2
                go_wp2_with fail
                refine (tof_any b (n : Int) F _ R.out.2.1).mono ?_
                rintro e W4 ⟨rfl, b4⟩
                have R5 := Hid.intro (R.out.below b4)
                rw [EE.out.1, EE.out.2, errV_ne (by decide)]
                clear b4 R
                go_upto_region 33 with fail
                refine wp_gen (fun W' => RT w W' b g F (Tr.cnt F)) (R5.out.below ((Below.refl _ _).alloc (Nat.le_refl _) _)) ?_
                intro W5 h5
                have R6 := Hid.intro h5
                have c0 : W5.cell? ⟨g, n, none⟩ = some (.int .i64 0) := by
                  have := h5.2.2.1.cell n hlt
                  rw [Z0] at this
                  exact this
                clear h5 R5
                generalize W4.heap.size = c1 at *
                generalize Tr.cntN F n = cn at *
                go_wp2_with fail
                go_roundw
                case rel => exact ⟨n + 1, by go_num, by rw [NX.out], by omega, R6⟩
                case measure => simp [intOf]; omega
              · have e0 : Tr.nodeE F (n : Int) = 0 := by rw [Tr.nodeE_some hlt, if_neg k0]
                have eo : ofA F (n : Int) = #[.int .i64 ((F.nd n).kind : Int), .int .i64 ((F.nd n).links : Int), .int .i64 ((F.nd n).held : Int), .int .i64 ((F.nd n).size : Int)] := by unfold ofA; rw [if_pos e0, Int.toNat_natCast]
                have NX : Hid (Tr.cntN F (n + 1) = Tr.cntN F n + 1) := Hid.intro (by rw [HC2.out, if_neg k0])
                have lk := Hid.intro (HO.out.lk n hlt k0)
                have al := HO.out.al n hlt k0
                have ll := HO.out.links_lt n hlt k0
                have hh := HH.out.1 n hlt
                have hk := HH.out.2
                have kle := HO.out.kd n hlt
                have K0 := Hid.intro k0
                obtain ⟨kd, hkd⟩ : ∃ kd : Int, ((F.nd n).kind : Int) = kd := ⟨_, rfl⟩
                rw [hkd] at eo
                have HKD := Hid.intro hkd
                clear HC2 hkd k0 kle
                go_wp2_with fail
                refine (tof_any b (n : Int) F _ R.out.2.1).mono ?_
                rintro e W4 ⟨rfl, b4⟩
                have R5 := Hid.intro (R.out.below b4)
                rw [e0, eo, errV_zero]
                clear b4 R e0 eo
                generalize (F.nd n).size = x3
                generalize (F.nd n).held = x2 at *
                generalize (F.nd n).links = x1 at *
                go_upto_region 33 with fail
                refine wp_gen (fun W' => RT w W' b g F (Tr.cnt F) ∧ W'.heap[W4.heap.size]? = some (.cells #[.int .i64 kd, .int .i64 (x1 : Int), .int .i64 (x2 : Int), .int .i64 (x3 : Int)] 99 (0, 0))) ⟨R5.out.below ((Below.refl _ _).alloc (Nat.le_refl _) _), heap_alloc_new W4 _⟩ ?_
                rintro W5 ⟨h5, x5⟩
                have R6 := Hid.intro h5
                have c0 : W5.cell? ⟨g, n, none⟩ = some (.int .i64 (x1 : Int)) := by
                  have := h5.2.2.1.cell n hlt
                  rw [← lk.out] at this
                  exact this
                generalize W4.heap.size = c1 at *
                have q0 : W5.cell? ⟨c1, 0, none⟩ = some (.int .i64 kd) := by rw [cell_blk x5]; rfl
                have q1 : W5.cell? ⟨c1, 1, none⟩ = some (.int .i64 (x1 : Int)) := by rw [cell_blk x5]; rfl
                have q2 : W5.cell? ⟨c1, 2, none⟩ = some (.int .i64 (x2 : Int)) := by rw [cell_blk x5]; rfl
                have hw1 : IntKind.i64.wrap ((Tr.cntN F n : Int) + 1) = (Tr.cntN F n : Int) + 1 := IntWalk.i64_in _ ⟨by omega, by have := HC.out; omega⟩
                have hw : IntKind.i64.wrap ((x1 : Int) + (x2 : Int)) = (x1 : Int) + (x2 : Int) := IntWalk.i64_in _ ⟨by omega, by omega⟩
                have nz : (((x1 : Int) + (x2 : Int)) == 0) = false := by simp; omega
                have R7 : Hid (∀ nq, RT w (W5.drewN nq) b g F (Tr.cnt F) ∧ (W5.drewN nq).cell? ⟨c1, 0, none⟩ = some (.int .i64 kd)) := Hid.intro (fun nq => ⟨h5.below ⟨rfl, rfl, rfl, Nat.le_refl _, fun _ _ => rfl⟩, q0⟩)
                clear h5 R5 R6 x5 lk al ll hh hk q0
                generalize Tr.cntN F n = cn at *
                go_upto_region 37 with fail
                go_big_quiet (fail)
                obtain ⟨W6, hW6⟩ : ∃ W6, W5.drewN nq = W6 := ⟨_, rfl⟩
                have R8 : Hid (RT w W6 b g F (Tr.cnt F)) := Hid.intro (by rw [← hW6]; exact (R7.out nq).1)
                have q0 : W6.cell? ⟨c1, 0, none⟩ = some (.int .i64 kd) := by rw [← hW6]; exact (R7.out nq).2
                rw [hW6]
                clear hW6 R7 c0 q1 q2 hw1 hw nz
                by_cases kd2 : kd = 2
                · subst kd2
                  have q6 : W6.cell? ⟨c1, 0, none⟩ = some (.int .i64 2) := q0
                  clear q0
                  have kk2 : (F.nd n).kind = 2 := by have := HKD.out; omega
                  obtain ⟨e, e40, eu, el⟩ := (HO.out.en n hlt kk2).within
                  have WY := Hid.intro (HO.out.way hlt kk2)
                  have EL := Hid.intro (And.intro eu el)
                  clear eu el kk2
                  go_wp2_with fail
                  go_loopw [25, 26, 27, 28] (fun at' kk _ _ wr => ∃ q : Nat, kk = .int .i64 q ∧ at' = .int .i64 (Tr.upI F n q : Int) ∧ q ≤ e ∧ Hid (RT w wr b g F (Tr.cnt F) ∧ wr.cell? ⟨c1, 0, none⟩ = some (.int .i64 2))) (fun _ kk _ _ _ => e - (intOf kk).toNat)
                  case atStart => exact ⟨0, rfl, rfl, by omega, Hid.intro ⟨R8.out, q6⟩⟩
                  case round =>
                    obtain ⟨q, rfl, rfl, hq, hwr⟩ := hrel
                    clear R8 q6
                    have R8 := Hid.intro hwr.out.1
                    have q6 := hwr.out.2
                    have q40 : decide ((40 : Int) < (q : Int)) = false := decide_eq_false (by omega)
                    have q40' : ¬ (40 : Int) < (q : Int) := by omega
                    obtain ⟨a40, a2⟩ := WY.out q
                    have i2 := (Tr.isE_two a40).2 a2
                    have un : Tr.upN F (Tr.upI F n q : Int) = Tr.upI F n (q + 1) := by
                      unfold Tr.upN
                      rw [if_pos i2, Int.toNat_natCast]
                      rfl
                    have II := Hid.intro (And.intro i2 un)
                    clear i2 un a2
                    by_cases qe : q = e
                    · subst qe
                      have ue : Tr.upI F n (q + 1) = Tr.upI F n q := EL.out.1
                      go_wp2_with fail
                      refine (tup_any b (Tr.upI F n q : Int) F _ R8.out.2.1).mono ?_
                      rintro e W7 ⟨rfl, hW7⟩
                      subst W7
                      rw [II.out.1, II.out.2, errV_zero, ue]
                      go_wp2_with fail
                      go_roundw
                      case rel => exact ⟨n + 1, by go_num, by rw [NX.out]; go_num, by omega, R8⟩
                      case measure => simp [intOf]; omega
                    · have ue : Tr.upI F n (q + 1) ≠ Tr.upI F n q := EL.out.2 q (by omega)
                      have QE := Hid.intro qe
                      clear qe
                      go_wp2_with fail
                      refine (tup_any b (Tr.upI F n q : Int) F _ R8.out.2.1).mono ?_
                      rintro e W7 ⟨rfl, hW7⟩
                      subst W7
                      rw [II.out.1, II.out.2, errV_zero]
                      obtain ⟨u1, hu1⟩ : ∃ u1, Tr.upI F n (q + 1) = u1 := ⟨_, rfl⟩
                      rw [hu1] at ue ⊢
                      have N2 := Hid.intro hu1
                      clear hu1 II a40
                      generalize Tr.upI F n q = u0 at ue ⊢
                      have ueI : ((u1 : Int) == (u0 : Int)) = false := by simp; omega
                      have ueJ : ¬ (u1 : Int) = (u0 : Int) := by omega
                      go_wp2_with fail
                      go_roundw
                      case rel => exact ⟨q + 1, by go_num, by rw [N2.out], by have := QE.out; omega, hwr⟩
                      case measure => have := QE.out; simp [intOf]; omega
                · have kd2I : (kd == 2) = false := by simpa using kd2
                  have kd2J : ¬ kd = 2 := kd2
                  clear kd2
                  go_wp2_with fail
                  go_loopw [25, 26, 27, 28] (fun _ _ _ _ wr => wr = W6) (fun _ _ _ _ _ => 0)
                  case atStart => rfl
                  case round =>
                    subst hrel
                    go_wp2_with fail
                    go_roundw
                    case rel => exact ⟨n + 1, by go_num, by rw [NX.out]; go_num, by omega, R8⟩
                    case measure => simp [intOf]; omega
            · have hltI : ¬ (n : Int) < 40 := by omega
              obtain rfl : n = 40 := by omega
              go_wp2_with fail
              refine (tnodes_any b F _ R.out.2.1).mono ?_
              rintro e W7 ⟨rfl, hW7⟩
              subst W7
              generalize Tr.cntN F 40 = cn
              go_wp2_with fail
              go_ret
              exact ⟨rfl, R.out.1⟩
end Go.Proofs.Ytfgnhldnmbfnkab

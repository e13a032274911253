/- The document's own pipes: Make, Turn, Read. -/
import Derived.Test.YtmneolabgajhmaaGreatQa
namespace Go.Proofs.YtmneolabgajhmaaGreat
open Go.RowKit
open Pp (Pi)

theorem Pp.frm_drewN (b : Nat) (w : World) (q : Nat) : Frm b w (w.drewN q) := (Frm.refl b w).drewN q
section
variable {w : World} {c : Nat} {S : Nat → Pi}
theorem QAt.setTwo (h : QAt w c S) (n : Nat) (hn : n < 8) (r u : Nat) : QAt (w.setCells c (8 + n * 2) [.int .i64 (r : Int), .int .i64 (u : Int)]) c (Pp.put S n ⟨(S n).tx, r, u⟩) := by
  have k := (h.setT n hn false r).setT n hn true u
  rw [Pp.put_same, Pp.put_put] at k
  exact k
theorem QAt.there2 (h : QAt w c S) (n : Nat) (hn : n < 8) (r u : Int) : w.there c (8 + n * 2) (#[Value.int .i64 r, Value.int .i64 u] : Array Value).size := fun j hj => by
  have hj : j < 2 := hj
  refine ⟨?_, h.frozen _⟩
  match j, hj with
  | 0, _ => show (w.cell? ⟨c, 8 + n * 2, none⟩).isSome = true; rw [h.reads n hn]; rfl
  | 1, _ => rw [h.writes n hn]; rfl
end
theorem Pp.info_two (r u : Int) : (Tryz.prog.info? 50).map (·.size) = some (#[Value.int .i64 r, Value.int .i64 u] : Array Value).size := by
  show _ = some 2
  kernel_rfl
theorem Pp.two_one (r u : Int) : (#[Value.int .i64 r, Value.int .i64 u] : Array Value).all (·.oneCell') = true := by simp [Value.oneCell']
set_option maxRecDepth 100000 in
set_option maxHeartbeats 1000000 in
theorem qmake_any (c : Nat) (S : Nat → Pi) (w : World) (h : QAt w c S) (hs : Pp.Sm S) (hz : Pp.Zr S) :
    Calls Tryz.prog 90 #[.pointer (some ⟨c, 0, none⟩)] w fun e w' => ∃ (n : Nat) (E : Int), e = .returned (.tuple #[.int .i64 (n : Int), .int .i64 E]) ∧ Pp.FreeTo S n E ∧ QAt w' c (Pp.makF S n E) ∧ Frm c w w' := by
  have HF := Hid.intro h
  have HS := Hid.intro hs
  have HZ := Hid.intro hz
  clear h hs hz
  go_enter Tryz.func90, Tryz.ntmps90
  go_wp2_with fail
  go_loopw [4] (fun i wr => ∃ (n : Nat), i = .int .i64 n ∧ n ≤ 8 ∧ Hid (∀ m, m < n → Pp.thr (S m) = true) ∧ ∃ q, wr = w.drewN q) (fun i _ => 8 - (intOf i).toNat)
  case atStart => exact ⟨0, rfl, by omega, fun m hm => by omega, 0, rfl⟩
  case round =>
    obtain ⟨n, rfl, hn, HN, q, hwr⟩ := hrel
    subst wr
    by_cases hlt : n < 8
    · have hltI : (n : Int) < 8 := by omega
      have H := HF.out.drewN q
      have c1 := H.reads n hlt
      have c2 := H.writes n hlt
      have hb := HS.out n hlt
      have TT := Hid.intro (Pp.thr_sum (S n))
      generalize (S n).reads = r at *
      generalize (S n).writes = u at *
      have hw : IntKind.i64.wrap ((r : Int) + (u : Int)) = (r : Int) + (u : Int) := IntWalk.i64_in _ ⟨by omega, by omega⟩
      obtain ⟨W, hW⟩ : ∃ W, w.drewN q = W := ⟨_, rfl⟩
      have HW := Hid.intro hW
      have HA := Hid.intro H
      rw [hW] at c1 c2 HA ⊢
      clear hW H
      by_cases s0 : r + u = 0
      · have T2 : Hid (Pp.thr (S n) = false) := Hid.intro (by rw [TT.out, decide_eq_true s0]; rfl)
        have s1 : ((r : Int) + (u : Int) == 0) = true := by simp; omega
        have FT : Hid (Pp.FreeTo S n 0) := Hid.intro (.inl ⟨rfl, hlt, T2.out, HN.out⟩)
        clear hb s0 TT
        go_upto_region 4 with fail
        go_big_quiet (fail)
        have TH := Hid.intro ((HA.out.drewN nq).there2 n hlt 1 1)
        have IS := Hid.intro (Pp.info_two 1 1)
        have H1 := Hid.intro (Pp.two_one 1 1)
        have FIN : Hid (QAt ((W.drewN nq).setCells c (8 + n * 2) [.int .i64 1, .int .i64 1]) c (Pp.makF S n 0) ∧ Frm c w ((W.drewN nq).setCells c (8 + n * 2) [.int .i64 1, .int .i64 1])) := Hid.intro (by
          have k := (HA.out.drewN nq).setTwo n hlt 1 1
          rw [HZ.out n hlt T2.out] at k
          refine ⟨k, Pp.frm_setCells _ _ ?_⟩
          rw [← HW.out, World.drewN_drewN]
          exact Pp.frm_drewN c w _)
        generalize W.drewN nq = W2 at *
        clear c1 c2
        go_wp2_with (refine wpList_store_mid rfl 50 _ _ rfl c (8 + n * 2) #[.int .i64 1, .int .i64 1] rfl rfl TH.out IS.out H1.out ?_)
        go_ret2
        exact ⟨n, 0, rfl, FT.out, FIN.out⟩
      · have T2 : Hid (Pp.thr (S n) = true) := Hid.intro (by rw [TT.out, decide_eq_false s0]; rfl)
        have s1 : ((r : Int) + (u : Int) == 0) = false := by simp; omega
        have HN2 : Hid (∀ m, m < n + 1 → Pp.thr (S m) = true) := Hid.intro (fun m hm => by
          by_cases d : m = n
          · subst d; exact T2.out
          · exact HN.out m (by omega))
        clear hb s0 TT
        go_upto_region 4 with fail
        go_big_quiet (fail)
        go_wp2_with fail
        go_roundw
        case rel => exact ⟨n + 1, by go_num, by omega, HN2, q + nq, by rw [← HW.out, World.drewN_drewN]⟩
        case measure => simp [intOf]; omega
    · have hltI : ¬ (n : Int) < 8 := by omega
      obtain rfl : n = 8 := by omega
      have FT : Hid (Pp.FreeTo S 0 4) := Hid.intro (.inr ⟨rfl, rfl, HN.out⟩)
      have FF : Hid (Pp.makF S 0 4 = S) := Hid.intro (if_neg (by decide))
      go_wp2_with fail
      go_ret2
      exact ⟨0, 4, rfl, FT.out, by rw [FF.out]; exact HF.out.drewN q, Pp.frm_drewN c w q⟩
/-- Once more, or once less, open. -/
def Pp.turF (S : Nat → Pi) (z : Int) (wr : Bool) (k : Nat) : Nat → Pi := if Pp.opE S z wr = 0 then Pp.put S z.toNat (if Pp.thr (Pp.setT (S z.toNat) wr k) then Pp.setT (S z.toNat) wr k else Pi.no) else S
theorem Pp.tur_sha (S : Nat → Pi) (z : Int) (wr : Bool) : Pp.turF S z wr (Pp.tim (S z.toNat) wr + 1) = Pp.shaF S z wr := by
  unfold Pp.turF Pp.shaF
  have : Pp.thr (Pp.setT (S z.toNat) wr (Pp.tim (S z.toNat) wr + 1)) = true := by
    unfold Pp.thr Pp.setT
    cases wr <;> simp
  rw [this, if_pos rfl]
theorem Pp.tur_dro (S : Nat → Pi) (z : Int) (wr : Bool) : Pp.turF S z wr (Pp.tim (S z.toNat) wr - 1) = Pp.droF S z wr := rfl
set_option maxRecDepth 100000 in
set_option maxHeartbeats 2000000 in
theorem qturn_any (c : Nat) (z : Int) (wr : Bool) (by' : Int) (k : Nat) (S : Nat → Pi) (w : World) (h : QAt w c S) (hs : Pp.Sm S) (hk0 : Pp.opE S z wr = 0 → k < 2 ^ 61) (hy : Pp.opE S z wr = 0 → (Pp.tim (S z.toNat) wr : Int) + by' = k) :
    Calls Tryz.prog 92 #[.pointer (some ⟨c, 0, none⟩), .int .i64 z, .bool wr, .int .i64 by'] w fun e w' => e = .returned (.int .i64 (Pp.opE S z wr)) ∧ QAt w' c (Pp.turF S z wr k) ∧ Frm c w w' := by
  have HF := Hid.intro h
  have HS := Hid.intro hs
  by_cases d : Pp.pipE S z = 0
  · obtain ⟨n, rfl, n8, _⟩ := Pp.pipE_ok d
    have n8i : (n : Int) < 8 := by omega
    have EP : Hid (Pp.pipE S (n : Int) = 0) := Hid.intro d
    have EO : Pp.opE S (n : Int) wr = if Pp.tim (S n) wr = 0 then 8 else 0 := by unfold Pp.opE; rw [if_neg (fun e => e d), Int.toNat_natCast]
    by_cases t0 : Pp.tim (S n) wr = 0
    · have e8 : Pp.opE S (n : Int) wr = 8 := by rw [EO, if_pos t0]
      have FIN : Hid (Pp.opE S (n : Int) wr = 8 ∧ Pp.turF S (n : Int) wr k = S) := Hid.intro ⟨e8, by unfold Pp.turF; rw [e8, if_neg (by decide)]⟩
      have CT : Hid (∀ q, (w.drewN q).cell? ⟨c, 8 + n * 2 + (if wr then 1 else 0), none⟩ = some (.int .i64 0)) := Hid.intro (fun q => by rw [(h.drewN q).tim n n8 wr, t0]; rfl)
      clear h hs d EO t0 e8 hy hk0
      go_enter Tryz.func92, Tryz.ntmps92
      go_wp2_with fail
      refine (qis_any c n S _ HF.out HS.out).mono ?_
      rintro e w1 ⟨rfl, q, hw1⟩
      subst w1
      rw [EP.out]
      have ct := CT.out q
      have HD := Hid.intro (HF.out.drewN q)
      have FD := Hid.intro (Pp.frm_drewN c w q)
      clear CT
      generalize w.drewN q = W at *
      cases wr
      · have ct' : W.cell? ⟨c, 8 + n * 2, none⟩ = some (.int .i64 0) := ct
        clear ct
        go_wp2_with fail
        go_ret
        rw [FIN.out.1, FIN.out.2]
        exact ⟨rfl, HD.out, FD.out⟩
      · have ct' : W.cell? ⟨c, 8 + n * 2 + 1, none⟩ = some (.int .i64 0) := ct
        clear ct
        go_wp2_with fail
        go_ret
        rw [FIN.out.1, FIN.out.2]
        exact ⟨rfl, HD.out, FD.out⟩
    · have e0 : Pp.opE S (n : Int) wr = 0 := by rw [EO, if_neg t0]
      have hkk := hy e0
      have hk := hk0 e0
      rw [Int.toNat_natCast] at hkk
      have ET : Pp.turF S (n : Int) wr k = Pp.put S n (if Pp.thr (Pp.setT (S n) wr k) then Pp.setT (S n) wr k else Pi.no) := by unfold Pp.turF; rw [if_pos e0, Int.toNat_natCast]
      have hb := hs n n8
      clear h hs d EO hy hk0
      have FIN : Hid (Pp.opE S (n : Int) wr = 0) := Hid.intro e0
      go_enter Tryz.func92, Tryz.ntmps92
      go_wp2_with fail
      refine (qis_any c n S _ HF.out HS.out).mono ?_
      rintro e w1 ⟨rfl, q, hw1⟩
      subst w1
      rw [EP.out]
      have HD := Hid.intro (HF.out.drewN q)
      have FD := Hid.intro (Pp.frm_drewN c w q)
      generalize w.drewN q = W at *
      cases wr
      · have ct : W.cell? ⟨c, 8 + n * 2, none⟩ = some (.int .i64 (Pp.tim (S n) false : Int)) := HD.out.tim n n8 false
        have S1 : Hid (QAt (W.setCell ⟨c, 8 + n * 2, none⟩ (.int .i64 (k : Int))) c (Pp.put S n (Pp.setT (S n) false k))) := Hid.intro (HD.out.setT n n8 false k)
        have F1 : Hid (Frm c w (W.setCell ⟨c, 8 + n * 2, none⟩ (.int .i64 (k : Int)))) := Hid.intro (FD.out.setCell _ _)
        have cf := HD.out.frozen
        have cfd := HD.out.drew.frozen
        have tk : Pp.tim (S n) false < 2 ^ 60 := hb.1
        have hw : IntKind.i64.wrap ((Pp.tim (S n) false : Int) + by') = (k : Int) := (IntWalk.i64_in _ ⟨by omega, by omega⟩).trans hkk
        have t1 : ((Pp.tim (S n) false : Int) == 0) = false := by simp; omega
        have TS := Hid.intro (Pp.thr_sum (Pp.setT (S n) false k))
        have RR : Hid ((Pp.setT (S n) false k).reads + (Pp.setT (S n) false k).writes = k + (S n).writes) := Hid.intro rfl
        have rb : k < 2 ^ 61 := by omega
        have ub : (S n).writes < 2 ^ 61 := by omega
        clear hkk t0 hb e0 tk
        generalize Pp.tim (S n) false = tt at *
        go_upto_region 9 with fail
        go_region
        have X1 := Hid.intro S1.out.drew
        have X2 := Hid.intro F1.out.drew
        generalize (W.setCell ⟨c, 8 + n * 2, none⟩ (.int .i64 (k : Int))).drew = V at *
        have d1 := X1.out.reads n n8
        have d2 := X1.out.writes n n8
        rw [Pp.put_same] at d1 d2
        have d1' : V.cell? ⟨c, 8 + n * 2, none⟩ = some (.int .i64 (k : Int)) := d1
        have d2' : V.cell? ⟨c, 8 + n * 2 + 1, none⟩ = some (.int .i64 ((S n).writes : Int)) := d2
        clear d1 d2
        clear ct S1 F1 cf cfd hw t1
        have hw2 : IntKind.i64.wrap ((k : Int) + ((S n).writes : Int)) = (k : Int) + ((S n).writes : Int) := IntWalk.i64_in _ ⟨by omega, by omega⟩
        by_cases s0 : k + (S n).writes = 0
        · have s1 : ((k : Int) + ((S n).writes : Int) == 0) = true := by simp; omega
          have TZ : Hid (Pp.turF S (n : Int) false k = Pp.put S n Pi.no) := Hid.intro (by rw [ET, TS.out, RR.out, decide_eq_true s0]; rfl)
          have XT : Pp.setT (S n) false k = ⟨(S n).tx, 0, 0⟩ := by
            have a1 : k = 0 := by omega
            have a2 : (S n).writes = 0 := by omega
            show (⟨(S n).tx, k, (S n).writes⟩ : Pi) = _
            rw [a1, a2]
          rw [XT] at X1
          clear s0 ET TS RR rb ub XT
          generalize (S n).writes = rr at *
          go_upto_region 10 with fail
          go_big_quiet (fail)
          have Y1 := Hid.intro ((X1.out.drewN nq).setTx n n8 ⟨#[]⟩)
          rw [Pp.put_same, Pp.put_put] at Y1
          have Y2 := Hid.intro ((X2.out.drewN nq).setCell n (.string ⟨#[]⟩))
          have cg := (X1.out.drewN nq).frozen
          have cx := (X1.out.drewN nq).tx n n8
          generalize V.drewN nq = V2 at *
          clear d1' d2'
          go_wp2_with fail
          go_ret
          rw [FIN.out, TZ.out]
          exact ⟨rfl, Y1.out, Y2.out⟩
        · have s1 : ((k : Int) + ((S n).writes : Int) == 0) = false := by simp; omega
          have TZ : Hid (Pp.turF S (n : Int) false k = Pp.put S n (Pp.setT (S n) false k)) := Hid.intro (by rw [ET, TS.out, RR.out, decide_eq_false s0]; rfl)
          clear s0 ET TS RR rb ub
          generalize (S n).writes = rr at d2' hw2 s1
          go_upto_region 10 with fail
          go_big_quiet (fail)
          go_wp2_with fail
          go_ret
          rw [FIN.out, TZ.out]
          exact ⟨rfl, X1.out.drewN nq, X2.out.drewN nq⟩
      · have ct : W.cell? ⟨c, 8 + n * 2 + 1, none⟩ = some (.int .i64 (Pp.tim (S n) true : Int)) := HD.out.tim n n8 true
        have S1 : Hid (QAt (W.setCell ⟨c, 8 + n * 2 + 1, none⟩ (.int .i64 (k : Int))) c (Pp.put S n (Pp.setT (S n) true k))) := Hid.intro (HD.out.setT n n8 true k)
        have F1 : Hid (Frm c w (W.setCell ⟨c, 8 + n * 2 + 1, none⟩ (.int .i64 (k : Int)))) := Hid.intro (FD.out.setCell _ _)
        have cf := HD.out.frozen
        have cfd := HD.out.drew.frozen
        have tk : Pp.tim (S n) true < 2 ^ 60 := hb.2
        have hw : IntKind.i64.wrap ((Pp.tim (S n) true : Int) + by') = (k : Int) := (IntWalk.i64_in _ ⟨by omega, by omega⟩).trans hkk
        have t1 : ((Pp.tim (S n) true : Int) == 0) = false := by simp; omega
        have TS := Hid.intro (Pp.thr_sum (Pp.setT (S n) true k))
        have RR : Hid ((Pp.setT (S n) true k).reads + (Pp.setT (S n) true k).writes = (S n).reads + k) := Hid.intro rfl
        have rb : (S n).reads < 2 ^ 61 := by omega
        have ub : k < 2 ^ 61 := by omega
        clear hkk t0 hb e0 tk
        generalize Pp.tim (S n) true = tt at *
        go_upto_region 9 with fail
        go_region
        have X1 := Hid.intro S1.out.drew
        have X2 := Hid.intro F1.out.drew
        generalize (W.setCell ⟨c, 8 + n * 2 + 1, none⟩ (.int .i64 (k : Int))).drew = V at *
        have d1 := X1.out.reads n n8
        have d2 := X1.out.writes n n8
        rw [Pp.put_same] at d1 d2
        have d1' : V.cell? ⟨c, 8 + n * 2, none⟩ = some (.int .i64 ((S n).reads : Int)) := d1
        have d2' : V.cell? ⟨c, 8 + n * 2 + 1, none⟩ = some (.int .i64 (k : Int)) := d2
        clear d1 d2
        clear ct S1 F1 cf cfd hw t1
        have hw2 : IntKind.i64.wrap (((S n).reads : Int) + (k : Int)) = ((S n).reads : Int) + (k : Int) := IntWalk.i64_in _ ⟨by omega, by omega⟩
        by_cases s0 : (S n).reads + k = 0
        · have s1 : (((S n).reads : Int) + (k : Int) == 0) = true := by simp; omega
          have TZ : Hid (Pp.turF S (n : Int) true k = Pp.put S n Pi.no) := Hid.intro (by rw [ET, TS.out, RR.out, decide_eq_true s0]; rfl)
          have XT : Pp.setT (S n) true k = ⟨(S n).tx, 0, 0⟩ := by
            have a1 : (S n).reads = 0 := by omega
            have a2 : k = 0 := by omega
            show (⟨(S n).tx, (S n).reads, k⟩ : Pi) = _
            rw [a1, a2]
          rw [XT] at X1
          clear s0 ET TS RR rb ub XT
          generalize (S n).reads = rr at *
          go_upto_region 10 with fail
          go_big_quiet (fail)
          have Y1 := Hid.intro ((X1.out.drewN nq).setTx n n8 ⟨#[]⟩)
          rw [Pp.put_same, Pp.put_put] at Y1
          have Y2 := Hid.intro ((X2.out.drewN nq).setCell n (.string ⟨#[]⟩))
          have cg := (X1.out.drewN nq).frozen
          have cx := (X1.out.drewN nq).tx n n8
          generalize V.drewN nq = V2 at *
          clear d1' d2'
          go_wp2_with fail
          go_ret
          rw [FIN.out, TZ.out]
          exact ⟨rfl, Y1.out, Y2.out⟩
        · have s1 : (((S n).reads : Int) + (k : Int) == 0) = false := by simp; omega
          have TZ : Hid (Pp.turF S (n : Int) true k = Pp.put S n (Pp.setT (S n) true k)) := Hid.intro (by rw [ET, TS.out, RR.out, decide_eq_false s0]; rfl)
          clear s0 ET TS RR rb ub
          generalize (S n).reads = rr at d1' hw2 s1
          go_upto_region 10 with fail
          go_big_quiet (fail)
          go_wp2_with fail
          go_ret
          rw [FIN.out, TZ.out]
          exact ⟨rfl, X1.out.drewN nq, X2.out.drewN nq⟩
  · have E2 : Hid (Pp.opE S z wr = Pp.pipE S z ∧ Pp.turF S z wr k = S) := Hid.intro (by
      have e : Pp.opE S z wr = Pp.pipE S z := if_pos d
      exact ⟨e, by unfold Pp.turF; rw [e, if_neg d]⟩)
    have p0 : 0 < Pp.pipE S z := by have := Pp.pipE_nn S z; omega
    clear h hs d hy hk0
    go_enter Tryz.func92, Tryz.ntmps92
    go_wp2_with fail
    refine (qis_any c z S _ HF.out HS.out).mono ?_
    rintro e w1 ⟨rfl, q, hw1⟩
    subst w1
    go_wp2_with fail
    go_ret
    rw [E2.out.1, E2.out.2]
    exact ⟨rfl, HF.out.drewN q, Pp.frm_drewN c w q⟩
end Go.Proofs.YtmneolabgajhmaaGreat

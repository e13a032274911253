/- The document's own pipes: Read, Write. -/
import Derived.Test.YtmneolabgajhmaaGreatQb
namespace Go.Proofs.YtmneolabgajhmaaGreat
open Go.RowKit
open Pp (Pi)

theorem Pp.toL_no {t : ByteArray} (h : t.size = 0) : (t.toList == []) = true := by
  have : t = ⟨#[]⟩ := by
    apply ByteArray.ext
    exact Array.eq_empty_of_size_eq_zero h
  rw [this, ByteArray.toList_eq]
  rfl
theorem Pp.toL_yes {s : ByteArray} (h : s.size ≠ 0) : (s.toList == []) = false := by
  rw [beq_eq_false_iff_ne]
  intro e
  rw [ByteArray.toList_eq] at e
  apply h
  show s.data.size = 0
  rw [← Array.length_toList, e]
  rfl
set_option maxRecDepth 100000 in
set_option maxHeartbeats 2000000 in
theorem qread_any (c : Nat) (z m : Int) (S : Nat → Pi) (w : World) (h : QAt w c S) (hs : Pp.Sm S) (h12 : ∀ n, n < 8 → (S n).tx.size ≤ 12) :
    Calls Tryz.prog 94 #[.pointer (some ⟨c, 0, none⟩), .int .i64 z, .int .i64 m] w fun e w' => e = .returned (.tuple #[.string (Pp.reaT S z m), .int .i64 (Pp.reaE S z m)]) ∧ QAt w' c (Pp.reaF S z m) ∧ Frm c w w' := by
  have HF := Hid.intro h
  have HS := Hid.intro hs
  have no : ∀ E, E ≠ 0 → Pp.reaE S z m = E → Pp.reaT S z m = ⟨#[]⟩ ∧ Pp.reaF S z m = S := fun E e0 e => ⟨by unfold Pp.reaT; rw [e, if_neg e0], by unfold Pp.reaF; rw [e, if_neg e0]⟩
  by_cases d : Pp.pipE S z = 0
  · obtain ⟨n, rfl, n8, _⟩ := Pp.pipE_ok d
    have n8i : (n : Int) < 8 := by omega
    have EP : Hid (Pp.pipE S (n : Int) = 0) := Hid.intro d
    have EO : Pp.opE S (n : Int) false = if (S n).reads = 0 then 8 else 0 := by unfold Pp.opE; rw [if_neg (fun e => e d), Int.toNat_natCast]; rfl
    have CR := Hid.intro (fun q => (h.drewN q).reads n n8)
    have CW := Hid.intro (fun q => (h.drewN q).writes n n8)
    have CT := Hid.intro (fun q => (h.drewN q).tx n n8)
    by_cases r0 : (S n).reads = 0
    · have e8 : Pp.reaE S (n : Int) m = 8 := by unfold Pp.reaE; rw [EO, if_pos r0, if_pos (by decide)]
      have FIN : Hid (Pp.reaE S (n : Int) m = 8 ∧ Pp.reaT S (n : Int) m = ⟨#[]⟩ ∧ Pp.reaF S (n : Int) m = S) := Hid.intro ⟨e8, no 8 (by decide) e8⟩
      rw [r0] at CR
      have CR' : Hid (∀ q, (w.drewN q).cell? ⟨c, 8 + n * 2, none⟩ = some (.int .i64 0)) := Hid.intro (fun q => CR.out q)
      clear h hs d EO r0 e8 no CR
      go_enter Tryz.func94, Tryz.ntmps94
      go_wp2_with fail
      refine (qis_any c n S _ HF.out HS.out).mono ?_
      rintro e w1 ⟨rfl, q, hw1⟩
      subst w1
      rw [EP.out]
      have cr := CR'.out q
      have HD := Hid.intro (HF.out.drewN q)
      have FD := Hid.intro (Pp.frm_drewN c w q)
      clear CR' CW CT
      generalize w.drewN q = W at *
      go_wp2_with fail
      go_ret2
      rw [FIN.out.1, FIN.out.2.1, FIN.out.2.2]
      exact ⟨rfl, HD.out, FD.out⟩
    · have EW : Pp.reaE S (n : Int) m = if m < 0 then 1 else if 0 < m ∧ (S n).tx.size = 0 ∧ 0 < (S n).writes then 13 else 0 := by unfold Pp.reaE; rw [EO, if_neg r0, if_neg (fun e => e rfl), Int.toNat_natCast]
      have r1 : (((S n).reads : Int) == 0) = false := by simp; omega
      by_cases m0 : m < 0
      · have e1 : Pp.reaE S (n : Int) m = 1 := by rw [EW, if_pos m0]
        have FIN : Hid (Pp.reaE S (n : Int) m = 1 ∧ Pp.reaT S (n : Int) m = ⟨#[]⟩ ∧ Pp.reaF S (n : Int) m = S) := Hid.intro ⟨e1, no 1 (by decide) e1⟩
        generalize (S n).reads = rr at *
        clear h hs d EO r0 e1 no EW
        go_enter Tryz.func94, Tryz.ntmps94
        go_wp2_with fail
        refine (qis_any c n S _ HF.out HS.out).mono ?_
        rintro e w1 ⟨rfl, q, hw1⟩
        subst w1
        rw [EP.out]
        have cr := CR.out q
        have HD := Hid.intro (HF.out.drewN q)
        have FD := Hid.intro (Pp.frm_drewN c w q)
        clear CR CW CT
        generalize w.drewN q = W at *
        go_wp2_with fail
        go_ret2
        rw [FIN.out.1, FIN.out.2.1, FIN.out.2.2]
        exact ⟨rfl, HD.out, FD.out⟩
      · by_cases ag : 0 < m ∧ (S n).tx.size = 0 ∧ 0 < (S n).writes
        · have e1 : Pp.reaE S (n : Int) m = 13 := by rw [EW, if_neg m0, if_pos ag]
          have FIN : Hid (Pp.reaE S (n : Int) m = 13 ∧ Pp.reaT S (n : Int) m = ⟨#[]⟩ ∧ Pp.reaF S (n : Int) m = S) := Hid.intro ⟨e1, no 13 (by decide) e1⟩
          obtain ⟨a1, a2, a3⟩ := ag
          have t0 := Pp.toL_no a2
          have a3i : (0 : Int) < ((S n).writes : Int) := by omega
          generalize (S n).reads = rr at *
          generalize (S n).writes = uu at *
          generalize (S n).tx = tx at *
          clear h hs d EO r0 e1 no EW a2 a3
          go_enter Tryz.func94, Tryz.ntmps94
          go_wp2_with fail
          refine (qis_any c n S _ HF.out HS.out).mono ?_
          rintro e w1 ⟨rfl, q, hw1⟩
          subst w1
          rw [EP.out]
          have cr := CR.out q
          have cw := CW.out q
          have ct := CT.out q
          have HD := Hid.intro (HF.out.drewN q)
          have FD := Hid.intro (Pp.frm_drewN c w q)
          clear CR CW CT
          generalize w.drewN q = W at *
          go_wp2_with fail
          go_ret2
          rw [FIN.out.1, FIN.out.2.1, FIN.out.2.2]
          exact ⟨rfl, HD.out, FD.out⟩
        · have e1 : Pp.reaE S (n : Int) m = 0 := by rw [EW, if_neg m0, if_neg ag]
          have z12 := h12 n n8
          obtain ⟨k, hk⟩ : ∃ k, min m.toNat (S n).tx.size = k := ⟨_, rfl⟩
          have FIN : Hid (Pp.reaE S (n : Int) m = 0 ∧ Pp.reaT S (n : Int) m = (S n).tx.extract 0 k) := Hid.intro ⟨e1, by unfold Pp.reaT; rw [if_pos e1, Int.toNat_natCast, hk]⟩
          have EF : Hid (Pp.reaF S (n : Int) m = Pp.put S n { S n with tx := (S n).tx.extract k (S n).tx.size }) := Hid.intro (by unfold Pp.reaF; rw [if_pos e1, Int.toNat_natCast, hk])
          have S1 : Hid (∀ V, QAt V c S → QAt (V.setCell ⟨c, n, none⟩ (.string ((S n).tx.extract k (S n).tx.size))) c (Pp.reaF S (n : Int) m)) := Hid.intro (fun V hV => by rw [EF.out]; exact hV.setTx n n8 _)
          have mk2 : (if ((S n).tx.size : Int) < m then ((S n).tx.size : Int) else m) = (k : Int) := by split <;> omega
          have mk3 : min m ((S n).tx.size : Int) = (k : Int) := by omega
          have kle : (k : Int) ≤ ((S n).tx.size : Int) := by omega
          have klen : k ≤ (S n).tx.size := by omega
          by_cases s0 : (S n).tx.size = 0
          · by_cases u0 : (S n).writes = 0
            · have t0 := Pp.toL_no s0
              have u1 : ¬ (0 : Int) < ((S n).writes : Int) := by omega
              clear s0 u0
              generalize (S n).reads = rr at *
              generalize (S n).writes = uu at *
              generalize (S n).tx = tx at *
              clear h hs d EO r0 e1 no EW ag hk EF
              go_enter Tryz.func94, Tryz.ntmps94
              go_wp2_with fail
              refine (qis_any c n S _ HF.out HS.out).mono ?_
              rintro e w1 ⟨rfl, q, hw1⟩
              subst w1
              rw [EP.out]
              have cr := CR.out q
              have cw := CW.out q
              have ct := CT.out q
              have HD := Hid.intro (HF.out.drewN q)
              have FD := Hid.intro (Pp.frm_drewN c w q)
              clear CR CW CT
              generalize w.drewN q = W at *
              have cf := HD.out.frozen
              have X1 := Hid.intro (S1.out _ HD.out)
              go_upto_region 12 with fail
              go_region
              go_wp2_with fail
              go_ret2
              rw [FIN.out.1, FIN.out.2]
              exact ⟨rfl, X1.out.drew, (FD.out.setCell _ _).drew⟩
            · have t0 := Pp.toL_no s0
              have u1 : (0 : Int) < ((S n).writes : Int) := by omega
              have m1 : ¬ 0 < m := by omega
              have mt : m.toNat = k := by omega
              clear s0 u0
              generalize (S n).reads = rr at *
              generalize (S n).writes = uu at *
              generalize (S n).tx = tx at *
              clear h hs d EO r0 e1 no EW ag hk EF
              go_enter Tryz.func94, Tryz.ntmps94
              go_wp2_with fail
              refine (qis_any c n S _ HF.out HS.out).mono ?_
              rintro e w1 ⟨rfl, q, hw1⟩
              subst w1
              rw [EP.out]
              have cr := CR.out q
              have cw := CW.out q
              have ct := CT.out q
              have HD := Hid.intro (HF.out.drewN q)
              have FD := Hid.intro (Pp.frm_drewN c w q)
              clear CR CW CT
              generalize w.drewN q = W at *
              have cf := HD.out.frozen
              have X1 := Hid.intro (S1.out _ HD.out)
              go_upto_region 12 with fail
              go_region
              go_wp2_with fail
              go_ret2
              rw [FIN.out.1, FIN.out.2]
              exact ⟨rfl, X1.out.drew, (FD.out.setCell _ _).drew⟩
          · have t0 := Pp.toL_yes s0
            clear s0
            generalize (S n).reads = rr at *
            generalize (S n).writes = uu at *
            generalize (S n).tx = tx at *
            clear h hs d EO r0 e1 no EW ag hk EF
            go_enter Tryz.func94, Tryz.ntmps94
            go_wp2_with fail
            refine (qis_any c n S _ HF.out HS.out).mono ?_
            rintro e w1 ⟨rfl, q, hw1⟩
            subst w1
            rw [EP.out]
            have cr := CR.out q
            have cw := CW.out q
            have ct := CT.out q
            have HD := Hid.intro (HF.out.drewN q)
            have FD := Hid.intro (Pp.frm_drewN c w q)
            clear CR CW CT
            generalize w.drewN q = W at *
            have cf := HD.out.frozen
            have X1 := Hid.intro (S1.out _ HD.out)
            go_upto_region 12 with fail
            go_region
            go_wp2_with fail
            go_ret2
            rw [FIN.out.1, FIN.out.2]
            exact ⟨rfl, X1.out.drew, (FD.out.setCell _ _).drew⟩
  · have E2 : Hid (Pp.reaE S z m = Pp.pipE S z ∧ Pp.reaT S z m = ⟨#[]⟩ ∧ Pp.reaF S z m = S) := Hid.intro (by
      have eo : Pp.opE S z false = Pp.pipE S z := if_pos d
      have e : Pp.reaE S z m = Pp.pipE S z := by unfold Pp.reaE; rw [eo, if_pos d]
      exact ⟨e, no _ d e⟩)
    have p0 : 0 < Pp.pipE S z := by have := Pp.pipE_nn S z; omega
    clear h hs d no h12
    go_enter Tryz.func94, Tryz.ntmps94
    go_wp2_with fail
    refine (qis_any c z S _ HF.out HS.out).mono ?_
    rintro e w1 ⟨rfl, q, hw1⟩
    subst w1
    go_wp2_with fail
    go_ret2
    rw [E2.out.1, E2.out.2.1, E2.out.2.2]
    exact ⟨rfl, HF.out.drewN q, Pp.frm_drewN c w q⟩
set_option maxRecDepth 100000 in
set_option maxHeartbeats 2000000 in
theorem qwrite_any (c : Nat) (z : Int) (s : ByteArray) (S : Nat → Pi) (w : World) (h : QAt w c S) (hs : Pp.Sm S) (h12 : ∀ n, n < 8 → (S n).tx.size ≤ 12) (sz : s.size < 2 ^ 60) :
    Calls Tryz.prog 95 #[.pointer (some ⟨c, 0, none⟩), .int .i64 z, .string s] w fun e w' => e = .returned (.tuple #[.int .i64 (Pp.wriK S z s : Int), .int .i64 (Pp.wriE S z s)]) ∧ QAt w' c (Pp.wriF S z s) ∧ Frm c w w' := by
  have HF := Hid.intro h
  have HS := Hid.intro hs
  have no : ∀ E, E ≠ 0 → Pp.wriE S z s = E → Pp.wriK S z s = 0 ∧ Pp.wriF S z s = S := fun E e0 e => ⟨by unfold Pp.wriK; rw [e, if_neg e0], by unfold Pp.wriF; rw [e, if_neg e0]⟩
  by_cases d : Pp.pipE S z = 0
  · obtain ⟨n, rfl, n8, _⟩ := Pp.pipE_ok d
    have n8i : (n : Int) < 8 := by omega
    have EP : Hid (Pp.pipE S (n : Int) = 0) := Hid.intro d
    have EO : Pp.opE S (n : Int) true = if (S n).writes = 0 then 8 else 0 := by unfold Pp.opE; rw [if_neg (fun e => e d), Int.toNat_natCast]; rfl
    have CR := Hid.intro (fun q => (h.drewN q).reads n n8)
    have CW := Hid.intro (fun q => (h.drewN q).writes n n8)
    by_cases u0 : (S n).writes = 0
    · have e8 : Pp.wriE S (n : Int) s = 8 := by unfold Pp.wriE; rw [EO, if_pos u0, if_pos (by decide)]
      have FIN : Hid (Pp.wriE S (n : Int) s = 8 ∧ Pp.wriK S (n : Int) s = 0 ∧ Pp.wriF S (n : Int) s = S) := Hid.intro ⟨e8, no 8 (by decide) e8⟩
      rw [u0] at CW
      have CW' : Hid (∀ q, (w.drewN q).cell? ⟨c, 8 + n * 2 + 1, none⟩ = some (.int .i64 0)) := Hid.intro (fun q => CW.out q)
      clear h hs d EO u0 e8 no CW
      go_enter Tryz.func95, Tryz.ntmps95
      go_wp2_with fail
      refine (qis_any c n S _ HF.out HS.out).mono ?_
      rintro e w1 ⟨rfl, q, hw1⟩
      subst w1
      rw [EP.out]
      have cr := CW'.out q
      have HD := Hid.intro (HF.out.drewN q)
      have FD := Hid.intro (Pp.frm_drewN c w q)
      clear CW' CR
      generalize w.drewN q = W at *
      go_wp2_with fail
      go_ret2
      rw [FIN.out.1, FIN.out.2.1, FIN.out.2.2]
      exact ⟨rfl, HD.out, FD.out⟩
    · have EW : Pp.wriE S (n : Int) s = if (S n).reads = 0 then 12 else if s.size ≠ 0 ∧ (S n).tx.size = 12 then 13 else 0 := by unfold Pp.wriE; rw [EO, if_neg u0, if_neg (fun e => e rfl), Int.toNat_natCast]
      have u1 : (((S n).writes : Int) == 0) = false := by simp; omega
      by_cases r0 : (S n).reads = 0
      · have e1 : Pp.wriE S (n : Int) s = 12 := by rw [EW, if_pos r0]
        have FIN : Hid (Pp.wriE S (n : Int) s = 12 ∧ Pp.wriK S (n : Int) s = 0 ∧ Pp.wriF S (n : Int) s = S) := Hid.intro ⟨e1, no 12 (by decide) e1⟩
        rw [r0] at CR
        have CR' : Hid (∀ q, (w.drewN q).cell? ⟨c, 8 + n * 2, none⟩ = some (.int .i64 0)) := Hid.intro (fun q => CR.out q)
        generalize (S n).writes = uu at *
        clear h hs d EO u0 e1 no EW CR r0
        go_enter Tryz.func95, Tryz.ntmps95
        go_wp2_with fail
        refine (qis_any c n S _ HF.out HS.out).mono ?_
        rintro e w1 ⟨rfl, q, hw1⟩
        subst w1
        rw [EP.out]
        have cr := CR'.out q
        have cw := CW.out q
        have HD := Hid.intro (HF.out.drewN q)
        have FD := Hid.intro (Pp.frm_drewN c w q)
        clear CR' CW
        generalize w.drewN q = W at *
        go_wp2_with fail
        go_ret2
        rw [FIN.out.1, FIN.out.2.1, FIN.out.2.2]
        exact ⟨rfl, HD.out, FD.out⟩
      · have r1 : (((S n).reads : Int) == 0) = false := by simp; omega
        have z12 := h12 n n8
        have FULL : Hid (s.size ≠ 0 → (S n).tx.size = 12 → Pp.wriE S (n : Int) s = 13 ∧ Pp.wriK S (n : Int) s = 0 ∧ Pp.wriF S (n : Int) s = S) := Hid.intro (fun a b => by
          have e : Pp.wriE S (n : Int) s = 13 := by rw [EW, if_neg r0, if_pos ⟨a, b⟩]
          exact ⟨e, no 13 (by decide) e⟩)
        have ROOM : Hid (¬ (s.size ≠ 0 ∧ (S n).tx.size = 12) → Pp.wriE S (n : Int) s = 0 ∧ Pp.wriK S (n : Int) s = min s.size (12 - (S n).tx.size) ∧ Pp.wriF S (n : Int) s = Pp.put S n { S n with tx := (S n).tx ++ s.extract 0 (min s.size (12 - (S n).tx.size)) }) := Hid.intro (fun a => by
          have e : Pp.wriE S (n : Int) s = 0 := by rw [EW, if_neg r0, if_neg a]
          have k : Pp.wriK S (n : Int) s = min s.size (12 - (S n).tx.size) := by unfold Pp.wriK; rw [if_pos e, Int.toNat_natCast]
          exact ⟨e, k, by unfold Pp.wriF; rw [if_pos e, k, Int.toNat_natCast]⟩)
        clear h hs d EO u0 no EW h12
        go_enter Tryz.func95, Tryz.ntmps95
        go_wp2_with fail
        refine (qis_any c n S _ HF.out HS.out).mono ?_
        rintro e w1 ⟨rfl, q, hw1⟩
        subst w1
        rw [EP.out]
        have cr := CR.out q
        have cw := CW.out q
        have HD := Hid.intro (HF.out.drewN q)
        have FD := Hid.intro (Pp.frm_drewN c w q)
        clear CR CW
        generalize w.drewN q = W at *
        have ST : Hid (QAt W c (Pp.put S n { S n with tx := (S n).tx ++ s.extract 0 0 })) := Hid.intro (by
          rw [ByteArray.extract_same, ByteArray.append_empty]
          have : Pp.put S n { S n with tx := (S n).tx } = S := Pp.put_self S n
          rw [this]
          exact HD.out)
        generalize (S n).reads = rr at r1 cr
        generalize (S n).writes = uu at u1 cw
        go_wp2_with fail
        go_loopw [9] (fun i wr => ∃ (k : Nat), i = .int .i64 k ∧ k ≤ s.size ∧ (S n).tx.size + k ≤ 12 ∧ Hid (QAt wr c (Pp.put S n { S n with tx := (S n).tx ++ s.extract 0 k })) ∧ Hid (Frm c w wr)) (fun i _ => s.size - (intOf i).toNat)
        case atStart => exact ⟨0, rfl, by omega, by omega, ST, FD⟩
        case round =>
          obtain ⟨k, rfl, hk, hk12, SK, FK⟩ := hrel
          clear cr cw ST FD HD
          have ct := SK.out.tx n n8
          have cf := SK.out.frozen
          rw [Pp.put_same] at ct
          have ct' : wr.cell? ⟨c, n, none⟩ = some (.string ((S n).tx ++ s.extract 0 k)) := ct
          have szk : ((S n).tx ++ s.extract 0 k).size = (S n).tx.size + k := by rw [ByteArray.size_append, ByteArray.size_extract]; omega
          obtain ⟨B, hB⟩ : ∃ B, (S n).tx ++ s.extract 0 k = B := ⟨_, rfl⟩
          rw [hB] at ct' szk
          have HB := Hid.intro hB
          clear ct hB
          by_cases go : k < s.size ∧ (S n).tx.size + k < 12
          · have g1 : (k : Int) < (s.size : Int) := by omega
            have g2 : (B.size : Int) < 12 := by omega
            have S2 : Hid (QAt (wr.setCell ⟨c, n, none⟩ (.string (B ++ s.extract k (k + 1)))) c (Pp.put S n { S n with tx := (S n).tx ++ s.extract 0 (k + 1) })) := Hid.intro (by
              have x := SK.out.setTx n n8 (B ++ s.extract k (k + 1))
              rw [Pp.put_same, Pp.put_put] at x
              have e : B ++ s.extract k (k + 1) = (S n).tx ++ s.extract 0 (k + 1) := by
                rw [← HB.out, ByteArray.append_assoc, ByteArray.extract_append_extract, Nat.zero_min, Nat.max_eq_right (by omega)]
              rw [e] at x
              rw [e]
              exact x)
            have g3 : IntKind.i64.wrap ((k : Int) + 1) = ((k + 1 : Nat) : Int) := (IntWalk.i64_in _ ⟨by omega, by omega⟩).trans (by omega)
            have g4 : ((k + 1 : Nat) : Int) ≤ (s.size : Int) := by omega
            have g5 : (k : Int) ≤ ((k + 1 : Nat) : Int) := by omega
            have g6 : min (k + 1) s.size = k + 1 := by omega
            have lim : ¬ 9223372036854775807 < B.size + 1 := by omega
            go_upto_region 10 with fail
            go_region
            go_wp2_with fail
            go_roundw
            case rel => exact ⟨k + 1, rfl, by omega, by omega, Hid.intro S2.out.drew, Hid.intro (FK.out.setCell _ _).drew⟩
            case measure => simp [intOf]; omega
          · by_cases k1 : k < s.size
            · have g1 : (k : Int) < (s.size : Int) := by omega
              have g2 : ¬ (B.size : Int) < 12 := by omega
              by_cases k0 : k = 0
              · obtain ⟨f1, f2, f3⟩ := FULL.out (by omega) (by omega)
                have FIN : Hid (Pp.wriE S (n : Int) s = 13 ∧ Pp.wriK S (n : Int) s = 0 ∧ Pp.wriF S (n : Int) s = S) := Hid.intro ⟨f1, f2, f3⟩
                have QQ : Hid (QAt wr c S) := Hid.intro (by
                  have x := SK.out
                  rw [k0, ByteArray.extract_same, ByteArray.append_empty] at x
                  have : Pp.put S n { S n with tx := (S n).tx } = S := Pp.put_self S n
                  rw [this] at x
                  exact x)
                have g3 : ((k : Int) == 0) = true := by simp; omega
                have g4 : (0 : Int) < (s.size : Int) := by omega
                clear f1 f2 f3 FULL ROOM k0
                go_wp2_with fail
                go_ret2
                rw [FIN.out.1, FIN.out.2.1, FIN.out.2.2]
                exact ⟨rfl, QQ.out, FK.out⟩
              · have g3 : ((k : Int) == 0) = false := by simp; omega
                obtain ⟨f1, f2, f3⟩ := ROOM.out (by omega)
                have mn : min s.size (12 - (S n).tx.size) = k := by omega
                rw [mn] at f2 f3
                have FIN : Hid (Pp.wriE S (n : Int) s = 0 ∧ Pp.wriK S (n : Int) s = k ∧ Pp.wriF S (n : Int) s = Pp.put S n { S n with tx := (S n).tx ++ s.extract 0 k }) := Hid.intro ⟨f1, f2, f3⟩
                clear f1 f2 f3 mn FULL ROOM
                go_wp2_with fail
                go_ret2
                rw [FIN.out.1, FIN.out.2.1, FIN.out.2.2]
                exact ⟨rfl, SK.out, FK.out⟩
            · have g1 : ¬ (k : Int) < (s.size : Int) := by omega
              by_cases k0 : k = 0
              · have g3 : ((k : Int) == 0) = true := by simp; omega
                have g4 : ¬ (0 : Int) < (s.size : Int) := by omega
                obtain ⟨f1, f2, f3⟩ := ROOM.out (by omega)
                have mn : min s.size (12 - (S n).tx.size) = k := by omega
                rw [mn] at f2 f3
                have FIN : Hid (Pp.wriE S (n : Int) s = 0 ∧ Pp.wriK S (n : Int) s = k ∧ Pp.wriF S (n : Int) s = Pp.put S n { S n with tx := (S n).tx ++ s.extract 0 k }) := Hid.intro ⟨f1, f2, f3⟩
                clear f1 f2 f3 mn FULL ROOM k0
                go_wp2_with fail
                go_ret2
                rw [FIN.out.1, FIN.out.2.1, FIN.out.2.2]
                exact ⟨rfl, SK.out, FK.out⟩
              · have g3 : ((k : Int) == 0) = false := by simp; omega
                obtain ⟨f1, f2, f3⟩ := ROOM.out (by omega)
                have mn : min s.size (12 - (S n).tx.size) = k := by omega
                rw [mn] at f2 f3
                have FIN : Hid (Pp.wriE S (n : Int) s = 0 ∧ Pp.wriK S (n : Int) s = k ∧ Pp.wriF S (n : Int) s = Pp.put S n { S n with tx := (S n).tx ++ s.extract 0 k }) := Hid.intro ⟨f1, f2, f3⟩
                clear f1 f2 f3 mn FULL ROOM
                go_wp2_with fail
                go_ret2
                rw [FIN.out.1, FIN.out.2.1, FIN.out.2.2]
                exact ⟨rfl, SK.out, FK.out⟩
  · have E2 : Hid (Pp.wriE S z s = Pp.pipE S z ∧ Pp.wriK S z s = 0 ∧ Pp.wriF S z s = S) := Hid.intro (by
      have eo : Pp.opE S z true = Pp.pipE S z := if_pos d
      have e : Pp.wriE S z s = Pp.pipE S z := by unfold Pp.wriE; rw [eo, if_pos d]
      exact ⟨e, no _ d e⟩)
    have p0 : 0 < Pp.pipE S z := by have := Pp.pipE_nn S z; omega
    clear h hs d no h12
    go_enter Tryz.func95, Tryz.ntmps95
    go_wp2_with fail
    refine (qis_any c z S _ HF.out HS.out).mono ?_
    rintro e w1 ⟨rfl, q, hw1⟩
    subst w1
    go_wp2_with fail
    go_ret2
    rw [E2.out.1, E2.out.2.1, E2.out.2.2]
    exact ⟨rfl, HF.out.drewN q, Pp.frm_drewN c w q⟩
end Go.Proofs.YtmneolabgajhmaaGreat

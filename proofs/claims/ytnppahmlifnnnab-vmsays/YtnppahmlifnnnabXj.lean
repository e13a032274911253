/- The code's pool: Give, Free, Left. -/
import Derived.Test.YtnppahmlifnnnabXi
namespace Go.Proofs.Ytnppahmlifnnnab
open Go.RowKit
open Bd (P)

theorem giv_ca {p : P} {j : Nat} {w : World} {b : Nat} (h0 : 0 < p.ord j) (h : CAt w b p) (hj : j < 64) : CAt (w.setCell ⟨b, j * 2, none⟩ (.int .i64 1)) b { p with tk := Bd.upb p.tk j false } := by
  refine CA.congr (CA.setS h j 1 hj) (fun i _ => ?_)
  unfold Bd.st Bd.od Bd.up Bd.upb
  by_cases c : i = j
  · subst c
    show (if p.ord i = 0 then 0 else if (if i = i then false else _) = true then 2 else 1) = (if i = i then 1 else _) ∧ _
    rw [if_neg (by omega), if_pos rfl, if_pos rfl]
    exact ⟨rfl, rfl⟩
  · show (if p.ord i = 0 then 0 else if (if i = j then false else p.tk i) = true then 2 else 1) = (if i = j then 1 else _) ∧ _
    rw [if_neg c, if_neg c]
    exact ⟨rfl, rfl⟩
theorem giveE_ge (p : P) (z : Int) : 0 ≤ Bd.giveE p z := by unfold Bd.giveE; split; omega; split <;> omega
set_option maxRecDepth 100000 in
set_option maxHeartbeats 400000 in
theorem cgive_wrong (b : Nat) (z : Int) (p : P) (w : World) (h : CAt w b p) (hI : Bd.Inv p) (k : Bd.giveE p z ≠ 0) :
    Calls Try.prog 25 #[.pointer (some ⟨b, 0, none⟩), .int .i64 z] w fun e w' => e = .returned (errV (Bd.giveE p z)) ∧ w' = w := by
  have HF := Hid.intro (And.intro h hI)
  obtain ⟨E, hE⟩ : ∃ E, Bd.giveE p z = E := ⟨_, rfl⟩
  have HX := Hid.intro hE
  rw [hE] at k
  have HK := Hid.intro k
  clear h hI k hE
  go_enter Try.func25, Try.ntmps25
  go_wp2_with fail
  refine (corder_any b z p _ HF.out.1 HF.out.2).mono ?_
  rintro e w1 ⟨rfl, hw⟩
  subst w1
  rw [HX.out, errV_ne HK.out]
  go_wp2_with fail
  go_ret
  rw [HX.out, errV_ne HK.out]
  exact ⟨rfl, rfl⟩
set_option maxRecDepth 100000 in
set_option maxHeartbeats 2000000 in
theorem cgive_ok (b j : Nat) (p : P) (w : World) (h : CAt w b p) (hI : Bd.Inv p) (hj : j < 64) (ht : p.tk j = true) :
    Calls Try.prog 25 #[.pointer (some ⟨b, 0, none⟩), .int .i64 j] w fun e w' => e = .returned (errV 0) ∧ CAt w' b (Bd.giveB p j) ∧ Frm b w w' := by
  have HF := Hid.intro (And.intro h hI)
  have HK : Hid (Bd.giveE p j = 0) := Hid.intro (by unfold Bd.giveE; rw [if_neg (by omega), Int.toNat_natCast, if_pos ht])
  have c0 := h.cSt j hj
  have cf0 := h.frozen
  have hjI : (j : Int) < 64 := by omega
  have S0 : Hid (CAt (w.setCell ⟨b, j * 2, none⟩ (.int .i64 1)) b { p with tk := Bd.upb p.tk j false } ∧ Frm b w (w.setCell ⟨b, j * 2, none⟩ (.int .i64 1)) ∧ Bd.Giv { p with tk := Bd.upb p.tk j false } j 7 (Bd.giveB p j)) := Hid.intro ⟨giv_ca (hI.tk j hj ht) h hj, (Frm.refl b w).setCell _ _, Bd.Giv.start hI hj ht⟩
  clear h hI ht
  go_enter Try.func25, Try.ntmps25
  go_wp2_with fail
  refine (corder_any b j p _ HF.out.1 HF.out.2).mono ?_
  rintro e w1 ⟨rfl, hw⟩
  subst w1
  rw [HK.out, errV_zero]
  go_wp2_with fail
  refine wp_gen (fun W => CAt W b { p with tk := Bd.upb p.tk j false } ∧ Frm b w W ∧ Bd.Giv { p with tk := Bd.upb p.tk j false } j 7 (Bd.giveB p j)) S0.out ?_
  intro W1 h1
  have S1 := Hid.intro h1
  clear h1 S0 c0 cf0
  go_loopw [1] (fun s wr => ∃ (i n : Nat) (q : P), s = .int .i64 i ∧ n ≤ 7 ∧ Hid (CAt wr b q ∧ Frm b w wr ∧ Bd.Giv q i n (Bd.giveB p j))) (fun s wr => 6 - cellN wr b ((intOf s).toNat * 2 + 1))
  case atStart => exact ⟨j, 7, _, rfl, by omega, S1⟩
  case round =>
    clear S1
    obtain ⟨i, n, q, rfl, hn7, S⟩ := hrel
    have hi := S.out.2.2.lt
    have CC := Hid.intro (S.out.1.cOd i hi)
    cases fr : Bd.free2 q i
    · have FR := Hid.intro fr
      have EQ : Hid (q = Bd.giveB p j) := Hid.intro (by rw [← S.out.2.2.eq, Bd.joins_no fr])
      clear fr
      go_wp2_with fail
      refine (cjoins_any b i q _ S.out.1 S.out.2.2.inv hi S.out.2.2.pos).mono ?_
      rintro e w2 ⟨rfl, nq, hw2⟩
      have T : Hid (CAt w2 b q ∧ Frm b w w2) := Hid.intro (by rw [hw2]; exact ⟨S.out.1.drewN nq, S.out.2.1.drewN nq⟩)
      clear hw2
      rw [FR.out]
      go_wp2_with fail
      go_ret
      exact ⟨rfl, by rw [← EQ.out]; exact T.out.1, T.out.2⟩
    · have FR := Hid.intro fr
      have lt7 : q.ord i < 7 := by
        unfold Bd.free2 at fr
        simp only [Bool.and_eq_true, decide_eq_true_eq] at fr
        exact fr.1
      obtain ⟨m, rfl⟩ : ∃ m, n = m + 1 := ⟨n - 1, by have := S.out.2.2.fu; omega⟩
      have GN := Hid.intro (S.out.2.2.next fr)
      have L7 := Hid.intro lt7
      have JO := Hid.intro (by
        have f := fr
        unfold Bd.free2 at f
        simp only [Bool.and_eq_true, decide_eq_true_eq, Bool.not_eq_true'] at f
        exact (S.out.2.2.inv.join hi S.out.2.2.pos f.1 S.out.2.2.tk f.2.1 f.2.2).2.2.1)
      clear fr lt7
      go_wp2_with fail
      refine (cjoins_any b i q _ S.out.1 S.out.2.2.inv hi S.out.2.2.pos).mono ?_
      rintro e w2 ⟨rfl, nq, hw2⟩
      have T : Hid (CAt w2 b q ∧ Frm b w w2) := Hid.intro (by rw [hw2]; exact ⟨S.out.1.drewN nq, S.out.2.1.drewN nq⟩)
      clear hw2
      rw [FR.out]
      go_wp2_with fail
      refine (cjoin_any b i q _ T.out.1 S.out.2.2.inv hi S.out.2.2.pos S.out.2.2.tk FR.out).mono ?_
      rintro e w3 ⟨rfl, t3, f3⟩
      have T3 := Hid.intro (And.intro t3 (T.out.2.trans f3))
      clear t3 f3
      obtain ⟨lo, hlo⟩ : ∃ lo, min i (Bd.bud i (Bd.sz (q.ord i))) = lo := ⟨_, rfl⟩
      rw [hlo]
      rw [hlo] at T3 GN JO
      have CN : Hid (cellN w3 b (lo * 2 + 1) = q.ord i) := Hid.intro (cellN_of (by
        rw [T3.out.1.cOd lo GN.out.lt]
        unfold Bd.od
        rw [JO.out]; rfl))
      clear hlo
      go_wp2_with fail
      go_roundw
      case rel => exact ⟨lo, m, _, by first | rfl | trivial, by omega, T3.out.1, T3.out.2, GN.out⟩
      case measure =>
        simp only [intOf, Int.toNat_natCast]
        rw [CN.out, cellN_of CC.out]
        have := L7.out
        have := S.out.2.2.pos
        show _ < 6 - (q.ord i - 1)
        omega
theorem cgive_any (b : Nat) (z : Int) (p : P) (w : World) (h : CAt w b p) (hI : Bd.Inv p) :
    Calls Try.prog 25 #[.pointer (some ⟨b, 0, none⟩), .int .i64 z] w fun e w' => e = .returned (errV (Bd.giveE p z)) ∧ CAt w' b (Bd.giveT p z) ∧ Frm b w w' := by
  by_cases k : Bd.giveE p z = 0
  · have k' := k
    unfold Bd.giveE at k'
    by_cases c1 : z < 0 ∨ 63 < z
    · rw [if_pos c1] at k'; omega
    · rw [if_neg c1] at k'
      obtain ⟨j, rfl⟩ := Int.eq_ofNat_of_zero_le (show 0 ≤ z by omega)
      rw [Int.toNat_natCast] at k'
      have ht : p.tk j = true := by
        cases t : p.tk j
        · rw [t, if_neg (by decide)] at k'; omega
        · rfl
      refine (cgive_ok b j p w h hI (by omega) ht).mono ?_
      rintro e w' ⟨rfl, h1, h2⟩
      unfold Bd.giveT
      rw [k, if_pos rfl, Int.toNat_natCast]
      exact ⟨rfl, h1, h2⟩
  · refine (cgive_wrong b z p w h hI k).mono ?_
    rintro e w' ⟨rfl, rfl⟩
    unfold Bd.giveT
    rw [if_neg k]
    exact ⟨rfl, h, Frm.refl _ _⟩

theorem freP_st (p : P) (o k : Nat) : Bd.freP p o k = (decide (Bd.st p k = 1) && decide (Bd.od p k = o)) := by
  unfold Bd.freP
  apply Bool.eq_iff_iff.2
  simp only [Bool.and_eq_true, decide_eq_true_eq, Bool.not_eq_true', Bd.st_one]
  have e2 : Bd.od p k = p.ord k - 1 := rfl
  constructor
  · rintro ⟨a, c⟩; exact ⟨⟨by omega, c⟩, by omega⟩
  · rintro ⟨⟨b, c⟩, d⟩; exact ⟨by omega, c⟩
theorem LO.alloc {w wr : World} {L : List Nat} {l : Value} (h : LO w L l wr) (ob : Obj) : LO w L l (wr.alloc ob) := ⟨h.bel.alloc h.bel.size ob, h.own.alloc _⟩
set_option maxRecDepth 100000 in
set_option maxHeartbeats 1000000 in
theorem cfree_any (b : Nat) (z : Int) (p : P) (w : World) (h : CAt w b p) :
    Calls Try.prog 26 #[.pointer (some ⟨b, 0, none⟩), .int .i64 z] w fun e w' => ∃ v, e = .returned (.tuple #[v, errV (Bd.freE z)]) ∧ LO w (Bd.freL p z) v w' := by
  obtain ⟨i0, hi, hz0, hz1, hz2⟩ := info_parts info3
  by_cases kz : z < 0 ∨ 6 < z
  · have HE : Hid (Bd.freE z = 1 ∧ Bd.freL p z = []) := Hid.intro ⟨if_pos kz, if_pos kz⟩
    clear kz
    go_enter Try.func26, Try.ntmps26
    go_wp2_with fail
    refine (wrongOrder_any z _).mono ?_
    rintro e w1 ⟨rfl, hw⟩
    subst w1
    rw [HE.out.1, errV_ne (by decide)]
    go_wp2_with fail
    go_ret2
    exact ⟨_, by rw [HE.out.1]; rfl, by rw [HE.out.2]; exact LO.nil w⟩
  · obtain ⟨o, rfl⟩ := Int.eq_ofNat_of_zero_le (show 0 ≤ z by omega)
    have HE : Hid (Bd.freE o = 0 ∧ Bd.freL p o = Bd.freK p o 64) := Hid.intro ⟨if_neg kz, by unfold Bd.freL; rw [if_neg kz, Int.toNat_natCast]⟩
    have HF := Hid.intro h
    have hsz := Hid.intro (rowB_size (Bd.st p) (Bd.od p))
    have HR := Hid.intro (CA.range h)
    clear kz h
    go_enter Try.func26, Try.ntmps26
    go_wp2_with fail
    refine (wrongOrder_any o _).mono ?_
    rintro e w1 ⟨rfl, hw⟩
    subst w1
    rw [HE.out.1, errV_zero]
    go_wp2_with (refine wpList_load_mid rfl 132 _ rfl b 0 rfl (rowB (Bd.st p) (Bd.od p)) (.array 64 131) HR.out (by kernel_rfl) rfl hsz.out ?_)
    go_loopw [7, 19] (fun l i wr => ∃ (k : Nat), i = .int .i64 k ∧ k ≤ 64 ∧ Hid (LO w (Bd.freK p o k) l wr)) (fun _ i _ => 64 - (intOf i).toNat)
    case atStart => exact ⟨0, rfl, by omega, LO.nil w⟩
    case round =>
      obtain ⟨k, rfl, hk, R⟩ := hrel
      by_cases hlt : k < 64
      · have hltI : (k : Int) < 64 := by omega
        have hix := index_rowB (Bd.st p) (Bd.od p) k hlt
        have HP := Hid.intro (freP_st p o k)
        generalize Bd.st p k = sx at *
        generalize Bd.od p k = dx at *
        by_cases e1 : sx = 1
        · by_cases e2 : dx = o
          · have HM := Hid.intro (Bd.freK_yes (p := p) (o := o) (k := k) (by rw [HP.out, decide_eq_true e1, decide_eq_true e2]; rfl))
            obtain ⟨a, cap, hv⟩ := own_form R.out.own
            rw [hv]
            have HV := Hid.intro hv
            have hlm := Bd.freK_len p o k
            generalize hN : (Bd.freK p o k).length = N at *
            have HN := Hid.intro hN
            subst e1 e2
            clear hv hN
            have CE : Hid (∀ (ob : Obj) (j : Nat) (u : Value), [Value.int .i64 (k : Int)][j]? = some u → ((wr.alloc ob).alloc (.cells #[.int .i64 (k : Int)] 3)).cell? ((⟨wr.heap.size + 1, 0, none⟩ : Addr).add j) = some u) := Hid.intro (fun ob => by
              have h := cell_one_new (wr.alloc ob) (.int .i64 (k : Int)) 3
              have e : (wr.alloc ob).heap.size = wr.heap.size + 1 := by simp
              rw [e] at h; exact h)
            go_wp2_with (at_builtin; refine wpList_append_lies _ rfl _ _ 61 (by rfl) w.heap.size 3 i0 (.int .i64 0) 1 8 Try.underlying61 hi hz0 hz1 hz2 rfl (by decide) (.slice a N cap) N (rowOf (Bd.freK p dx k)) (by rfl) (by rw [← HV.out, ← HN.out]; exact (R.out.own.alloc _).alloc _) ⟨wr.heap.size + 1, 0, none⟩ 1 1 [.int .i64 k] (by rfl) rfl (CE.out _) (by simp [Value.oneCell']) (by decide) (by unfold maxLen; omega) (by omega) (by have := R.out.bel.size; simp; omega) (wr.heap.size + 1 + 1) (by simp) ?_; intro gg cap2 w1 hown hgrow hat hlt2; have Q1 : Hid (LO w (Bd.freK p dx k ++ [k]) (.slice (some ⟨gg, 0, none⟩) (N + 1) cap2) w1) := (R.out.alloc _).more HN.out hown _ (by rw [HV.out]; exact hgrow); clear hown hgrow hat hlt2)
            go_roundw
            case rel => exact ⟨k + 1, by go_num, by omega, by rw [HM.out]; exact Q1⟩
            case measure => simp [intOf]; omega
          · have HM := Hid.intro (Bd.freK_no (p := p) (o := o) (k := k) (by rw [HP.out, decide_eq_false e2]; simp))
            have e2' : ((dx : Int) == (o : Int)) = false := by simp; omega
            subst e1
            clear e2
            go_wp2_with fail
            go_roundw
            case rel => exact ⟨k + 1, by go_num, by omega, by rw [HM.out]; exact R.out.alloc _⟩
            case measure => simp [intOf]; omega
        · have HM := Hid.intro (Bd.freK_no (p := p) (o := o) (k := k) (by rw [HP.out, decide_eq_false e1]; rfl))
          have e1' : ((sx : Int) == 1) = false := by simp; omega
          clear e1
          go_wp2_with fail
          go_roundw
          case rel => exact ⟨k + 1, by go_num, by omega, by rw [HM.out]; exact R.out.alloc _⟩
          case measure => simp [intOf]; omega
      · have hk64 : k = 64 := by omega
        subst hk64
        go_wp2_with fail
        go_ret2
        exact ⟨_, by rw [HE.out.1]; rfl, by rw [HE.out.2]; exact R.out⟩
set_option maxRecDepth 100000 in
set_option maxHeartbeats 1000000 in
theorem cleft_any (b : Nat) (p : P) (w : World) (h : CAt w b p) (hl : ∀ i, i < 64 → p.ord i ≤ 7) :
    Calls Try.prog 23 #[.pointer (some ⟨b, 0, none⟩)] w fun e w' => e = .returned (.int .i64 (Bd.left p : Int)) ∧ Below w.heap.size w w' := by
  have HL := Hid.intro hl
  have hsz := Hid.intro (rowB_size (Bd.st p) (Bd.od p))
  have HR := Hid.intro (CA.range h)
  clear h hl
  go_enter Try.func23, Try.ntmps23
  go_wp2_with (refine wpList_load_mid rfl 132 _ rfl b 0 rfl (rowB (Bd.st p) (Bd.od p)) (.array 64 131) HR.out (by kernel_rfl) rfl hsz.out ?_)
  go_loopw [3, 10] (fun s i wr => ∃ (k : Nat), i = .int .i64 k ∧ s = .int .i64 (Bd.leftK p k : Int) ∧ k ≤ 64 ∧ Hid (Below w.heap.size w wr)) (fun _ i _ => 64 - (intOf i).toNat)
  case atStart => exact ⟨0, rfl, rfl, by omega, Below.refl _ _⟩
  case round =>
    obtain ⟨k, rfl, rfl, hk, T⟩ := hrel
    by_cases hlt : k < 64
    · have hltI : (k : Int) < 64 := by omega
      have hix := index_rowB (Bd.st p) (Bd.od p) k hlt
      have LS : Hid (Bd.leftK p (k + 1) = Bd.leftK p k + if 0 < p.ord k ∧ p.tk k = false then Bd.sz (p.ord k) else 0) := Hid.intro rfl
      have BL : Hid (∀ o, Below w.heap.size w (wr.alloc o)) := Hid.intro (fun o => T.out.alloc T.out.size o)
      have lb := leftK_le HL.out k (by omega)
      have o7 := HL.out k hlt
      have SO := Hid.intro (Bd.st_one (p := p) (i := k))
      have OD : Hid (Bd.od p k = p.ord k - 1) := Hid.intro rfl
      generalize Bd.st p k = sx at *
      generalize Bd.od p k = dx at *
      by_cases e1 : sx = 1
      · have a := SO.out.1 e1
        have eo : dx + 1 = p.ord k := by have := OD.out; omega
        have SZ := Hid.intro (csize_any dx (by omega))
        have sl := sz_le o7
        have LE : Hid (Bd.leftK p (k + 1) = Bd.leftK p k + Bd.sz (p.ord k)) := Hid.intro (by rw [LS.out, if_pos a])
        rw [← eo] at LE sl
        generalize Bd.sz (dx + 1) = s at *
        generalize Bd.leftK p k = lk at *
        have hww : IntKind.i64.wrap ((lk : Int) + (s : Int)) = (lk : Int) + (s : Int) := IntWalk.i64_in _ ⟨by omega, by omega⟩
        subst e1
        clear a eo LS SO OD
        go_wp2_with fail
        refine (SZ.out _).mono ?_
        rintro e w2 ⟨rfl, hw2⟩
        subst w2
        go_wp2_with fail
        go_roundw
        case rel => exact ⟨k + 1, by go_num, by rw [LE.out]; go_num, by omega, BL.out _⟩
        case measure => simp [intOf]; omega
      · have LE : Hid (Bd.leftK p (k + 1) = Bd.leftK p k) := Hid.intro (by rw [LS.out, if_neg (fun c => e1 (SO.out.2 c))]; rfl)
        have e1' : ((sx : Int) == 1) = false := by simp; omega
        clear LS SO OD e1
        go_wp2_with fail
        go_roundw
        case rel => exact ⟨k + 1, by go_num, by rw [LE.out], by omega, BL.out _⟩
        case measure => simp [intOf]; omega
    · have hk64 : k = 64 := by omega
      subst hk64
      go_wp2_with fail
      go_ret
      exact ⟨rfl, T.out⟩
end Go.Proofs.Ytnppahmlifnnnab

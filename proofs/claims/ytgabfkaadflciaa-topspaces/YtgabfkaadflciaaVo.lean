/- TopSpaces: number; placed. -/
import Derived.Test.YtgabfkaadflciaaVm
import Derived.Test.YtgabfkaadflciaaBb
namespace Go.Proofs.Ytgabfkaadflciaa
open Go.RowKit
open Sp (T)

set_option maxHeartbeats 400000 in
theorem number_err (n : Int) (w : World) : Calls Try.prog 74 #[.iface 110 (.int .i64 n)] w fun e w' => e = .returned (.int .i64 n) ∧ w' = w := by
  have ha := assertE n
  go_enter Try.func74, Try.ntmps74
  go_wp2
  go_ret
  exact ⟨rfl, rfl⟩

namespace Sp
/-- In which spaces a process is to have a number. -/
def hasG (t : T) (p m : Nat) : Bool := decide (t.of p ≠ 0) && decide (m ∈ W t ((t.of p - 1 : Nat) : Int))
theorem hasG_pid {t : T} {d : Nat → Nat} (h : Inv t d) {p m : Nat} (hp : p < 20) (hm : m < 6) : hasG t p m = true ↔ pidOf t m p ≠ 0 := by
  unfold hasG
  simp only [Bool.and_eq_true, decide_eq_true_eq]
  rw [← h.has m p hm hp]
  constructor
  · exact fun he => (h.pid hm he).1
  · intro hc
    unfold pidOf at hc
    cases hf : (List.range 21).find? (isP t m p) with
    | none => rw [hf] at hc; exact absurd rfl hc
    | some k =>
      have := find_lt hf
      exact ⟨k, this.1, by have := this.2.1; unfold isP at this; simpa using this⟩
theorem pid_nat {t : T} {p m : Nat} (hp : p < 20) (hm : m < 6) (hh : t.here m = true) : pidE t p m = (if pidOf t m p = 0 then 2 else 0) ∧ pidN t p m = pidOf t m p := by
  have e1 : pidE t p m = if pidOf t m p = 0 then 2 else 0 := by
    unfold pidE pairE
    rw [isE_nat hm hh, if_pos rfl, procE_nat hp, if_pos rfl, Int.toNat_natCast, Int.toNat_natCast]
  refine ⟨e1, ?_⟩
  unfold pidN
  rw [e1]
  by_cases c : pidOf t m p = 0
  · rw [if_pos c, if_neg (by decide), c]
  · rw [if_neg c, if_pos rfl, Int.toNat_natCast, Int.toNat_natCast]
theorem find_nat {t : T} {m q x : Nat} (hm : m < 6) (hh : t.here m = true) (hq1 : 1 ≤ q) (hq : q ≤ 20) (hw : t.who m q = x + 1) : findE t m q = 0 ∧ findN t m q = x := by
  have e1 : findE t m q = 0 := by
    unfold findE
    rw [if_pos (isE_nat hm hh), Int.toNat_natCast, Int.toNat_natCast, if_neg (by omega)]
  refine ⟨e1, ?_⟩
  unfold findN
  rw [e1, if_pos rfl, Int.toNat_natCast, Int.toNat_natCast, hw]; omega
theorem all_at {t : T} {k : Nat} (hk : k < (all t).length) : (all t).getD k 0 < 6 ∧ t.here ((all t).getD k 0) = true := by
  have h : (all t).getD k 0 ∈ all t := by
    rw [List.getD_eq_getElem?_getD, List.getElem?_eq_getElem hk]
    exact List.getElem_mem hk
  have k : ∀ x, x ∈ all t → x < 6 ∧ t.here x = true := fun x hx => by unfold all at hx; simpa using hx
  exact k _ h
end Sp

/-- What placed has in its hands: the table; the parents; who is to have a number; all spaces. -/
structure PS (w W : World) (b hb gg : Nat) (t : T) (g : Nat → Bool) : Prop where
  bel : Below w.heap.size w W
  tb : Tb true W b t
  has : BAt W hb 6 95 g
  lst : ∀ i, i < (Sp.all t).length → W.cell? ⟨gg, i, none⟩ = some (.int .i64 (((Sp.all t).getD i 0 : Nat) : Int))
theorem PS.drewN {w W : World} {b hb gg : Nat} {t : T} {g : Nat → Bool} (h : PS w W b hb gg t g) (n : Nat) : PS w (W.drewN n) b hb gg t g := ⟨below_drewN h.bel n, h.tb.drewN n, h.has, h.lst⟩
theorem PS.drew {w W : World} {b hb gg : Nat} {t : T} {g : Nat → Bool} (h : PS w W b hb gg t g) : PS w W.drew b hb gg t g := ⟨h.bel.drew, h.tb.drew, h.has, h.lst⟩
theorem zeroB6 : arrB 6 (fun _ => false) = #[.bool false, .bool false, .bool false, .bool false, .bool false, .bool false] := rfl
theorem arrZ6 (f : Nat → Int) : arrZ 6 f = #[.int .i64 (f 0), .int .i64 (f 1), .int .i64 (f 2), .int .i64 (f 3), .int .i64 (f 4), .int .i64 (f 5)] := rfl
/-- While the way is walked: the parents at pb, who is to have a number at hb. -/
structure PW (w W : World) (b pb hb : Nat) (t : T) (f : Nat → Int) (g : Nat → Bool) : Prop where
  bel : Below w.heap.size w W
  le : w.heap.size ≤ pb
  lt : pb < hb
  tb : Tb true W b t
  bl : b < w.heap.size
  par : ZAt W pb 6 108 f
  has : BAt W hb 6 95 g
theorem PW.start {w : World} {b : Nat} {t : T} (f : Nat → Int) (h : Tb true w b t) : PW w ((w.alloc (.cells (arrZ 6 f) 108)).alloc (.cells (arrB 6 (fun _ => false)) 95)) b w.heap.size (w.heap.size + 1) t f (fun _ => false) := by
  have hb : Below w.heap.size w ((w.alloc (.cells (arrZ 6 f) 108)).alloc (.cells (arrB 6 (fun _ => false)) 95)) := ((Below.refl _ w).alloc (Nat.le_refl _) _).alloc (by simp) _
  refine ⟨hb, Nat.le_refl _, by omega, h.below hb, h.lt, ?_, ?_⟩
  · show ((w.heap.push _).push _)[w.heap.size]? = _
    simp only [Array.getElem?_push, Array.size_push]
    rw [if_neg (by omega), if_pos trivial]
  · show ((w.heap.push _).push _)[w.heap.size + 1]? = _
    simp only [Array.getElem?_push, Array.size_push]
    rw [if_pos trivial]
theorem PW.set {w W : World} {b pb hb : Nat} {t : T} {f : Nat → Int} {g : Nat → Bool} (h : PW w W b pb hb t f g) (m : Nat) (hm : m < 6) : PW w (W.setCell ⟨hb, m, none⟩ (.bool true)) b pb hb t f (updB g m true) := by
  have h1 := h.le
  have h2 := h.lt
  have h3 := h.bl
  exact ⟨h.bel.setCell (by show _ ≤ hb; omega) _, h1, h2, h.tb.same (setBlk _ _ _ _ (by omega)), h3, h.par.same (setBlk _ _ _ _ (by omega)), h.has.set m true hm⟩
theorem PW.all {w W W' : World} {b pb hb : Nat} {t : T} {f : Nat → Int} {g : Nat → Bool} {v : Value} (h : PW w W b pb hb t f g) (hL : LO W (Sp.all t) v W') (hl : 0 < (Sp.all t).length) : ∃ gg cap, v = .slice (some ⟨gg, 0, none⟩) (Sp.all t).length cap ∧ PS w W' b hb gg t g := by
  obtain ⟨gg, cap, hv, hg, hc⟩ := hL.cells hl
  refine ⟨gg, cap, hv, h.bel.trans (hL.bel.mono h.bel.size), h.tb.below hL.bel, h.has.same (hL.bel.block _ h.has.lt), fun i hi => ?_⟩
  have := hc i hi
  rw [Nat.zero_add] at this
  exact this

set_option maxRecDepth 100000 in
set_option maxHeartbeats 2000000 in
theorem placed_out (b p : Nat) (t : T) (d : Nat → Nat) (f : Nat → Int) (w : World) (h : Tb true w b t) (hI : Sp.Inv t d) (hf : ∀ n, n < 6 → t.here n = true → f n = t.par n) (hp : p < 20) (ho : t.of p = 0) :
    Calls Try.prog 75 #[.pointer (some ⟨b, 0, none⟩), .agg (arrZ 6 f), .int .i64 p] w fun e w' => e = .returned (.bool true) ∧ Below w.heap.size w w' := by
  have HF := Hid.intro h
  have HI := Hid.intro hI
  have HP := Hid.intro hf
  have hl0 : 0 < (Sp.all t).length := List.length_pos_of_mem (a := 0) (by unfold Sp.all; simp [hI.tree.root.1])
  have hl6 := all_len t
  have S0 := Hid.intro (PW.start f h)
  have T1 : Hid (Tb true (w.alloc (.cells (arrZ 6 f) 108)) b t) := Hid.intro (h.below ((Below.refl _ _).alloc (Nat.le_refl _) _))
  obtain ⟨A, hA⟩ : ∃ A, arrZ 6 f = A := ⟨_, rfl⟩
  have HA := Hid.intro hA
  rw [hA] at S0 T1 ⊢
  rw [zeroB6] at S0
  have OF : Hid (Sp.inE t p = 2 ∧ Sp.inN t p = 0) := Hid.intro (by
    have e1 : Sp.inE t p = 2 := by unfold Sp.inE; rw [if_pos (Sp.procE_nat hp), Int.toNat_natCast, if_pos ho]
    exact ⟨e1, by unfold Sp.inN; rw [e1]; rfl⟩)
  have GE : Hid ((fun _ : Nat => false) = Sp.hasG t p) := Hid.intro (by funext m; unfold Sp.hasG; simp [ho])
  clear h hI hf hA ho
  go_enter Try.func75, Try.ntmps75
  go_wp2_with fail
  refine (of_any b p t _ T1.out).mono ?_
  rintro e W1 ⟨rfl, hW⟩
  subst W1
  rw [OF.out.1, OF.out.2, errV_ne (by decide)]
  go_wp2_with fail
  refine (all_any b t _ S0.out.tb).mono ?_
  rintro e W3 ⟨v, rfl, hL⟩
  obtain ⟨gg, cap, hv, S5⟩ := S0.out.all hL hl0
  subst hv
  rw [GE.out] at S5
  have S5 := Hid.intro S5
  clear hL S0 T1 HA
  generalize w.heap.size + 1 = hb at *
  go_wp2_with fail
  go_loopw [12] (fun i wr => ∃ (k : Nat), i = .int .i64 k ∧ k ≤ (Sp.all t).length ∧ Hid (PS w wr b hb gg t (Sp.hasG t p))) (fun i _ => (Sp.all t).length - (intOf i).toNat)
  case atStart => exact ⟨0, rfl, by omega, S5⟩
  case round =>
    clear S5
    obtain ⟨k, rfl, hk, S⟩ := hrel
    by_cases hlt : k < (Sp.all t).length
    · have hltI : (k : Int) < ((Sp.all t).length : Int) := by omega
      have ha := Sp.all_at hlt
      have c1 := S.out.lst k hlt
      obtain ⟨m, hm⟩ : ∃ m, (Sp.all t).getD k 0 = m := ⟨_, rfl⟩
      rw [hm] at ha c1
      obtain ⟨hm6, hmh⟩ := ha
      have HMH := Hid.intro hmh
      have hmI : (m : Int) < 6 := by omega
      have PN := Hid.intro (Sp.pid_nat (p := p) hp hm6 hmh)
      have HG := Hid.intro (Sp.hasG_pid (m := m) HI.out hp hm6)
      have c2 := S.out.has.cell m hm6
      clear hm hmh
      go_wp2_with fail
      refine (pidT_any b p m t _ S.out.tb HI.out.who0).mono ?_
      rintro e W4 ⟨rfl, hW⟩
      subst W4
      rw [PN.out.1, PN.out.2]
      cases hg : Sp.hasG t p m
      · have hp0 : Sp.pidOf t m p = 0 := Classical.byContradiction fun c => by rw [HG.out.2 c] at hg; cases hg
        rw [hg] at c2
        rw [hp0, if_pos rfl, errV_ne (by decide)]
        clear hg hp0
        go_wp2_with fail
        go_region
        go_wp2_with fail
        go_roundw
        case rel => exact ⟨k + 1, by go_num, by omega, S.out.drew⟩
        case measure => simp [intOf]; omega
      · have hp0 := HG.out.1 hg
        rw [hg] at c2
        have he : ∃ q, q < 21 ∧ t.who m q = p + 1 := by
          have := (HI.out.has m p hm6 hp).2
          unfold Sp.hasG at hg
          simp only [Bool.and_eq_true, decide_eq_true_eq] at hg
          exact this hg
        have PD := Hid.intro (HI.out.pid hm6 he)
        rw [if_neg hp0, errV_zero]
        obtain ⟨q, hq⟩ : ∃ q, Sp.pidOf t m p = q := ⟨_, rfl⟩
        rw [hq] at PD hp0 ⊢
        have hq1 : 1 ≤ q := by omega
        have hq20 : q ≤ 20 := by have := PD.out.2.1; omega
        have FN := Hid.intro (Sp.find_nat hm6 HMH.out hq1 hq20 PD.out.2.2)
        have q1 : decide ((q : Int) < 1) = false := by simp; omega
        have q2 : decide ((20 : Int) < (q : Int)) = false := by simp; omega
        clear hg hp0 he hq
        go_wp2_with fail
        go_region
        go_wp2_with fail
        refine (find_any b m q t _ S.out.tb.drew).mono ?_
        rintro e W4 ⟨rfl, hW⟩
        subst W4
        rw [FN.out.1, FN.out.2, errV_zero]
        go_wp2_with fail
        go_roundw
        case rel => exact ⟨k + 1, by go_num, by omega, S.out.drew⟩
        case measure => simp [intOf]; omega
    · go_wp2_with fail
      go_ret
      exact ⟨rfl, S.out.bel⟩

set_option maxRecDepth 100000 in
set_option maxHeartbeats 2000000 in
theorem placed_in (b p : Nat) (t : T) (d : Nat → Nat) (f : Nat → Int) (w : World) (h : Tb true w b t) (hI : Sp.Inv t d) (hf : ∀ n, n < 6 → t.here n = true → f n = t.par n) (hp : p < 20) (ho : t.of p ≠ 0) :
    Calls Try.prog 75 #[.pointer (some ⟨b, 0, none⟩), .agg (arrZ 6 f), .int .i64 p] w fun e w' => e = .returned (.bool true) ∧ Below w.heap.size w w' := by
  have HF := Hid.intro h
  have HI := Hid.intro hI
  have HP := Hid.intro hf
  have hl0 : 0 < (Sp.all t).length := List.length_pos_of_mem (a := 0) (by unfold Sp.all; simp [hI.tree.root.1])
  have hl6 := all_len t
  have S0 := Hid.intro (PW.start f h)
  have T1 : Hid (Tb true (w.alloc (.cells (arrZ 6 f) 108)) b t) := Hid.intro (h.below ((Below.refl _ _).alloc (Nat.le_refl _) _))
  obtain ⟨A, hA⟩ : ∃ A, arrZ 6 f = A := ⟨_, rfl⟩
  have HA := Hid.intro hA
  rw [hA] at S0 T1 ⊢
  rw [zeroB6] at S0
  have O := hI.ofs p hp ho
  obtain ⟨n, hn⟩ : ∃ n, t.of p - 1 = n := ⟨_, rfl⟩
  rw [hn] at O
  have hn6 : n < 6 := by omega
  have OF : Hid (Sp.inE t p = 0 ∧ Sp.inN t p = n) := Hid.intro (by
    have e1 : Sp.inE t p = 0 := by unfold Sp.inE; rw [if_pos (Sp.procE_nat hp), Int.toNat_natCast, if_neg ho]
    exact ⟨e1, by unfold Sp.inN; rw [e1, if_pos rfl, Int.toNat_natCast, hn]⟩)
  have HH := Hid.intro O.2
  have GE : Hid ((fun m : Nat => decide (m ∈ Sp.W t n)) = Sp.hasG t p) := Hid.intro (by funext m; unfold Sp.hasG; rw [hn]; simp [ho])
  clear O hn
  clear h hI hf hA ho
  go_enter Try.func75, Try.ntmps75
  go_wp2_with fail
  refine (of_any b p t _ T1.out).mono ?_
  rintro e W1 ⟨rfl, hW⟩
  subst W1
  rw [OF.out.1, OF.out.2, errV_zero]
  go_wp2_with fail
  refine wp_gen (fun W => PW w W b w.heap.size (w.heap.size + 1) t f (fun _ => false)) S0.out ?_
  intro W1 h1
  have S1 := Hid.intro h1
  clear h1 S0 T1 HA
  generalize w.heap.size + 1 = hb at *
  obtain ⟨pb, hpb⟩ : ∃ pb, w.heap.size = pb := ⟨_, rfl⟩
  rw [hpb] at S1 ⊢
  clear hpb
  go_loopw [10] (fun i wr => ∃ (z : Int) (L : List Nat), i = .int .i64 z ∧ Hid (PW w wr b pb hb t f (fun m => decide (m ∈ L)) ∧ L ++ Sp.W t z = Sp.W t n ∧ (z = -1 ∨ ∃ m : Nat, z = m ∧ m < 6 ∧ t.here m = true))) (fun i _ => (Sp.W t (intOf i)).length)
  case atStart => exact ⟨n, [], rfl, by simpa using S1.out, rfl, .inr ⟨n, rfl, hn6, HH.out⟩⟩
  case round =>
    clear S1
    obtain ⟨z, L, rfl, S⟩ := hrel
    rcases S.out.2.2 with rfl | ⟨m, rfl, hm, hmh⟩
    · have HE : Hid (L = Sp.W t n) := Hid.intro (by have := S.out.2.1; rw [Sp.W_neg t (-1) (by omega), List.append_nil] at this; exact this)
      have S4 : Hid (PW w wr b pb hb t f (Sp.hasG t p)) := Hid.intro (by rw [← GE.out, ← HE.out]; exact S.out.1)
      clear S HE
      go_wp2_with fail
      refine (all_any b t _ S4.out.tb).mono ?_
      rintro e W3 ⟨v, rfl, hL⟩
      obtain ⟨gg, cap, hv, S5⟩ := S4.out.all hL hl0
      subst hv
      have S5 := Hid.intro S5
      clear hL S4
      go_wp2_with fail
      go_loopw [12] (fun i wr => ∃ (k : Nat), i = .int .i64 k ∧ k ≤ (Sp.all t).length ∧ Hid (PS w wr b hb gg t (Sp.hasG t p))) (fun i _ => (Sp.all t).length - (intOf i).toNat)
      case atStart => exact ⟨0, rfl, by omega, S5⟩
      case round =>
        clear S5
        obtain ⟨k, rfl, hk, S⟩ := hrel
        by_cases hlt : k < (Sp.all t).length
        · have hltI : (k : Int) < ((Sp.all t).length : Int) := by omega
          have ha := Sp.all_at hlt
          have c1 := S.out.lst k hlt
          obtain ⟨m, hm⟩ : ∃ m, (Sp.all t).getD k 0 = m := ⟨_, rfl⟩
          rw [hm] at ha c1
          obtain ⟨hm6, hmh⟩ := ha
          have HMH := Hid.intro hmh
          have hmI : (m : Int) < 6 := by omega
          have PN := Hid.intro (Sp.pid_nat (p := p) hp hm6 hmh)
          have HG := Hid.intro (Sp.hasG_pid (m := m) HI.out hp hm6)
          have c2 := S.out.has.cell m hm6
          clear hm hmh
          go_wp2_with fail
          refine (pidT_any b p m t _ S.out.tb HI.out.who0).mono ?_
          rintro e W4 ⟨rfl, hW⟩
          subst W4
          rw [PN.out.1, PN.out.2]
          cases hg : Sp.hasG t p m
          · have hp0 : Sp.pidOf t m p = 0 := Classical.byContradiction fun c => by rw [HG.out.2 c] at hg; cases hg
            rw [hg] at c2
            rw [hp0, if_pos rfl, errV_ne (by decide)]
            clear hg hp0
            go_wp2_with fail
            go_region
            go_wp2_with fail
            go_roundw
            case rel => exact ⟨k + 1, by go_num, by omega, S.out.drew⟩
            case measure => simp [intOf]; omega
          · have hp0 := HG.out.1 hg
            rw [hg] at c2
            have he : ∃ q, q < 21 ∧ t.who m q = p + 1 := by
              have := (HI.out.has m p hm6 hp).2
              unfold Sp.hasG at hg
              simp only [Bool.and_eq_true, decide_eq_true_eq] at hg
              exact this hg
            have PD := Hid.intro (HI.out.pid hm6 he)
            rw [if_neg hp0, errV_zero]
            obtain ⟨q, hq⟩ : ∃ q, Sp.pidOf t m p = q := ⟨_, rfl⟩
            rw [hq] at PD hp0 ⊢
            have hq1 : 1 ≤ q := by omega
            have hq20 : q ≤ 20 := by have := PD.out.2.1; omega
            have FN := Hid.intro (Sp.find_nat hm6 HMH.out hq1 hq20 PD.out.2.2)
            have q1 : decide ((q : Int) < 1) = false := by simp; omega
            have q2 : decide ((20 : Int) < (q : Int)) = false := by simp; omega
            clear hg hp0 he hq
            go_wp2_with fail
            go_region
            go_wp2_with fail
            refine (find_any b m q t _ S.out.tb.drew).mono ?_
            rintro e W4 ⟨rfl, hW⟩
            subst W4
            rw [FN.out.1, FN.out.2, errV_zero]
            go_wp2_with fail
            go_roundw
            case rel => exact ⟨k + 1, by go_num, by omega, S.out.drew⟩
            case measure => simp [intOf]; omega
        · go_wp2_with fail
          go_ret
          exact ⟨rfl, S.out.bel⟩
    · have ST := Hid.intro (HI.out.tree.step hm hmh)
      have PC := Hid.intro (HI.out.tree.par_cases hm hmh)
      have hmI : (m : Int) < 6 := by omega
      have c1 := S.out.1.par.cell m hm
      rw [HP.out m hm hmh] at c1
      have c2 := S.out.1.has.cell m hm
      have cf := S.out.1.has.frozen
      have hph : Hid (pb ≠ hb) := Hid.intro (by have := S.out.1.lt; omega)
      have hne : pb ≠ hb := hph.out
      clear hmh
      go_wp2_with fail
      go_roundw
      case rel =>
        refine ⟨t.par m, L ++ [m], by first | rfl | trivial, ?_, ?_, ?_⟩
        · have := S.out.1.set m hm
          have e : updB (fun m => decide (m ∈ L)) m true = fun a => decide (a ∈ L ++ [m]) := by
            funext a
            unfold updB
            by_cases c : a = m
            · simp [c]
            · simp [c]
          rw [e] at this
          exact this
        · have := S.out.2.1
          rw [ST.out] at this
          rw [← this]; simp
        · rcases PC.out with ⟨_, e, _⟩ | ⟨q, p1, p2, p3, _⟩
          · exact .inl e
          · exact .inr ⟨q, p2, p1, p3⟩
      case measure =>
        simp only [intOf]
        rw [ST.out, List.length_cons]
        omega

theorem placed_any (b p : Nat) (t : T) (d : Nat → Nat) (f : Nat → Int) (w : World) (h : Tb true w b t) (hI : Sp.Inv t d) (hf : ∀ n, n < 6 → t.here n = true → f n = t.par n) (hp : p < 20) :
    Calls Try.prog 75 #[.pointer (some ⟨b, 0, none⟩), .agg (arrZ 6 f), .int .i64 p] w fun e w' => e = .returned (.bool true) ∧ Below w.heap.size w w' := by
  by_cases ho : t.of p = 0
  · exact placed_out b p t d f w h hI hf hp ho
  · exact placed_in b p t d f w h hI hf hp ho
end Go.Proofs.Ytgabfkaadflciaa

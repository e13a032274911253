/- The code's table: Enter, Leave. -/
import Derived.Test.YtgabfkaadflciaaVh
namespace Go.Proofs.Ytgabfkaadflciaa
open Go.RowKit
open Sp (T)

namespace Sp
theorem low_same {t t' : T} {n : Nat} (h : ∀ p, t'.who n p = t.who n p) : low t' n = low t n := by
  unfold low
  have : lowP t' n = lowP t n := by funext p; unfold lowP; rw [h]
  rw [this]
theorem pidOf_same {t t' : T} {n x : Nat} (h : ∀ p, t'.who n p = t.who n p) : pidOf t' n x = pidOf t n x := by
  unfold pidOf
  have : isP t' n x = isP t n x := by funext p; unfold isP; rw [h]
  rw [this]
theorem Inv.pid {t : T} {d : Nat → Nat} (h : Inv t d) {n x : Nat} (hn : n < 6) (he : ∃ p, p < 21 ∧ t.who n p = x + 1) : pidOf t n x ≠ 0 ∧ pidOf t n x < 21 ∧ t.who n (pidOf t n x) = x + 1 := by
  obtain ⟨p, hp, e⟩ := he
  unfold pidOf
  cases hf : (List.range 21).find? (isP t n x) with
  | none =>
    have := List.find?_eq_none.1 hf p (by simpa using hp)
    exact absurd (by unfold isP; simp [e]) this
  | some k =>
    have := find_lt hf
    have hk : t.who n k = x + 1 := by have := this.2.1; unfold isP at this; simpa using this
    refine ⟨fun c => ?_, this.1, hk⟩
    have c' : k = 0 := c
    rw [c', h.who0 n hn] at hk
    omega
/-- A process is put on a part of the way. -/
def inT (t : T) (L : List Nat) (n y : Nat) : T := { putT t L y with of := upN t.of y (n + 1) }
def outT (t : T) (L : List Nat) (y : Nat) : T := { cutT t L y with of := upN t.of y 0 }
end Sp

section
variable {w : World} {b : Nat} {t : T}
theorem inT_start {n y : Nat} (h : Tb true w b t) (hy : y < 20) : Tb true (w.setCell ⟨b, 138 + y, none⟩ (.int .i64 (n : Int))) b (Sp.inT t [] n y) := by
  have := h.setOf y (n + 1) hy
  rw [show co true (n + 1) = (n : Int) by unfold co; simp] at this
  exact this.congr (cell_sort (fun m hm => by rw [cellT_here true _ m hm, cellT_here true _ m hm]; rfl) (fun m hm => by rw [cellT_par true _ m hm, cellT_par true _ m hm]; rfl) (fun m q hm hq => by rw [cellT_who true _ m q hm hq, cellT_who true _ m q hm hq]; simp [Sp.inT, Sp.putT]) (fun z hz => by rw [cellT_of, cellT_of]; rfl))
theorem inT_up {L : List Nat} {n y m : Nat} (h : Tb true w b (Sp.inT t L n y)) (hm : m < 6) (hh : t.here m = true) (hp : Sp.low t m < 21) : Tb true (w.setCell ⟨b, m * 23 + 2 + Sp.low t m, none⟩ (.int .i64 (y : Int))) b (Sp.inT t (L ++ [m]) n y) := by
  have := h.setWho m (Sp.low t m) (y + 1) hm hp
  rw [show cw true ((Sp.inT t L n y).here m) (y + 1) = (y : Int) by rw [show (Sp.inT t L n y).here m = t.here m from rfl, hh]; unfold cw; simp] at this
  refine this.congr (cell_sort (fun a ha => by rw [cellT_here true _ a ha, cellT_here true _ a ha]; rfl) (fun a ha => by rw [cellT_par true _ a ha, cellT_par true _ a ha]; rfl) (fun a q ha hq => ?_) (fun z hz => by rw [cellT_of, cellT_of]; rfl))
  rw [cellT_who true _ a q ha hq, cellT_who true _ a q ha hq]
  have e : (Sp.inT t (L ++ [m]) n y).who a q = (upW (Sp.inT t L n y) m (Sp.low t m) (y + 1)).who a q := by
    show (if a ∈ L ++ [m] ∧ q = Sp.low t a then y + 1 else t.who a q) = if a = m ∧ q = Sp.low t m then y + 1 else (if a ∈ L ∧ q = Sp.low t a then y + 1 else t.who a q)
    by_cases c : a = m
    · subst c
      by_cases c2 : q = Sp.low t a
      · rw [if_pos ⟨by simp, c2⟩, if_pos ⟨rfl, c2⟩]
      · rw [if_neg (fun k => c2 k.2), if_neg (fun k => c2 k.2), if_neg (fun k => c2 k.2)]
    · rw [if_neg (show ¬ (a = m ∧ q = Sp.low t m) from fun k => c k.1)]
      have : (a ∈ L ++ [m]) ↔ a ∈ L := by simp [c]
      simp only [this]
  rw [e]; rfl
theorem outT_start {y : Nat} (h : Tb true w b t) (hy : y < 20) : Tb true (w.setCell ⟨b, 138 + y, none⟩ (.int .i64 (-1))) b (Sp.outT t [] y) := by
  have := h.setOf y 0 hy
  exact this.congr (cell_sort (fun m hm => by rw [cellT_here true _ m hm, cellT_here true _ m hm]; rfl) (fun m hm => by rw [cellT_par true _ m hm, cellT_par true _ m hm]; rfl) (fun m q hm hq => by rw [cellT_who true _ m q hm hq, cellT_who true _ m q hm hq]; simp [Sp.outT, Sp.cutT]) (fun z hz => by rw [cellT_of, cellT_of]; rfl))
theorem outT_up {L : List Nat} {y m p : Nat} (h : Tb true w b (Sp.outT t L y)) (hm : m < 6) (hh : t.here m = true) (hp : p < 21) (e1 : t.who m p = y + 1) (e2 : ∀ q, q < 21 → t.who m q = y + 1 → q = p) : Tb true (w.setCell ⟨b, m * 23 + 2 + p, none⟩ (.int .i64 (-1))) b (Sp.outT t (L ++ [m]) y) := by
  have := h.setWho m p 0 hm hp
  rw [show cw true ((Sp.outT t L y).here m) 0 = -1 by rw [show (Sp.outT t L y).here m = t.here m from rfl, hh]; rfl] at this
  refine this.congr (cell_sort (fun a ha => by rw [cellT_here true _ a ha, cellT_here true _ a ha]; rfl) (fun a ha => by rw [cellT_par true _ a ha, cellT_par true _ a ha]; rfl) (fun a q ha hq => ?_) (fun z hz => by rw [cellT_of, cellT_of]; rfl))
  rw [cellT_who true _ a q ha hq, cellT_who true _ a q ha hq]
  have e : (Sp.outT t (L ++ [m]) y).who a q = (upW (Sp.outT t L y) m p 0).who a q := by
    show (if a ∈ L ++ [m] ∧ t.who a q = y + 1 then 0 else t.who a q) = if a = m ∧ q = p then 0 else (if a ∈ L ∧ t.who a q = y + 1 then 0 else t.who a q)
    by_cases c : a = m
    · subst c
      by_cases c2 : q = p
      · rw [if_pos ⟨by simp, by rw [c2]; exact e1⟩, if_pos ⟨rfl, c2⟩]
      · have c3 : t.who a q ≠ y + 1 := fun k => c2 (e2 q hq k)
        rw [if_neg (fun k => c3 k.2), if_neg (fun k => c2 k.2), if_neg (fun k => c3 k.2)]
    · rw [if_neg (show ¬ (a = m ∧ q = p) from fun k => c k.1)]
      have : (a ∈ L ++ [m]) ↔ a ∈ L := by simp [c]
      simp only [this]
  rw [e]; rfl
end

set_option maxRecDepth 100000 in
set_option maxHeartbeats 400000 in
theorem enter_wrong (b : Nat) (z x : Int) (t : T) (w : World) (h : Tb true w b t) (k : Sp.pairE t z x ≠ 0) :
    Calls Try.prog 68 #[.pointer (some ⟨b, 0, none⟩), .int .i64 z, .int .i64 x] w fun e w' => e = .returned (.tuple #[.int .i64 0, errV (Sp.pairE t z x)]) ∧ w' = w := by
  have HF := Hid.intro h
  have HW := Hid.intro k
  clear h k
  go_enter Try.func68, Try.ntmps68
  go_wp2_with fail
  refine (wrongPair_any b z x t _ HF.out).mono ?_
  rintro e w1 ⟨rfl, hw⟩
  subst w1
  rw [errV_ne HW.out]
  go_wp2
  go_ret2
  rw [errV_ne HW.out]; exact ⟨rfl, rfl⟩
set_option maxRecDepth 100000 in
set_option maxHeartbeats 400000 in
theorem enter_exist (b n y : Nat) (t : T) (w : World) (h : Tb true w b t) (k : Sp.pairE t n y = 0) (hy : y < 20) (ho : t.of y ≠ 0) :
    Calls Try.prog 68 #[.pointer (some ⟨b, 0, none⟩), .int .i64 n, .int .i64 y] w fun e w' => e = .returned (.tuple #[.int .i64 0, errV 3]) ∧ w' = w := by
  have HF := Hid.intro h
  have HK := Hid.intro k
  have c := h.ofC y hy
  have hyI : (y : Int) < 20 := by omega
  obtain ⟨v, hv⟩ : ∃ v, (t.of y : Int) - 1 = v := ⟨_, rfl⟩
  have v0 : (v == -1) = false := by simp; omega
  rw [hv] at c
  clear h k hv ho
  go_enter Try.func68, Try.ntmps68
  go_wp2_with fail
  refine (wrongPair_any b n y t _ HF.out).mono ?_
  rintro e w1 ⟨rfl, hw⟩
  subst w1
  rw [HK.out, errV_zero]
  go_wp2
  go_ret2
  exact ⟨rfl, rfl⟩
set_option maxRecDepth 100000 in
set_option maxHeartbeats 1000000 in
theorem enter_ok (b n y : Nat) (t : T) (d : Nat → Nat) (w : World) (h : Tb true w b t) (hI : Sp.Inv t d) (k : Sp.pairE t n y = 0) (hn : n < 6) (hh : t.here n = true) (hy : y < 20) (ho : t.of y = 0) :
    Calls Try.prog 68 #[.pointer (some ⟨b, 0, none⟩), .int .i64 n, .int .i64 y] w fun e w' => e = .returned (.tuple #[.int .i64 (pidI (Sp.inT t (Sp.W t n) n y) n y), errV 0]) ∧ Tb true w' b (Sp.inT t (Sp.W t n) n y) ∧ Frm b w w' := by
  have HF := Hid.intro h
  have HI := Hid.intro hI
  have HK := Hid.intro k
  have HH := Hid.intro (And.intro hh ho)
  have c := h.ofC y hy
  rw [ho] at c
  have c' : w.cell? ⟨b, 138 + y, none⟩ = some (.int .i64 (-1)) := c
  have cf := h.frozen
  have hyI : (y : Int) < 20 := by omega
  have hnI : (n : Int) < 6 := by omega
  have S0 : Hid (Tb true (w.setCell ⟨b, 138 + y, none⟩ (.int .i64 (n : Int))) b (Sp.inT t [] n y) ∧ Frm b w (w.setCell ⟨b, 138 + y, none⟩ (.int .i64 (n : Int)))) := Hid.intro ⟨inT_start h hy, (Frm.refl b w).setCell _ _⟩
  clear h hI k hh ho c
  go_enter Try.func68, Try.ntmps68
  go_wp2_with fail
  refine (wrongPair_any b n y t _ HF.out).mono ?_
  rintro e w1 ⟨rfl, hw⟩
  subst w1
  rw [HK.out, errV_zero]
  go_wp2_with fail
  refine wp_gen (fun W => Tb true W b (Sp.inT t [] n y) ∧ Frm b w W) S0.out ?_
  rintro W1 ⟨h1, f1⟩
  have S1 := Hid.intro (And.intro h1 f1)
  clear h1 f1 S0 c' cf
  go_loopw [9] (fun i wr => ∃ (z : Int) (L : List Nat), i = .int .i64 z ∧ Hid (Tb true wr b (Sp.inT t L n y) ∧ Frm b w wr ∧ L ++ Sp.W t z = Sp.W t n ∧ (z = -1 ∨ ∃ m : Nat, z = m ∧ m < 6 ∧ t.here m = true))) (fun i _ => (Sp.W t (intOf i)).length)
  case atStart => exact ⟨n, [], rfl, S1.out.1, S1.out.2, rfl, .inr ⟨n, rfl, hn, HH.out.1⟩⟩
  case round =>
    clear S1
    obtain ⟨z, L, rfl, S⟩ := hrel
    rcases S.out.2.2.2 with rfl | ⟨m, rfl, hm, hmh⟩
    · have HE : Hid (L = Sp.W t n) := Hid.intro (by have := S.out.2.2.1; rw [Sp.W_neg t (-1) (by omega), List.append_nil] at this; exact this)
      have S2 : Hid (Tb true wr b (Sp.inT t (Sp.W t n) n y) ∧ Frm b w wr) := Hid.intro (by rw [← HE.out]; exact ⟨S.out.1, S.out.2.1⟩)
      clear S HE
      have h0 : Hid ((Sp.inT t (Sp.W t n) n y).who n 0 = 0) := Hid.intro (by
        show (if n ∈ Sp.W t n ∧ 0 = Sp.low t n then y + 1 else t.who n 0) = 0
        have := (HI.out.low hy HH.out.2 hn).1
        rw [if_neg (fun c => by omega)]; exact HI.out.who0 n hn)
      go_wp2_with fail
      refine (pid_any b n y _ _ S2.out.1 hn HH.out.1 h0.out).mono ?_
      rintro e w1 ⟨rfl, hw⟩
      subst w1
      go_wp2_with fail
      go_ret2
      exact ⟨rfl, S2.out⟩
    · have HMH := Hid.intro hmh
      have ST := Hid.intro (HI.out.tree.step hm hmh)
      have PC := Hid.intro (HI.out.tree.par_cases hm hmh)
      have LW := Hid.intro (HI.out.low hy HH.out.2 hm)
      have hmI : (m : Int) < 6 := by omega
      have hne := neg1_ne m
      have NM : Hid (m ∉ L) := Hid.intro (fun c => by
        have nd := HI.out.tree.nodup hn HH.out.1
        rw [← S.out.2.2.1, ST.out] at nd
        exact (List.nodup_append.1 nd).2.2 m c m (by simp) rfl)
      have SW : Hid (∀ p, (Sp.inT t L n y).who m p = t.who m p) := Hid.intro (fun p => by
        show (if m ∈ L ∧ p = Sp.low t m then y + 1 else t.who m p) = t.who m p
        rw [if_neg (fun c => NM.out c.1)])
      clear hmh
      go_wp2_with fail
      obtain ⟨l, hl⟩ : ∃ l, Sp.low t m = l := ⟨_, rfl⟩
      have HL := Hid.intro hl
      have hl21 : (l : Int) < 21 := by have := LW.out.2.1; omega
      clear hl
      go_region_held3 (fun _ => True) (trivial) ((go_at_call 132; refine (free_any b m _ _ S.out.1.drew hm HMH.out ⟨Sp.low t m, LW.out.1, LW.out.2.1, by rw [SW.out]; exact LW.out.2.2.1⟩).mono ?_; rintro e w2 ⟨rfl, hw2⟩; rw [Sp.low_same SW.out, HL.out]; subst hw2; have q1 := S.out.1.drew.cWho m l hm (by have := LW.out.2.1; rw [HL.out] at this; exact this); have qf := S.out.1.drew.frozen))
      clear q1 qf
      generalize hW2 : World.drew _ = W2
      have S2 : Hid (Tb true W2 b (Sp.inT t (L ++ [m]) n y) ∧ Frm b w W2) := Hid.intro (by
        rw [← hW2, ← HL.out]
        exact ⟨(inT_up S.out.1 hm HMH.out LW.out.2.1).drew, (S.out.2.1.setCell _ _).drew⟩)
      have c1 : W2.cell? ⟨b, m * 23 + 1, none⟩ = some (.int .i64 (t.par m)) := S2.out.1.cPar m hm
      clear hW2
      go_wp2_with fail
      go_roundw
      case rel =>
        refine ⟨t.par m, L ++ [m], by first | rfl | trivial, S2.out.1, S2.out.2, ?_, ?_⟩
        · have := S.out.2.2.1
          rw [ST.out] at this
          rw [← this]; simp
        · rcases PC.out with ⟨_, e, _⟩ | ⟨p, p1, p2, p3, _⟩
          · exact .inl e
          · exact .inr ⟨p, p2, p1, p3⟩
      case measure =>
        simp only [intOf]
        rw [ST.out, List.length_cons]
        omega

theorem enter_any (b : Nat) (z x : Int) (t : T) (d : Nat → Nat) (w : World) (h : Tb true w b t) (hI : Sp.Inv t d) :
    Calls Try.prog 68 #[.pointer (some ⟨b, 0, none⟩), .int .i64 z, .int .i64 x] w fun e w' => e = .returned (.tuple #[.int .i64 (Sp.entN t z x : Int), errV (Sp.entE t z x)]) ∧ Tb true w' b (Sp.entT t z x) ∧ Frm b w w' := by
  by_cases k : Sp.pairE t z x = 0
  · obtain ⟨n, y, rfl, rfl, hn, hy, hh⟩ := Sp.pairE_zero k
    by_cases ho : t.of y = 0
    · have e1 : Sp.entE t n y = 0 := by unfold Sp.entE; rw [if_pos k, Int.toNat_natCast, if_pos ho]
      have e3 : Sp.entT t n y = Sp.inT t (Sp.W t n) n y := by unfold Sp.entT; rw [e1, if_pos rfl, Int.toNat_natCast, Int.toNat_natCast]; rfl
      have e2 : Sp.entN t n y = Sp.pidOf (Sp.inT t (Sp.W t n) n y) n y := by unfold Sp.entN; rw [e1, if_pos rfl, e3, Int.toNat_natCast, Int.toNat_natCast]
      have i2 := hI.enter n y
      rw [e3] at i2
      have hp := i2.pid (n := n) (x := y) hn ⟨Sp.low t n, (hI.low hy ho hn).2.1, by
        show (if n ∈ Sp.W t n ∧ Sp.low t n = Sp.low t n then y + 1 else t.who n (Sp.low t n)) = y + 1
        rw [if_pos ⟨by rw [hI.tree.step hn hh]; simp, rfl⟩]⟩
      refine (enter_ok b n y t d w h hI k hn hh hy ho).mono ?_
      rintro e w' ⟨rfl, h1, h2⟩
      rw [e1, e2, e3]
      refine ⟨?_, h1, h2⟩
      unfold pidI; rw [if_neg hp.1]
    · have e1 : Sp.entE t n y = 3 := by unfold Sp.entE; rw [if_pos k, Int.toNat_natCast, if_neg ho]
      have e3 : Sp.entT t n y = t := by unfold Sp.entT; rw [e1]; rfl
      have e2 : Sp.entN t n y = 0 := by unfold Sp.entN; rw [e1]; rfl
      refine (enter_exist b n y t w h k hy ho).mono ?_
      rintro e w' ⟨rfl, rfl⟩
      rw [e1, e2, e3]; exact ⟨rfl, h, Frm.refl _ _⟩
  · have e1 : Sp.entE t z x = Sp.pairE t z x := by unfold Sp.entE; rw [if_neg k]
    have e3 : Sp.entT t z x = t := by unfold Sp.entT; rw [e1, if_neg k]
    have e2 : Sp.entN t z x = 0 := by unfold Sp.entN; rw [e1, if_neg k]
    refine (enter_wrong b z x t w h k).mono ?_
    rintro e w' ⟨rfl, rfl⟩
    rw [e1, e2, e3]; exact ⟨rfl, h, Frm.refl _ _⟩

set_option maxRecDepth 100000 in
set_option maxHeartbeats 400000 in
theorem leave_wrong (b : Nat) (x : Int) (t : T) (w : World) (h : Tb true w b t) (k : Sp.inE t x ≠ 0) :
    Calls Try.prog 70 #[.pointer (some ⟨b, 0, none⟩), .int .i64 x] w fun e w' => e = .returned (errV (Sp.inE t x)) ∧ w' = w := by
  have HF := Hid.intro h
  have HW := Hid.intro k
  clear h k
  go_enter Try.func70, Try.ntmps70
  go_wp2_with fail
  refine (of_any b x t _ HF.out).mono ?_
  rintro e w1 ⟨rfl, hw⟩
  subst w1
  rw [errV_ne HW.out]
  go_wp2
  go_ret
  rw [errV_ne HW.out]; exact ⟨rfl, rfl⟩
set_option maxRecDepth 100000 in
set_option maxHeartbeats 1000000 in
theorem leave_ok (b n y : Nat) (t : T) (d : Nat → Nat) (w : World) (h : Tb true w b t) (hI : Sp.Inv t d) (k : Sp.inE t y = 0) (hk : Sp.inN t y = n) (hn : n < 6) (hh : t.here n = true) (hy : y < 20) (ho : t.of y = n + 1) :
    Calls Try.prog 70 #[.pointer (some ⟨b, 0, none⟩), .int .i64 y] w fun e w' => e = .returned (errV 0) ∧ Tb true w' b (Sp.outT t (Sp.W t n) y) ∧ Frm b w w' := by
  have HF := Hid.intro h
  have HI := Hid.intro hI
  have HK := Hid.intro (And.intro k hk)
  have HH := Hid.intro (And.intro hh ho)
  have c := h.ofC y hy
  have cf := h.frozen
  have hyI : (y : Int) < 20 := by omega
  have hnI : (n : Int) < 6 := by omega
  have S0 : Hid (Tb true (w.setCell ⟨b, 138 + y, none⟩ (.int .i64 (-1))) b (Sp.outT t [] y) ∧ Frm b w (w.setCell ⟨b, 138 + y, none⟩ (.int .i64 (-1)))) := Hid.intro ⟨outT_start h hy, (Frm.refl b w).setCell _ _⟩
  clear h hI k hk hh ho
  go_enter Try.func70, Try.ntmps70
  go_wp2_with fail
  refine (of_any b y t _ HF.out).mono ?_
  rintro e w1 ⟨rfl, hw⟩
  subst w1
  rw [HK.out.1, HK.out.2, errV_zero]
  go_wp2_with fail
  refine wp_gen (fun W => Tb true W b (Sp.outT t [] y) ∧ Frm b w W) S0.out ?_
  rintro W1 ⟨h1, f1⟩
  have S1 := Hid.intro (And.intro h1 f1)
  clear h1 f1 S0 c cf
  go_loopw [7] (fun i wr => ∃ (z : Int) (L : List Nat), i = .int .i64 z ∧ Hid (Tb true wr b (Sp.outT t L y) ∧ Frm b w wr ∧ L ++ Sp.W t z = Sp.W t n ∧ (z = -1 ∨ ∃ m : Nat, z = m ∧ m < 6 ∧ t.here m = true))) (fun i _ => (Sp.W t (intOf i)).length)
  case atStart => exact ⟨n, [], rfl, S1.out.1, S1.out.2, rfl, .inr ⟨n, rfl, hn, HH.out.1⟩⟩
  case round =>
    clear S1
    obtain ⟨z, L, rfl, S⟩ := hrel
    rcases S.out.2.2.2 with rfl | ⟨m, rfl, hm, hmh⟩
    · have HE : Hid (L = Sp.W t n) := Hid.intro (by have := S.out.2.2.1; rw [Sp.W_neg t (-1) (by omega), List.append_nil] at this; exact this)
      have S2 : Hid (Tb true wr b (Sp.outT t (Sp.W t n) y) ∧ Frm b w wr) := Hid.intro (by rw [← HE.out]; exact ⟨S.out.1, S.out.2.1⟩)
      clear S HE
      go_wp2_with fail
      go_ret
      exact ⟨rfl, S2.out⟩
    · have HMH := Hid.intro hmh
      have ST := Hid.intro (HI.out.tree.step hm hmh)
      have PC := Hid.intro (HI.out.tree.par_cases hm hmh)
      have MW : Hid (m ∈ Sp.W t n) := Hid.intro (by rw [← S.out.2.2.1, ST.out]; simp)
      have LW := Hid.intro (HI.out.pid (x := y) hm ((HI.out.has m y hm hy).2 ⟨by rw [HH.out.2]; omega, by rw [HH.out.2, Nat.add_sub_cancel]; exact MW.out⟩))
      have hmI : (m : Int) < 6 := by omega
      have hne := neg1_ne m
      have NM : Hid (m ∉ L) := Hid.intro (fun c => by
        have nd := HI.out.tree.nodup hn HH.out.1
        rw [← S.out.2.2.1, ST.out] at nd
        exact (List.nodup_append.1 nd).2.2 m c m (by simp) rfl)
      have SW : Hid (∀ p, (Sp.outT t L y).who m p = t.who m p) := Hid.intro (fun p => by
        show (if m ∈ L ∧ t.who m p = y + 1 then 0 else t.who m p) = t.who m p
        rw [if_neg (fun c => NM.out c.1)])
      clear hmh
      go_wp2_with fail
      obtain ⟨l, hl⟩ : ∃ l, Sp.pidOf t m y = l := ⟨_, rfl⟩
      have HL := Hid.intro hl
      have hl21 : (l : Int) < 21 := by have := LW.out.2.1; omega
      clear hl
      go_region_held3 (fun _ => True) (trivial) ((go_at_call 133; refine (pid_any b m y _ _ S.out.1.drew hm HMH.out (by rw [SW.out]; exact HI.out.who0 m hm)).mono ?_; rintro e w2 ⟨rfl, hw2⟩; have hpi : pidI (Sp.outT t L y) m y = (l : Int) := (by unfold pidI; rw [Sp.pidOf_same SW.out, HL.out, if_neg (by have := LW.out.1; rw [HL.out] at this; exact this)]); rw [hpi]; subst hw2; have q1 := S.out.1.drew.cWho m l hm (by have := LW.out.2.1; rw [HL.out] at this; exact this); have qf := S.out.1.drew.frozen; clear hpi))
      clear q1 qf
      generalize hW2 : World.drew _ = W2
      have S2 : Hid (Tb true W2 b (Sp.outT t (L ++ [m]) y) ∧ Frm b w W2) := Hid.intro (by
        have lw := LW.out
        rw [HL.out] at lw
        rw [← hW2]
        exact ⟨(outT_up S.out.1 hm HMH.out lw.2.1 lw.2.2 (fun q hq e => HI.out.one m q l hm hq lw.2.1 (by rw [e, lw.2.2]) (by rw [e]; omega))).drew, (S.out.2.1.setCell _ _).drew⟩)
      have c1 : W2.cell? ⟨b, m * 23 + 1, none⟩ = some (.int .i64 (t.par m)) := S2.out.1.cPar m hm
      clear hW2
      go_wp2_with fail
      go_roundw
      case rel =>
        refine ⟨t.par m, L ++ [m], by first | rfl | trivial, S2.out.1, S2.out.2, ?_, ?_⟩
        · have := S.out.2.2.1
          rw [ST.out] at this
          rw [← this]; simp
        · rcases PC.out with ⟨_, e, _⟩ | ⟨p, p1, p2, p3, _⟩
          · exact .inl e
          · exact .inr ⟨p, p2, p1, p3⟩
      case measure =>
        simp only [intOf]
        rw [ST.out, List.length_cons]
        omega
theorem leave_any (b : Nat) (x : Int) (t : T) (d : Nat → Nat) (w : World) (h : Tb true w b t) (hI : Sp.Inv t d) :
    Calls Try.prog 70 #[.pointer (some ⟨b, 0, none⟩), .int .i64 x] w fun e w' => e = .returned (errV (Sp.inE t x)) ∧ Tb true w' b (Sp.leaT t x) ∧ Frm b w w' := by
  by_cases k : Sp.inE t x = 0
  · obtain ⟨y, rfl, hy, ho⟩ := Sp.inE_zero k
    have o := hI.ofs y hy ho
    have e2 : Sp.inN t y = t.of y - 1 := by unfold Sp.inN; rw [if_pos k, Int.toNat_natCast]
    refine (leave_ok b (t.of y - 1) y t d w h hI k e2 (by omega) o.2 hy (by omega)).mono ?_
    rintro e w' ⟨rfl, h1, h2⟩
    rw [k]
    refine ⟨rfl, ?_, h2⟩
    unfold Sp.leaT
    rw [k, if_pos rfl, Int.toNat_natCast]
    refine h1.congr (cell_sort (fun a ha => by rw [cellT_here true _ a ha, cellT_here true _ a ha]; rfl) (fun a ha => by rw [cellT_par true _ a ha, cellT_par true _ a ha]; rfl) (fun a q ha hq => ?_) (fun z hz => by rw [cellT_of, cellT_of]; rfl))
    rw [cellT_who true _ a q ha hq, cellT_who true _ a q ha hq]
    have e : (if a ∈ List.range 6 ∧ t.who a q = y + 1 then 0 else t.who a q) = (if a ∈ Sp.W t ((t.of y - 1 : Nat) : Int) ∧ t.who a q = y + 1 then 0 else t.who a q) := by
      by_cases c : t.who a q = y + 1
      · rw [if_pos ⟨by simpa using ha, c⟩, if_pos ⟨((hI.has a y ha hy).1 ⟨q, hq, c⟩).2, c⟩]
      · rw [if_neg (fun k => c k.2), if_neg (fun k => c k.2)]
    show Value.int .i64 (cw true (t.here a) (if a ∈ List.range 6 ∧ t.who a q = y + 1 then 0 else t.who a q)) = Value.int .i64 (cw true (t.here a) (if a ∈ Sp.W t ((t.of y - 1 : Nat) : Int) ∧ t.who a q = y + 1 then 0 else t.who a q))
    rw [e]
  · have e3 : Sp.leaT t x = t := by unfold Sp.leaT; rw [if_neg k]
    refine (leave_wrong b x t w h k).mono ?_
    rintro e w' ⟨rfl, rfl⟩
    rw [e3]; exact ⟨rfl, h, Frm.refl _ _⟩
end Go.Proofs.Ytgabfkaadflciaa

import Derived.Below
import Derived.Test.YtghogbngmcolmaaGreatQai
namespace Go.Proofs.YtghogbngmcolmaaGreat
open Go.RowKit
open Sp (T)
namespace Sp
theorem low_same {t t' : T} {n : Nat} (h : ∀ p, t'.who n p = t.who n p) : low t' n = low t n := by
  unfold low
  have : lowP t' n = lowP t n := by funext p; unfold lowP; rw [h]
  rw [this]
theorem pidOf_same {t t' : T} {n x : Nat} (h : ∀ p, t'.who n p = t.who n p) : pidOf t' n x = pidOf t n x := by
  unfold pidOf
  have : isP t' n x = isP t n x := by funext p; unfold isP; rw [h]
  rw [this]
theorem Inv.pid {t : T} {d : Nat → Nat} (h : Inv t d) {n x : Nat} (hn : n < 6) (he : ∃ p, p < 21 ∧ t.who n p = x + 1) : pidOf t n x ≠ 0 ∧ pidOf t n x < 21 ∧ t.who n (pidOf t n x) = x + 1 := by
  obtain ⟨p, hp, e⟩ := he
  unfold pidOf
  cases hf : (List.range 21).find? (isP t n x) with
  | none =>
    have := List.find?_eq_none.1 hf p (by simpa using hp)
    exact absurd (by unfold isP; simp [e]) this
  | some k =>
    have := find_lt hf
    have hk : t.who n k = x + 1 := by have := this.2.1; unfold isP at this; simpa using this
    refine ⟨fun c => ?_, this.1, hk⟩
    have c' : k = 0 := c
    rw [c', h.who0 n hn] at hk
    omega
def inT (t : T) (L : List Nat) (n y : Nat) : T := { putT t L y with of := upN t.of y (n + 1) }
def outT (t : T) (L : List Nat) (y : Nat) : T := { cutT t L y with of := upN t.of y 0 }
end Sp
section
variable {w : World} {b : Nat} {t : T}
theorem inT_start {n y : Nat} (h : Tb true w b t) (hy : y < 20) : Tb true (w.setCell ⟨b, 138 + y, none⟩ (.int .i64 (n : Int))) b (Sp.inT t [] n y) := by
  have := h.setOf y (n + 1) hy
  rw [show co true (n + 1) = (n : Int) by unfold co; simp] at this
  exact this.congr (cell_sort (fun m hm => by rw [cellT_here true _ m hm, cellT_here true _ m hm]; rfl) (fun m hm => by rw [cellT_par true _ m hm, cellT_par true _ m hm]; rfl) (fun m q hm hq => by rw [cellT_who true _ m q hm hq, cellT_who true _ m q hm hq]; simp [Sp.inT, Sp.putT]) (fun z hz => by rw [cellT_of, cellT_of]; rfl))
theorem inT_up {L : List Nat} {n y m : Nat} (h : Tb true w b (Sp.inT t L n y)) (hm : m < 6) (hh : t.here m = true) (hp : Sp.low t m < 21) : Tb true (w.setCell ⟨b, m * 23 + 2 + Sp.low t m, none⟩ (.int .i64 (y : Int))) b (Sp.inT t (L ++ [m]) n y) := by
  have := h.setWho m (Sp.low t m) (y + 1) hm hp
  rw [show cw true ((Sp.inT t L n y).here m) (y + 1) = (y : Int) by rw [show (Sp.inT t L n y).here m = t.here m from rfl, hh]; unfold cw; simp] at this
  refine this.congr (cell_sort (fun a ha => by rw [cellT_here true _ a ha, cellT_here true _ a ha]; rfl) (fun a ha => by rw [cellT_par true _ a ha, cellT_par true _ a ha]; rfl) (fun a q ha hq => ?_) (fun z hz => by rw [cellT_of, cellT_of]; rfl))
  rw [cellT_who true _ a q ha hq, cellT_who true _ a q ha hq]
  have e : (Sp.inT t (L ++ [m]) n y).who a q = (upW (Sp.inT t L n y) m (Sp.low t m) (y + 1)).who a q := by
    show (if a ∈ L ++ [m] ∧ q = Sp.low t a then y + 1 else t.who a q) = if a = m ∧ q = Sp.low t m then y + 1 else (if a ∈ L ∧ q = Sp.low t a then y + 1 else t.who a q)
    by_cases c : a = m
    · subst c
      by_cases c2 : q = Sp.low t a
      · rw [if_pos ⟨by simp, c2⟩, if_pos ⟨rfl, c2⟩]
      · rw [if_neg (fun k => c2 k.2), if_neg (fun k => c2 k.2), if_neg (fun k => c2 k.2)]
    · rw [if_neg (show ¬ (a = m ∧ q = Sp.low t m) from fun k => c k.1)]
      have : (a ∈ L ++ [m]) ↔ a ∈ L := by simp [c]
      simp only [this]
  rw [e]; rfl
theorem outT_start {y : Nat} (h : Tb true w b t) (hy : y < 20) : Tb true (w.setCell ⟨b, 138 + y, none⟩ (.int .i64 (-1))) b (Sp.outT t [] y) := by
  have := h.setOf y 0 hy
  exact this.congr (cell_sort (fun m hm => by rw [cellT_here true _ m hm, cellT_here true _ m hm]; rfl) (fun m hm => by rw [cellT_par true _ m hm, cellT_par true _ m hm]; rfl) (fun m q hm hq => by rw [cellT_who true _ m q hm hq, cellT_who true _ m q hm hq]; simp [Sp.outT, Sp.cutT]) (fun z hz => by rw [cellT_of, cellT_of]; rfl))
theorem outT_up {L : List Nat} {y m p : Nat} (h : Tb true w b (Sp.outT t L y)) (hm : m < 6) (hh : t.here m = true) (hp : p < 21) (e1 : t.who m p = y + 1) (e2 : ∀ q, q < 21 → t.who m q = y + 1 → q = p) : Tb true (w.setCell ⟨b, m * 23 + 2 + p, none⟩ (.int .i64 (-1))) b (Sp.outT t (L ++ [m]) y) := by
  have := h.setWho m p 0 hm hp
  rw [show cw true ((Sp.outT t L y).here m) 0 = -1 by rw [show (Sp.outT t L y).here m = t.here m from rfl, hh]; rfl] at this
  refine this.congr (cell_sort (fun a ha => by rw [cellT_here true _ a ha, cellT_here true _ a ha]; rfl) (fun a ha => by rw [cellT_par true _ a ha, cellT_par true _ a ha]; rfl) (fun a q ha hq => ?_) (fun z hz => by rw [cellT_of, cellT_of]; rfl))
  rw [cellT_who true _ a q ha hq, cellT_who true _ a q ha hq]
  have e : (Sp.outT t (L ++ [m]) y).who a q = (upW (Sp.outT t L y) m p 0).who a q := by
    show (if a ∈ L ++ [m] ∧ t.who a q = y + 1 then 0 else t.who a q) = if a = m ∧ q = p then 0 else (if a ∈ L ∧ t.who a q = y + 1 then 0 else t.who a q)
    by_cases c : a = m
    · subst c
      by_cases c2 : q = p
      · rw [if_pos ⟨by simp, by rw [c2]; exact e1⟩, if_pos ⟨rfl, c2⟩]
      · have c3 : t.who a q ≠ y + 1 := fun k => c2 (e2 q hq k)
        rw [if_neg (fun k => c3 k.2), if_neg (fun k => c2 k.2), if_neg (fun k => c3 k.2)]
    · rw [if_neg (show ¬ (a = m ∧ q = p) from fun k => c k.1)]
      have : (a ∈ L ++ [m]) ↔ a ∈ L := by simp [c]
      simp only [this]
  rw [e]; rfl
end
set_option maxRecDepth 100000 in
set_option maxHeartbeats 400000 in
theorem enter_wrong (b : Nat) (z x : Int) (t : T) (w : World) (h : Tb true w b t) (k : Sp.pairE t z x ≠ 0) :
    Calls Tryz.prog 69 #[.pointer (some ⟨b, 0, none⟩), .int .i64 z, .int .i64 x] w fun e w' => e = .returned (.tuple #[.int .i64 0, errV (Sp.pairE t z x)]) ∧ w' = w := by
  have HF := Hid.intro h
  have HW := Hid.intro k
  clear h k
  go_enter Tryz.func69, Tryz.ntmps69
  go_wp2_with fail
  refine (wrongPair_any b z x t _ HF.out).mono ?_
  rintro e w1 ⟨rfl, hw⟩
  subst w1
  rw [errV_ne HW.out]
  go_wp2
  go_ret2
  rw [errV_ne HW.out]; exact ⟨rfl, rfl⟩
set_option maxRecDepth 100000 in
set_option maxHeartbeats 400000 in
theorem enter_exist (b n y : Nat) (t : T) (w : World) (h : Tb true w b t) (k : Sp.pairE t n y = 0) (hy : y < 20) (ho : t.of y ≠ 0) :
    Calls Tryz.prog 69 #[.pointer (some ⟨b, 0, none⟩), .int .i64 n, .int .i64 y] w fun e w' => e = .returned (.tuple #[.int .i64 0, errV 3]) ∧ w' = w := by
  have HF := Hid.intro h
  have HK := Hid.intro k
  have c := h.ofC y hy
  have hyI : (y : Int) < 20 := by omega
  obtain ⟨v, hv⟩ : ∃ v, (t.of y : Int) - 1 = v := ⟨_, rfl⟩
  have v0 : (v == -1) = false := by simp; omega
  rw [hv] at c
  clear h k hv ho
  go_enter Tryz.func69, Tryz.ntmps69
  go_wp2_with fail
  refine (wrongPair_any b n y t _ HF.out).mono ?_
  rintro e w1 ⟨rfl, hw⟩
  subst w1
  rw [HK.out, errV_zero]
  go_wp2
  go_ret2
  exact ⟨rfl, rfl⟩
set_option maxRecDepth 100000 in
set_option maxHeartbeats 1000000 in
theorem enter_ok (b n y : Nat) (t : T) (d : Nat → Nat) (w : World) (h : Tb true w b t) (hI : Sp.Inv t d) (k : Sp.pairE t n y = 0) (hn : n < 6) (hh : t.here n = true) (hy : y < 20) (ho : t.of y = 0) :
    Calls Tryz.prog 69 #[.pointer (some ⟨b, 0, none⟩), .int .i64 n, .int .i64 y] w fun e w' => e = .returned (.tuple #[.int .i64 (pidI (Sp.inT t (Sp.W t n) n y) n y), errV 0]) ∧ Tb true w' b (Sp.inT t (Sp.W t n) n y) ∧ Frm b w w' := by
  have HF := Hid.intro h
  have HI := Hid.intro hI
  have HK := Hid.intro k
  have HH := Hid.intro (And.intro hh ho)
  have c := h.ofC y hy
  rw [ho] at c
  have c' : w.cell? ⟨b, 138 + y, none⟩ = some (.int .i64 (-1)) := c
  have cf := h.frozen
  have hyI : (y : Int) < 20 := by omega
  have hnI : (n : Int) < 6 := by omega
  have S0 : Hid (Tb true (w.setCell ⟨b, 138 + y, none⟩ (.int .i64 (n : Int))) b (Sp.inT t [] n y) ∧ Frm b w (w.setCell ⟨b, 138 + y, none⟩ (.int .i64 (n : Int)))) := Hid.intro ⟨inT_start h hy, (Frm.refl b w).setCell _ _⟩
  clear h hI k hh ho c
  go_enter Tryz.func69, Tryz.ntmps69
  go_wp2_with fail
  refine (wrongPair_any b n y t _ HF.out).mono ?_
  rintro e w1 ⟨rfl, hw⟩
  subst w1
  rw [HK.out, errV_zero]
  go_wp2_with fail
  refine wp_gen (fun W => Tb true W b (Sp.inT t [] n y) ∧ Frm b w W) S0.out ?_
  rintro W1 ⟨h1, f1⟩
  have S1 := Hid.intro (And.intro h1 f1)
  clear h1 f1 S0 c' cf
  go_loopw [9] (fun i wr => ∃ (z : Int) (L : List Nat), i = .int .i64 z ∧ Hid (Tb true wr b (Sp.inT t L n y) ∧ Frm b w wr ∧ L ++ Sp.W t z = Sp.W t n ∧ (z = -1 ∨ ∃ m : Nat, z = m ∧ m < 6 ∧ t.here m = true))) (fun i _ => (Sp.W t (intOf i)).length)
  case atStart => exact ⟨n, [], rfl, S1.out.1, S1.out.2, rfl, .inr ⟨n, rfl, hn, HH.out.1⟩⟩
  case round =>
    clear S1
    obtain ⟨z, L, rfl, S⟩ := hrel
    rcases S.out.2.2.2 with rfl | ⟨m, rfl, hm, hmh⟩
    · have HE : Hid (L = Sp.W t n) := Hid.intro (by have := S.out.2.2.1; rw [Sp.W_neg t (-1) (by omega), List.append_nil] at this; exact this)
      have S2 : Hid (Tb true wr b (Sp.inT t (Sp.W t n) n y) ∧ Frm b w wr) := Hid.intro (by rw [← HE.out]; exact ⟨S.out.1, S.out.2.1⟩)
      clear S HE
      have h0 : Hid ((Sp.inT t (Sp.W t n) n y).who n 0 = 0) := Hid.intro (by
        show (if n ∈ Sp.W t n ∧ 0 = Sp.low t n then y + 1 else t.who n 0) = 0
        have := (HI.out.low hy HH.out.2 hn).1
        rw [if_neg (fun c => by omega)]; exact HI.out.who0 n hn)
      go_wp2_with fail
      refine (pid_any b n y _ _ S2.out.1 hn HH.out.1 h0.out).mono ?_
      rintro e w1 ⟨rfl, hw⟩
      subst w1
      go_wp2_with fail
      go_ret2
      exact ⟨rfl, S2.out⟩
    · have HMH := Hid.intro hmh
      have ST := Hid.intro (HI.out.tree.step hm hmh)
      have PC := Hid.intro (HI.out.tree.par_cases hm hmh)
      have LW := Hid.intro (HI.out.low hy HH.out.2 hm)
      have hmI : (m : Int) < 6 := by omega
      have hne := neg1_ne m
      have NM : Hid (m ∉ L) := Hid.intro (fun c => by
        have nd := HI.out.tree.nodup hn HH.out.1
        rw [← S.out.2.2.1, ST.out] at nd
        exact (List.nodup_append.1 nd).2.2 m c m (by simp) rfl)
      have SW : Hid (∀ p, (Sp.inT t L n y).who m p = t.who m p) := Hid.intro (fun p => by
        show (if m ∈ L ∧ p = Sp.low t m then y + 1 else t.who m p) = t.who m p
        rw [if_neg (fun c => NM.out c.1)])
      clear hmh
      go_wp2_with fail
      obtain ⟨l, hl⟩ : ∃ l, Sp.low t m = l := ⟨_, rfl⟩
      have HL := Hid.intro hl
      have hl21 : (l : Int) < 21 := by have := LW.out.2.1; omega
      clear hl
      go_region_held3 (fun _ => True) (trivial) ((go_at_call 117; refine (free_any b m _ _ S.out.1.drew hm HMH.out ⟨Sp.low t m, LW.out.1, LW.out.2.1, by rw [SW.out]; exact LW.out.2.2.1⟩).mono ?_; rintro e w2 ⟨rfl, hw2⟩; rw [Sp.low_same SW.out, HL.out]; subst hw2; have q1 := S.out.1.drew.cWho m l hm (by have := LW.out.2.1; rw [HL.out] at this; exact this); have qf := S.out.1.drew.frozen))
      clear q1 qf
      generalize hW2 : World.drew _ = W2
      have S2 : Hid (Tb true W2 b (Sp.inT t (L ++ [m]) n y) ∧ Frm b w W2) := Hid.intro (by
        rw [← hW2, ← HL.out]
        exact ⟨(inT_up S.out.1 hm HMH.out LW.out.2.1).drew, (S.out.2.1.setCell _ _).drew⟩)
      have c1 : W2.cell? ⟨b, m * 23 + 1, none⟩ = some (.int .i64 (t.par m)) := S2.out.1.cPar m hm
      clear hW2
      go_wp2_with fail
      go_roundw
      case rel =>
        refine ⟨t.par m, L ++ [m], by first | rfl | trivial, S2.out.1, S2.out.2, ?_, ?_⟩
        · have := S.out.2.2.1
          rw [ST.out] at this
          rw [← this]; simp
        · rcases PC.out with ⟨_, e, _⟩ | ⟨p, p1, p2, p3, _⟩
          · exact .inl e
          · exact .inr ⟨p, p2, p1, p3⟩
      case measure =>
        simp only [intOf]
        rw [ST.out, List.length_cons]
        omega
theorem enter_any (b : Nat) (z x : Int) (t : T) (d : Nat → Nat) (w : World) (h : Tb true w b t) (hI : Sp.Inv t d) :
    Calls Tryz.prog 69 #[.pointer (some ⟨b, 0, none⟩), .int .i64 z, .int .i64 x] w fun e w' => e = .returned (.tuple #[.int .i64 (Sp.entN t z x : Int), errV (Sp.entE t z x)]) ∧ Tb true w' b (Sp.entT t z x) ∧ Frm b w w' := by
  by_cases k : Sp.pairE t z x = 0
  · obtain ⟨n, y, rfl, rfl, hn, hy, hh⟩ := Sp.pairE_zero k
    by_cases ho : t.of y = 0
    · have e1 : Sp.entE t n y = 0 := by unfold Sp.entE; rw [if_pos k, Int.toNat_natCast, if_pos ho]
      have e3 : Sp.entT t n y = Sp.inT t (Sp.W t n) n y := by unfold Sp.entT; rw [e1, if_pos rfl, Int.toNat_natCast, Int.toNat_natCast]; rfl
      have e2 : Sp.entN t n y = Sp.pidOf (Sp.inT t (Sp.W t n) n y) n y := by unfold Sp.entN; rw [e1, if_pos rfl, e3, Int.toNat_natCast, Int.toNat_natCast]
      have i2 := hI.enter n y
      rw [e3] at i2
      have hp := i2.pid (n := n) (x := y) hn ⟨Sp.low t n, (hI.low hy ho hn).2.1, by
        show (if n ∈ Sp.W t n ∧ Sp.low t n = Sp.low t n then y + 1 else t.who n (Sp.low t n)) = y + 1
        rw [if_pos ⟨by rw [hI.tree.step hn hh]; simp, rfl⟩]⟩
      refine (enter_ok b n y t d w h hI k hn hh hy ho).mono ?_
      rintro e w' ⟨rfl, h1, h2⟩
      rw [e1, e2, e3]
      refine ⟨?_, h1, h2⟩
      unfold pidI; rw [if_neg hp.1]
    · have e1 : Sp.entE t n y = 3 := by unfold Sp.entE; rw [if_pos k, Int.toNat_natCast, if_neg ho]
      have e3 : Sp.entT t n y = t := by unfold Sp.entT; rw [e1]; rfl
      have e2 : Sp.entN t n y = 0 := by unfold Sp.entN; rw [e1]; rfl
      refine (enter_exist b n y t w h k hy ho).mono ?_
      rintro e w' ⟨rfl, rfl⟩
      rw [e1, e2, e3]; exact ⟨rfl, h, Frm.refl _ _⟩
  · have e1 : Sp.entE t z x = Sp.pairE t z x := by unfold Sp.entE; rw [if_neg k]
    have e3 : Sp.entT t z x = t := by unfold Sp.entT; rw [e1, if_neg k]
    have e2 : Sp.entN t z x = 0 := by unfold Sp.entN; rw [e1, if_neg k]
    refine (enter_wrong b z x t w h k).mono ?_
    rintro e w' ⟨rfl, rfl⟩
    rw [e1, e2, e3]; exact ⟨rfl, h, Frm.refl _ _⟩
set_option maxRecDepth 100000 in
set_option maxHeartbeats 400000 in
theorem leave_wrong (b : Nat) (x : Int) (t : T) (w : World) (h : Tb true w b t) (k : Sp.inE t x ≠ 0) :
    Calls Tryz.prog 82 #[.pointer (some ⟨b, 0, none⟩), .int .i64 x] w fun e w' => e = .returned (errV (Sp.inE t x)) ∧ w' = w := by
  have HF := Hid.intro h
  have HW := Hid.intro k
  clear h k
  go_enter Tryz.func82, Tryz.ntmps82
  go_wp2_with fail
  refine (of_any b x t _ HF.out).mono ?_
  rintro e w1 ⟨rfl, hw⟩
  subst w1
  rw [errV_ne HW.out]
  go_wp2
  go_ret
  rw [errV_ne HW.out]; exact ⟨rfl, rfl⟩
set_option maxRecDepth 100000 in
set_option maxHeartbeats 1000000 in
theorem leave_ok (b n y : Nat) (t : T) (d : Nat → Nat) (w : World) (h : Tb true w b t) (hI : Sp.Inv t d) (k : Sp.inE t y = 0) (hk : Sp.inN t y = n) (hn : n < 6) (hh : t.here n = true) (hy : y < 20) (ho : t.of y = n + 1) :
    Calls Tryz.prog 82 #[.pointer (some ⟨b, 0, none⟩), .int .i64 y] w fun e w' => e = .returned (errV 0) ∧ Tb true w' b (Sp.outT t (Sp.W t n) y) ∧ Frm b w w' := by
  have HF := Hid.intro h
  have HI := Hid.intro hI
  have HK := Hid.intro (And.intro k hk)
  have HH := Hid.intro (And.intro hh ho)
  have c := h.ofC y hy
  have cf := h.frozen
  have hyI : (y : Int) < 20 := by omega
  have hnI : (n : Int) < 6 := by omega
  have S0 : Hid (Tb true (w.setCell ⟨b, 138 + y, none⟩ (.int .i64 (-1))) b (Sp.outT t [] y) ∧ Frm b w (w.setCell ⟨b, 138 + y, none⟩ (.int .i64 (-1)))) := Hid.intro ⟨outT_start h hy, (Frm.refl b w).setCell _ _⟩
  clear h hI k hk hh ho
  go_enter Tryz.func82, Tryz.ntmps82
  go_wp2_with fail
  refine (of_any b y t _ HF.out).mono ?_
  rintro e w1 ⟨rfl, hw⟩
  subst w1
  rw [HK.out.1, HK.out.2, errV_zero]
  go_wp2_with fail
  refine wp_gen (fun W => Tb true W b (Sp.outT t [] y) ∧ Frm b w W) S0.out ?_
  rintro W1 ⟨h1, f1⟩
  have S1 := Hid.intro (And.intro h1 f1)
  clear h1 f1 S0 c cf
  go_loopw [7] (fun i wr => ∃ (z : Int) (L : List Nat), i = .int .i64 z ∧ Hid (Tb true wr b (Sp.outT t L y) ∧ Frm b w wr ∧ L ++ Sp.W t z = Sp.W t n ∧ (z = -1 ∨ ∃ m : Nat, z = m ∧ m < 6 ∧ t.here m = true))) (fun i _ => (Sp.W t (intOf i)).length)
  case atStart => exact ⟨n, [], rfl, S1.out.1, S1.out.2, rfl, .inr ⟨n, rfl, hn, HH.out.1⟩⟩
  case round =>
    clear S1
    obtain ⟨z, L, rfl, S⟩ := hrel
    rcases S.out.2.2.2 with rfl | ⟨m, rfl, hm, hmh⟩
    · have HE : Hid (L = Sp.W t n) := Hid.intro (by have := S.out.2.2.1; rw [Sp.W_neg t (-1) (by omega), List.append_nil] at this; exact this)
      have S2 : Hid (Tb true wr b (Sp.outT t (Sp.W t n) y) ∧ Frm b w wr) := Hid.intro (by rw [← HE.out]; exact ⟨S.out.1, S.out.2.1⟩)
      clear S HE
      go_wp2_with fail
      go_ret
      exact ⟨rfl, S2.out⟩
    · have HMH := Hid.intro hmh
      have ST := Hid.intro (HI.out.tree.step hm hmh)
      have PC := Hid.intro (HI.out.tree.par_cases hm hmh)
      have MW : Hid (m ∈ Sp.W t n) := Hid.intro (by rw [← S.out.2.2.1, ST.out]; simp)
      have LW := Hid.intro (HI.out.pid (x := y) hm ((HI.out.has m y hm hy).2 ⟨by rw [HH.out.2]; omega, by rw [HH.out.2, Nat.add_sub_cancel]; exact MW.out⟩))
      have hmI : (m : Int) < 6 := by omega
      have hne := neg1_ne m
      have NM : Hid (m ∉ L) := Hid.intro (fun c => by
        have nd := HI.out.tree.nodup hn HH.out.1
        rw [← S.out.2.2.1, ST.out] at nd
        exact (List.nodup_append.1 nd).2.2 m c m (by simp) rfl)
      have SW : Hid (∀ p, (Sp.outT t L y).who m p = t.who m p) := Hid.intro (fun p => by
        show (if m ∈ L ∧ t.who m p = y + 1 then 0 else t.who m p) = t.who m p
        rw [if_neg (fun c => NM.out c.1)])
      clear hmh
      go_wp2_with fail
      obtain ⟨l, hl⟩ : ∃ l, Sp.pidOf t m y = l := ⟨_, rfl⟩
      have HL := Hid.intro hl
      have hl21 : (l : Int) < 21 := by have := LW.out.2.1; omega
      clear hl
      go_region_held3 (fun _ => True) (trivial) ((go_at_call 118; refine (pid_any b m y _ _ S.out.1.drew hm HMH.out (by rw [SW.out]; exact HI.out.who0 m hm)).mono ?_; rintro e w2 ⟨rfl, hw2⟩; have hpi : pidI (Sp.outT t L y) m y = (l : Int) := (by unfold pidI; rw [Sp.pidOf_same SW.out, HL.out, if_neg (by have := LW.out.1; rw [HL.out] at this; exact this)]); rw [hpi]; subst hw2; have q1 := S.out.1.drew.cWho m l hm (by have := LW.out.2.1; rw [HL.out] at this; exact this); have qf := S.out.1.drew.frozen; clear hpi))
      clear q1 qf
      generalize hW2 : World.drew _ = W2
      have S2 : Hid (Tb true W2 b (Sp.outT t (L ++ [m]) y) ∧ Frm b w W2) := Hid.intro (by
        have lw := LW.out
        rw [HL.out] at lw
        rw [← hW2]
        exact ⟨(outT_up S.out.1 hm HMH.out lw.2.1 lw.2.2 (fun q hq e => HI.out.one m q l hm hq lw.2.1 (by rw [e, lw.2.2]) (by rw [e]; omega))).drew, (S.out.2.1.setCell _ _).drew⟩)
      have c1 : W2.cell? ⟨b, m * 23 + 1, none⟩ = some (.int .i64 (t.par m)) := S2.out.1.cPar m hm
      clear hW2
      go_wp2_with fail
      go_roundw
      case rel =>
        refine ⟨t.par m, L ++ [m], by first | rfl | trivial, S2.out.1, S2.out.2, ?_, ?_⟩
        · have := S.out.2.2.1
          rw [ST.out] at this
          rw [← this]; simp
        · rcases PC.out with ⟨_, e, _⟩ | ⟨p, p1, p2, p3, _⟩
          · exact .inl e
          · exact .inr ⟨p, p2, p1, p3⟩
      case measure =>
        simp only [intOf]
        rw [ST.out, List.length_cons]
        omega
theorem leave_any (b : Nat) (x : Int) (t : T) (d : Nat → Nat) (w : World) (h : Tb true w b t) (hI : Sp.Inv t d) :
    Calls Tryz.prog 82 #[.pointer (some ⟨b, 0, none⟩), .int .i64 x] w fun e w' => e = .returned (errV (Sp.inE t x)) ∧ Tb true w' b (Sp.leaT t x) ∧ Frm b w w' := by
  by_cases k : Sp.inE t x = 0
  · obtain ⟨y, rfl, hy, ho⟩ := Sp.inE_zero k
    have o := hI.ofs y hy ho
    have e2 : Sp.inN t y = t.of y - 1 := by unfold Sp.inN; rw [if_pos k, Int.toNat_natCast]
    refine (leave_ok b (t.of y - 1) y t d w h hI k e2 (by omega) o.2 hy (by omega)).mono ?_
    rintro e w' ⟨rfl, h1, h2⟩
    rw [k]
    refine ⟨rfl, ?_, h2⟩
    unfold Sp.leaT
    rw [k, if_pos rfl, Int.toNat_natCast]
    refine h1.congr (cell_sort (fun a ha => by rw [cellT_here true _ a ha, cellT_here true _ a ha]; rfl) (fun a ha => by rw [cellT_par true _ a ha, cellT_par true _ a ha]; rfl) (fun a q ha hq => ?_) (fun z hz => by rw [cellT_of, cellT_of]; rfl))
    rw [cellT_who true _ a q ha hq, cellT_who true _ a q ha hq]
    have e : (if a ∈ List.range 6 ∧ t.who a q = y + 1 then 0 else t.who a q) = (if a ∈ Sp.W t ((t.of y - 1 : Nat) : Int) ∧ t.who a q = y + 1 then 0 else t.who a q) := by
      by_cases c : t.who a q = y + 1
      · rw [if_pos ⟨by simpa using ha, c⟩, if_pos ⟨((hI.has a y ha hy).1 ⟨q, hq, c⟩).2, c⟩]
      · rw [if_neg (fun k => c k.2), if_neg (fun k => c k.2)]
    show Value.int .i64 (cw true (t.here a) (if a ∈ List.range 6 ∧ t.who a q = y + 1 then 0 else t.who a q)) = Value.int .i64 (cw true (t.here a) (if a ∈ Sp.W t ((t.of y - 1 : Nat) : Int) ∧ t.who a q = y + 1 then 0 else t.who a q))
    rw [e]
  · have e3 : Sp.leaT t x = t := by unfold Sp.leaT; rw [if_neg k]
    refine (leave_wrong b x t w h k).mono ?_
    rintro e w' ⟨rfl, rfl⟩
    rw [e3]; exact ⟨rfl, h, Frm.refl _ _⟩
end Go.Proofs.YtghogbngmcolmaaGreat
namespace Go.Proofs.YtghogbngmcolmaaGreat
namespace Bd
structure P where
  ord : Nat → Nat
  tk : Nat → Bool
def sz (k : Nat) : Nat := 2 ^ (k - 1)
theorem sz_cases {M : Nat → Nat → Prop} (h1 : M 1 1) (h2 : M 2 2) (h3 : M 3 4) (h4 : M 4 8) (h5 : M 5 16) (h6 : M 6 32) (h7 : M 7 64) (k : Nat) (a : 1 ≤ k) (b : k ≤ 7) : M k (sz k) := by
  match k, a, b with
  | 1, _, _ => exact h1
  | 2, _, _ => exact h2
  | 3, _, _ => exact h3
  | 4, _, _ => exact h4
  | 5, _, _ => exact h5
  | 6, _, _ => exact h6
  | 7, _, _ => exact h7
theorem sz_succ {k : Nat} (h : 1 ≤ k) : sz (k + 1) = 2 * sz k := by
  unfold sz
  obtain ⟨j, rfl⟩ : ∃ j, k = j + 1 := ⟨k - 1, by omega⟩
  rw [Nat.add_sub_cancel, Nat.add_sub_cancel, Nat.pow_succ]; omega
theorem sz_pos (k : Nat) : 0 < sz k := Nat.two_pow_pos _
def bud (i s : Nat) : Nat := if i / s % 2 = 1 then i - s else i + s
structure Inv (b : P) : Prop where
  le : ∀ i, i < 64 → b.ord i ≤ 7
  al : ∀ i, i < 64 → 0 < b.ord i → i % sz (b.ord i) = 0 ∧ i + sz (b.ord i) ≤ 64
  own : ∀ i j, i < 64 → 0 < b.ord i → i < j → j < i + sz (b.ord i) → b.ord j = 0
  cov : ∀ j, j < 64 → ∃ i, i ≤ j ∧ 0 < b.ord i ∧ j < i + sz (b.ord i)
  tk : ∀ i, i < 64 → b.tk i = true → 0 < b.ord i
def NB (b : P) (e : Nat) : Prop := ∀ i, i < 64 → 0 < b.ord i → b.ord i < 7 → b.tk i = false → i ≠ e → bud i (sz (b.ord i)) ≠ e → ¬ (b.ord (bud i (sz (b.ord i))) = b.ord i ∧ b.tk (bud i (sz (b.ord i))) = false)
def up (f : Nat → Nat) (i v : Nat) : Nat → Nat := fun j => if j = i then v else f j
def upb (f : Nat → Bool) (i : Nat) (v : Bool) : Nat → Bool := fun j => if j = i then v else f j
def half (b : P) (i : Nat) : P := { b with ord := up (up b.ord i (b.ord i - 1)) (i + sz (b.ord i - 1)) (b.ord i - 1) }
def join (b : P) (lo hi : Nat) : P := { b with ord := up (up b.ord hi 0) lo (b.ord lo + 1) }
section
variable {b : P}
theorem al_half {i s : Nat} {k : Nat} (hk : 1 ≤ k) (hk6 : k ≤ 6) (hs : s = sz k) (h : i % sz (k + 1) = 0) : i % s = 0 ∧ (i + s) % s = 0 ∧ bud (i + s) s = i ∧ bud i s = i + s := by
  rw [sz_succ hk, ← hs] at h
  have : ∀ k, 1 ≤ k → k ≤ 7 → ∀ i, i % (2 * sz k) = 0 → i % sz k = 0 ∧ (i + sz k) % sz k = 0 ∧ bud (i + sz k) (sz k) = i ∧ bud i (sz k) = i + sz k := by
    refine sz_cases (M := fun _ s => ∀ i, i % (2 * s) = 0 → i % s = 0 ∧ (i + s) % s = 0 ∧ bud (i + s) s = i ∧ bud i s = i + s) ?_ ?_ ?_ ?_ ?_ ?_ ?_
    all_goals
      intro i hi
      unfold bud
      refine ⟨by omega, by omega, ?_, ?_⟩
      · rw [if_pos (by omega)]; omega
      · rw [if_neg (by omega)]
  rw [hs] at h ⊢
  exact this k hk (by omega) i h
theorem bud_bud {i k : Nat} (hk : 1 ≤ k) (hk6 : k ≤ 6) (h : i % sz k = 0) : bud (bud i (sz k)) (sz k) = i ∧ (bud i (sz k)) % sz k = 0 ∧ bud i (sz k) ≠ i := by
  have : ∀ k, 1 ≤ k → k ≤ 7 → ∀ i, i % sz k = 0 → bud (bud i (sz k)) (sz k) = i ∧ (bud i (sz k)) % sz k = 0 ∧ bud i (sz k) ≠ i := by
    refine sz_cases (M := fun _ s => ∀ i, i % s = 0 → bud (bud i s) s = i ∧ (bud i s) % s = 0 ∧ bud i s ≠ i) ?_ ?_ ?_ ?_ ?_ ?_ ?_
    all_goals
      intro i hi
      refine ⟨?_, ?_, ?_⟩ <;> (unfold bud; repeat' split) <;> omega
  exact this k hk (by omega) i h
theorem bud_lo {i k : Nat} (hk : 1 ≤ k) (hk6 : k ≤ 6) (h : i % sz k = 0) : (min i (bud i (sz k))) % sz (k + 1) = 0 ∧ max i (bud i (sz k)) = min i (bud i (sz k)) + sz k := by
  rw [sz_succ hk]
  have : ∀ k, 1 ≤ k → k ≤ 7 → ∀ i, i % sz k = 0 → (min i (bud i (sz k))) % (2 * sz k) = 0 ∧ max i (bud i (sz k)) = min i (bud i (sz k)) + sz k := by
    refine sz_cases (M := fun _ s => ∀ i, i % s = 0 → (min i (bud i s)) % (2 * s) = 0 ∧ max i (bud i s) = min i (bud i s) + s) ?_ ?_ ?_ ?_ ?_ ?_ ?_
    all_goals
      intro i hi
      refine ⟨?_, ?_⟩ <;> (unfold bud; split) <;> omega
  exact this k hk (by omega) i h
theorem Inv.half (h : Inv b) {i : Nat} (hi : i < 64) (ho : 2 ≤ b.ord i) (ht : b.tk i = false) : Inv (half b i) ∧ (half b i).ord i = b.ord i - 1 ∧ (half b i).tk = b.tk := by
  obtain ⟨k, hk⟩ : ∃ k, b.ord i = k + 1 := ⟨b.ord i - 1, by omega⟩
  have hk1 : 1 ≤ k := by omega
  have hle := h.le i hi
  have al := h.al i hi (by omega)
  rw [hk] at al
  have ah := al_half hk1 (by omega) rfl al.1
  have hs := sz_succ hk1
  have sp := sz_pos k
  obtain ⟨s, es⟩ : ∃ s, sz k = s := ⟨_, rfl⟩
  have own := h.own i
  rw [hk] at own
  have eo : ∀ x, (Bd.half b i).ord x = if x = i + s then k else if x = i then k else b.ord x := fun x => by
    unfold Bd.half up
    rw [hk, Nat.add_sub_cancel, es]
  rw [es] at ah hs sp
  have ei : (Bd.half b i).ord i = k := by rw [eo, if_neg (by omega), if_pos rfl]
  have eu : (Bd.half b i).ord (i + s) = k := by rw [eo, if_pos rfl]
  have en : ∀ x, x ≠ i → x ≠ i + s → (Bd.half b i).ord x = b.ord x := fun x h1 h2 => by rw [eo, if_neg h2, if_neg h1]
  have ou : b.ord (i + s) = 0 := own (i + s) hi (by omega) (by omega) (by omega)
  refine ⟨⟨fun x hx => ?_, fun x hx h0 => ?_, fun x y hx h0 h1 h2 => ?_, fun y hy => ?_, fun x hx h0 => ?_⟩, by rw [ei, hk]; rfl, rfl⟩
  · by_cases c1 : x = i
    · rw [c1, ei]; omega
    · by_cases c2 : x = i + s
      · rw [c2, eu]; omega
      · rw [en x c1 c2]; exact h.le x hx
  · by_cases c1 : x = i
    · rw [c1, ei, es]; exact ⟨ah.1, by omega⟩
    · by_cases c2 : x = i + s
      · rw [c2, eu, es]; exact ⟨ah.2.1, by omega⟩
      · rw [en x c1 c2] at h0 ⊢; exact h.al x hx h0
  · by_cases c1 : x = i
    · rw [c1, ei, es] at h2
      rw [en y (by omega) (by omega)]
      exact own y hi (by omega) (by omega) (by omega)
    · by_cases c2 : x = i + s
      · rw [c2, eu, es] at h2
        rw [en y (by omega) (by omega)]
        exact own y hi (by omega) (by omega) (by omega)
      · rw [en x c1 c2] at h0 h2
        have hy := h.own x y hx h0 h1 h2
        by_cases c3 : y = i
        · rw [c3, hk] at hy; omega
        · by_cases c4 : y = i + s
          · exfalso
            by_cases c5 : x < i
            · have := h.own x i hx h0 c5 (by omega)
              omega
            · have := own x hi (by omega) (by omega) (by omega)
              omega
          · rw [en y c3 c4]; exact hy
  · obtain ⟨a, a1, a2, a3⟩ := h.cov y hy
    by_cases c1 : a = i
    · rw [c1, hk] at a3
      by_cases c : y < i + s
      · exact ⟨i, by omega, by rw [ei]; omega, by rw [ei, es]; exact c⟩
      · exact ⟨i + s, by omega, by rw [eu]; omega, by rw [eu, es]; omega⟩
    · have c2 : a ≠ i + s := fun c => by rw [c, ou] at a2; omega
      exact ⟨a, a1, by rw [en a c1 c2]; exact a2, by rw [en a c1 c2]; exact a3⟩
  · have h0' : b.tk x = true := h0
    have := h.tk x hx h0'
    by_cases c1 : x = i
    · rw [c1, ht] at h0'; cases h0'
    · by_cases c2 : x = i + s
      · rw [c2, eu]; omega
      · rw [en x c1 c2]; exact this
theorem Inv.join (h : Inv b) {at_ : Nat} (hi : at_ < 64) (h0 : 0 < b.ord at_) (h7 : b.ord at_ < 7) (ht : b.tk at_ = false) (ho : b.ord (bud at_ (sz (b.ord at_))) = b.ord at_) (ht2 : b.tk (bud at_ (sz (b.ord at_))) = false) :
    Inv (join b (min at_ (bud at_ (sz (b.ord at_)))) (max at_ (bud at_ (sz (b.ord at_))))) ∧ min at_ (bud at_ (sz (b.ord at_))) < 64 ∧ (join b (min at_ (bud at_ (sz (b.ord at_)))) (max at_ (bud at_ (sz (b.ord at_))))).ord (min at_ (bud at_ (sz (b.ord at_)))) = b.ord at_ + 1 ∧ b.tk (min at_ (bud at_ (sz (b.ord at_)))) = false := by
  obtain ⟨k, hk⟩ : ∃ k, b.ord at_ = k := ⟨_, rfl⟩
  rw [hk] at h0 h7 ho ht2 ⊢
  have al := h.al at_ hi (by omega)
  rw [hk] at al
  have bl := bud_lo h0 (by omega) al.1
  have hs := sz_succ h0
  have sp := sz_pos k
  obtain ⟨hf, ehf⟩ : ∃ hf, bud at_ (sz k) = hf := ⟨_, rfl⟩
  obtain ⟨s, es⟩ : ∃ s, sz k = s := ⟨_, rfl⟩
  rw [ehf] at ho ht2 bl ⊢
  obtain ⟨lo, elo⟩ : ∃ lo, min at_ hf = lo := ⟨_, rfl⟩
  obtain ⟨hh, ehh⟩ : ∃ hh, max at_ hf = hh := ⟨_, rfl⟩
  rw [elo, ehh] at bl ⊢
  rw [es] at bl hs sp
  have lo64 : lo < 64 := by omega
  have ol : b.ord lo = k ∧ b.tk lo = false := by
    by_cases c : lo = at_
    · rw [c]; exact ⟨hk, ht⟩
    · rw [show lo = hf by omega]; exact ⟨ho, ht2⟩
  have oh : b.ord hh = k ∧ b.tk hh = false := by
    by_cases c : hh = at_
    · rw [c]; exact ⟨hk, ht⟩
    · rw [show hh = hf by omega]; exact ⟨ho, ht2⟩
  have hh64 : hh + s ≤ 64 := by
    have a2 := al.2
    rw [es] at a2
    by_cases c : hh = at_
    · rw [c]; exact a2
    · have : lo = at_ := by omega
      rw [hs] at bl
      have l64 : lo % (2 * s) = 0 := bl.1
      have key : ∀ k, 1 ≤ k → k ≤ 7 → k ≤ 6 → ∀ x, x < 64 → x % (2 * sz k) = 0 → x + 2 * sz k ≤ 64 := by
        refine sz_cases (M := fun k s => k ≤ 6 → ∀ x, x < 64 → x % (2 * s) = 0 → x + 2 * s ≤ 64) ?_ ?_ ?_ ?_ ?_ ?_ ?_
        all_goals
          intro hk x hx hm
          omega
      have := key k h0 (by omega) (by omega) lo lo64 (by rw [es]; exact l64)
      rw [es] at this
      omega
  have eo : ∀ x, (Bd.join b lo hh).ord x = if x = lo then k + 1 else if x = hh then 0 else b.ord x := fun x => by
    unfold Bd.join up
    rw [ol.1]
  have el : (Bd.join b lo hh).ord lo = k + 1 := by rw [eo, if_pos rfl]
  have eh : (Bd.join b lo hh).ord hh = 0 := by rw [eo, if_neg (by omega), if_pos rfl]
  have en : ∀ x, x ≠ lo → x ≠ hh → (Bd.join b lo hh).ord x = b.ord x := fun x h1 h2 => by rw [eo, if_neg h1, if_neg h2]
  refine ⟨⟨fun x hx => ?_, fun x hx x0 => ?_, fun x y hx x0 h1 h2 => ?_, fun y hy => ?_, fun x hx x0 => ?_⟩, lo64, el, ol.2⟩
  · by_cases c1 : x = lo
    · rw [c1, el]; omega
    · by_cases c2 : x = hh
      · rw [c2, eh]; omega
      · rw [en x c1 c2]; exact h.le x hx
  · by_cases c1 : x = lo
    · rw [c1, el]; exact ⟨bl.1, by rw [hs]; omega⟩
    · by_cases c2 : x = hh
      · rw [c2, eh] at x0; omega
      · rw [en x c1 c2] at x0 ⊢; exact h.al x hx x0
  · by_cases c1 : x = lo
    · rw [c1, el, hs] at h2
      by_cases c2 : y = hh
      · rw [c2, eh]
      · rw [en y (by omega) c2]
        by_cases c3 : y < hh
        · exact h.own lo y lo64 (by omega) (by omega) (by rw [ol.1, es]; omega)
        · exact h.own hh y (by omega) (by omega) (by omega) (by rw [oh.1, es]; omega)
    · by_cases c2 : x = hh
      · rw [c2, eh] at x0; omega
      · rw [en x c1 c2] at x0 h2
        have hy := h.own x y hx x0 h1 h2
        by_cases c3 : y = lo
        · rw [c3, ol.1] at hy; omega
        · by_cases c4 : y = hh
          · rw [c4, eh]
          · rw [en y c3 c4]; exact hy
  · obtain ⟨a, a1, a2, a3⟩ := h.cov y hy
    by_cases c1 : a = lo
    · rw [c1, ol.1, es] at a3
      exact ⟨lo, by omega, by rw [el]; omega, by rw [el, hs]; omega⟩
    · by_cases c2 : a = hh
      · rw [c2, oh.1, es] at a3
        exact ⟨lo, by omega, by rw [el]; omega, by rw [el, hs]; omega⟩
      · exact ⟨a, a1, by rw [en a c1 c2]; exact a2, by rw [en a c1 c2]; exact a3⟩
  · have x0' : b.tk x = true := x0
    by_cases c1 : x = lo
    · rw [c1, el]; omega
    · by_cases c2 : x = hh
      · rw [c2, oh.2] at x0'; cases x0'
      · rw [en x c1 c2]; exact h.tk x hx x0'
theorem NB.join (h : Inv b) {at_ : Nat} (hi : at_ < 64) (h0 : 0 < b.ord at_) (h7 : b.ord at_ < 7) (n : NB b at_) :
    NB (join b (min at_ (bud at_ (sz (b.ord at_)))) (max at_ (bud at_ (sz (b.ord at_))))) (min at_ (bud at_ (sz (b.ord at_)))) := by
  have bb := bud_bud (i := at_) (k := b.ord at_) h0 (by omega) (h.al at_ hi h0).1
  obtain ⟨hf, ehf⟩ : ∃ hf, bud at_ (sz (b.ord at_)) = hf := ⟨_, rfl⟩
  rw [ehf] at bb ⊢
  obtain ⟨lo, elo⟩ : ∃ lo, min at_ hf = lo := ⟨_, rfl⟩
  obtain ⟨hh, ehh⟩ : ∃ hh, max at_ hf = hh := ⟨_, rfl⟩
  rw [elo, ehh]
  have ne := bb.2.2
  have eo : ∀ x, (Bd.join b lo hh).ord x = if x = lo then b.ord lo + 1 else if x = hh then 0 else b.ord x := fun x => rfl
  have eh : (Bd.join b lo hh).ord hh = 0 := by rw [eo, if_neg (by omega), if_pos rfl]
  have en : ∀ x, x ≠ lo → x ≠ hh → (Bd.join b lo hh).ord x = b.ord x := fun x h1 h2 => by rw [eo, if_neg h1, if_neg h2]
  intro x hx x0 x7 ht hxl hbl
  have c2 : x ≠ hh := fun c => by rw [c, eh] at x0; omega
  rw [en x hxl c2] at x0 x7 hbl ⊢
  by_cases c3 : bud x (sz (b.ord x)) = hh
  · rw [c3, eh]
    rintro ⟨e, _⟩; omega
  · rw [en _ hbl c3]
    exact n x hx x0 x7 ht (by omega) (by omega)
theorem NB.all {e : Nat} (n : NB b e) (he : e < 64) (h : Inv b) (c : b.tk e = true ∨ b.ord e = 0 ∨ 7 ≤ b.ord e ∨ b.tk (bud e (sz (b.ord e))) = true ∨ b.ord (bud e (sz (b.ord e))) ≠ b.ord e) : NB b 64 := by
  intro x hx x0 x7 ht _ _ hc
  by_cases c1 : x = e
  · subst c1
    rcases c with c | c | c | c | c
    · rw [c] at ht; cases ht
    · omega
    · omega
    · rw [hc.2] at c; cases c
    · exact c hc.1
  · by_cases c2 : bud x (sz (b.ord x)) = e
    · rw [c2] at hc
      have bb := bud_bud (i := x) (k := b.ord x) (by omega) (by omega) (h.al x hx x0).1
      rw [c2, ← hc.1] at bb
      rcases c with c | c | c | c | c
      · rw [hc.2] at c; cases c
      · rw [c] at hc; omega
      · omega
      · rw [bb.1, ht] at c; cases c
      · rw [bb.1] at c; exact c hc.1.symm
    · exact n x hx x0 x7 ht c1 c2 hc
end
end Bd
end Go.Proofs.YtghogbngmcolmaaGreat

import Derived.Deep.MidRow
import Derived.Deep.CutRange
import Derived.Deep.CutBlock
import Derived.Test.YtghogbngmcolmaaGreatQak
import Derived.Test.YtghogbngmcolmaaGreatQaa
import Derived.Test.YtghogbngmcolmaaGreatQae
namespace Go.Proofs.YtghogbngmcolmaaGreat
open Go.RowKit
open Bd (P)
theorem giv_ca {p : P} {j : Nat} {w : World} {b : Nat} (h0 : 0 < p.ord j) (h : CAt w b p) (hj : j < 64) : CAt (w.setCell ⟨b, j * 2, none⟩ (.int .i64 1)) b { p with tk := Bd.upb p.tk j false } := by
  refine CA.congr (CA.setS h j 1 hj) (fun i _ => ?_)
  unfold Bd.st Bd.od Bd.up Bd.upb
  by_cases c : i = j
  · subst c
    show (if p.ord i = 0 then 0 else if (if i = i then false else _) = true then 2 else 1) = (if i = i then 1 else _) ∧ _
    rw [if_neg (by omega), if_pos rfl, if_pos rfl]
    exact ⟨rfl, rfl⟩
  · show (if p.ord i = 0 then 0 else if (if i = j then false else p.tk i) = true then 2 else 1) = (if i = j then 1 else _) ∧ _
    rw [if_neg c, if_neg c]
    exact ⟨rfl, rfl⟩
set_option maxRecDepth 100000 in
set_option maxHeartbeats 400000 in
theorem cgive_wrong (b : Nat) (z : Int) (p : P) (w : World) (h : CAt w b p) (hI : Bd.Inv p) (k : Bd.giveE p z ≠ 0) :
    Calls Tryz.prog 162 #[.pointer (some ⟨b, 0, none⟩), .int .i64 z] w fun e w' => e = .returned (errV (Bd.giveE p z)) ∧ w' = w := by
  have HF := Hid.intro (And.intro h hI)
  obtain ⟨E, hE⟩ : ∃ E, Bd.giveE p z = E := ⟨_, rfl⟩
  have HX := Hid.intro hE
  rw [hE] at k
  have HK := Hid.intro k
  clear h hI k hE
  go_enter Tryz.func162, Tryz.ntmps162
  go_wp2_with fail
  refine (corder_any b z p _ HF.out.1 HF.out.2).mono ?_
  rintro e w1 ⟨rfl, hw⟩
  subst w1
  rw [HX.out, errV_ne HK.out]
  go_wp2_with fail
  go_ret
  rw [HX.out, errV_ne HK.out]
  exact ⟨rfl, rfl⟩
set_option maxRecDepth 100000 in
set_option maxHeartbeats 2000000 in
theorem cgive_ok (b j : Nat) (p : P) (w : World) (h : CAt w b p) (hI : Bd.Inv p) (hj : j < 64) (ht : p.tk j = true) :
    Calls Tryz.prog 162 #[.pointer (some ⟨b, 0, none⟩), .int .i64 j] w fun e w' => e = .returned (errV 0) ∧ CAt w' b (Bd.giveB p j) ∧ Frm b w w' := by
  have HF := Hid.intro (And.intro h hI)
  have HK : Hid (Bd.giveE p j = 0) := Hid.intro (by unfold Bd.giveE; rw [if_neg (by omega), Int.toNat_natCast, if_pos ht])
  have c0 := h.cSt j hj
  have cf0 := h.frozen
  have hjI : (j : Int) < 64 := by omega
  have S0 : Hid (CAt (w.setCell ⟨b, j * 2, none⟩ (.int .i64 1)) b { p with tk := Bd.upb p.tk j false } ∧ Frm b w (w.setCell ⟨b, j * 2, none⟩ (.int .i64 1)) ∧ Bd.Giv { p with tk := Bd.upb p.tk j false } j 7 (Bd.giveB p j)) := Hid.intro ⟨giv_ca (hI.tk j hj ht) h hj, (Frm.refl b w).setCell _ _, Bd.Giv.start hI hj ht⟩
  clear h hI ht
  go_enter Tryz.func162, Tryz.ntmps162
  go_wp2_with fail
  refine (corder_any b j p _ HF.out.1 HF.out.2).mono ?_
  rintro e w1 ⟨rfl, hw⟩
  subst w1
  rw [HK.out, errV_zero]
  go_wp2_with fail
  refine wp_gen (fun W => CAt W b { p with tk := Bd.upb p.tk j false } ∧ Frm b w W ∧ Bd.Giv { p with tk := Bd.upb p.tk j false } j 7 (Bd.giveB p j)) S0.out ?_
  intro W1 h1
  have S1 := Hid.intro h1
  clear h1 S0 c0 cf0
  go_loopw [1] (fun s wr => ∃ (i n : Nat) (q : P), s = .int .i64 i ∧ n ≤ 7 ∧ Hid (CAt wr b q ∧ Frm b w wr ∧ Bd.Giv q i n (Bd.giveB p j))) (fun s wr => 6 - bucellN wr b ((intOf s).toNat * 2 + 1))
  case atStart => exact ⟨j, 7, _, rfl, by omega, S1⟩
  case round =>
    clear S1
    obtain ⟨i, n, q, rfl, hn7, S⟩ := hrel
    have hi := S.out.2.2.lt
    have CC := Hid.intro (S.out.1.cOd i hi)
    cases fr : Bd.free2 q i
    · have FR := Hid.intro fr
      have EQ : Hid (q = Bd.giveB p j) := Hid.intro (by rw [← S.out.2.2.eq, Bd.joins_no fr])
      clear fr
      go_wp2_with fail
      refine (cjoins_any b i q _ S.out.1 S.out.2.2.inv hi S.out.2.2.pos).mono ?_
      rintro e w2 ⟨rfl, nq, hw2⟩
      have T : Hid (CAt w2 b q ∧ Frm b w w2) := Hid.intro (by rw [hw2]; exact ⟨S.out.1.drewN nq, S.out.2.1.drewN nq⟩)
      clear hw2
      rw [FR.out]
      go_wp2_with fail
      go_ret
      exact ⟨rfl, by rw [← EQ.out]; exact T.out.1, T.out.2⟩
    · have FR := Hid.intro fr
      have lt7 : q.ord i < 7 := by
        unfold Bd.free2 at fr
        simp only [Bool.and_eq_true, decide_eq_true_eq] at fr
        exact fr.1
      obtain ⟨m, rfl⟩ : ∃ m, n = m + 1 := ⟨n - 1, by have := S.out.2.2.fu; omega⟩
      have GN := Hid.intro (S.out.2.2.next fr)
      have L7 := Hid.intro lt7
      have JO := Hid.intro (by
        have f := fr
        unfold Bd.free2 at f
        simp only [Bool.and_eq_true, decide_eq_true_eq, Bool.not_eq_true'] at f
        exact (S.out.2.2.inv.join hi S.out.2.2.pos f.1 S.out.2.2.tk f.2.1 f.2.2).2.2.1)
      clear fr lt7
      go_wp2_with fail
      refine (cjoins_any b i q _ S.out.1 S.out.2.2.inv hi S.out.2.2.pos).mono ?_
      rintro e w2 ⟨rfl, nq, hw2⟩
      have T : Hid (CAt w2 b q ∧ Frm b w w2) := Hid.intro (by rw [hw2]; exact ⟨S.out.1.drewN nq, S.out.2.1.drewN nq⟩)
      clear hw2
      rw [FR.out]
      go_wp2_with fail
      refine (cjoin_any b i q _ T.out.1 S.out.2.2.inv hi S.out.2.2.pos S.out.2.2.tk FR.out).mono ?_
      rintro e w3 ⟨rfl, t3, f3⟩
      have T3 := Hid.intro (And.intro t3 (T.out.2.trans f3))
      clear t3 f3
      obtain ⟨lo, hlo⟩ : ∃ lo, min i (Bd.bud i (Bd.sz (q.ord i))) = lo := ⟨_, rfl⟩
      rw [hlo]
      rw [hlo] at T3 GN JO
      have CN : Hid (bucellN w3 b (lo * 2 + 1) = q.ord i) := Hid.intro (cellN_of (by
        rw [T3.out.1.cOd lo GN.out.lt]
        unfold Bd.od
        rw [JO.out]; rfl))
      clear hlo
      go_wp2_with fail
      go_roundw
      case rel => exact ⟨lo, m, _, by first | rfl | trivial, by omega, T3.out.1, T3.out.2, GN.out⟩
      case measure =>
        simp only [intOf, Int.toNat_natCast]
        rw [CN.out, cellN_of CC.out]
        have := L7.out
        have := S.out.2.2.pos
        show _ < 6 - (q.ord i - 1)
        omega
theorem cgive_any (b : Nat) (z : Int) (p : P) (w : World) (h : CAt w b p) (hI : Bd.Inv p) :
    Calls Tryz.prog 162 #[.pointer (some ⟨b, 0, none⟩), .int .i64 z] w fun e w' => e = .returned (errV (Bd.giveE p z)) ∧ CAt w' b (Bd.giveT p z) ∧ Frm b w w' := by
  by_cases k : Bd.giveE p z = 0
  · have k' := k
    unfold Bd.giveE at k'
    by_cases c1 : z < 0 ∨ 63 < z
    · rw [if_pos c1] at k'; omega
    · rw [if_neg c1] at k'
      obtain ⟨j, rfl⟩ := Int.eq_ofNat_of_zero_le (show 0 ≤ z by omega)
      rw [Int.toNat_natCast] at k'
      have ht : p.tk j = true := by
        cases t : p.tk j
        · rw [t, if_neg (by decide)] at k'; omega
        · rfl
      refine (cgive_ok b j p w h hI (by omega) ht).mono ?_
      rintro e w' ⟨rfl, h1, h2⟩
      unfold Bd.giveT
      rw [k, if_pos rfl, Int.toNat_natCast]
      exact ⟨rfl, h1, h2⟩
  · refine (cgive_wrong b z p w h hI k).mono ?_
    rintro e w' ⟨rfl, rfl⟩
    unfold Bd.giveT
    rw [if_neg k]
    exact ⟨rfl, h, Frm.refl _ _⟩
theorem LO.alloc {w wr : World} {L : List Nat} {l : Value} (h : LO w L l wr) (ob : Obj) : LO w L l (wr.alloc ob) := ⟨h.bel.alloc h.bel.size ob, h.own.alloc _⟩
end Go.Proofs.YtghogbngmcolmaaGreat
namespace Go.Proofs.YtghogbngmcolmaaGreat
open Go.RowKit
namespace Mv
structure Me where
  is : Nat → Nat
  fr : Nat → Nat
def badB (a n : Int) : Bool := decide (a < 0 ∨ 15 < a ∨ n < 1 ∨ 16 - a < n)
def resK (m : Me) : Nat → Nat
  | 0 => 0
  | k + 1 => resK m k + if m.fr k = 0 then 0 else 1
theorem bad_no {a n : Int} (h : badB a n = false) : ∃ x k : Nat, a = x ∧ n = k ∧ x < 16 ∧ 1 ≤ k ∧ x + k ≤ 16 := by
  unfold badB at h
  rw [decide_eq_false_iff_not] at h
  exact ⟨a.toNat, n.toNat, by omega, by omega, by omega, by omega, by omega⟩
end Mv
open Mv (Me)
section
variable {w w' : World} {b r : Nat} {m m' : Me} {own own' : Nat → Bool}
def upn (f : Nat → Nat) (i v : Nat) : Nat → Nat := fun j => if j = i then v else f j
end
end Go.Proofs.YtghogbngmcolmaaGreat
namespace Go.Proofs.YtghogbngmcolmaaGreat
open Go.RowKit
open Mv (Me)
theorem resK_le (m : Me) (k : Nat) : Mv.resK m k ≤ k := by
  induction k with
  | zero => exact Nat.le_refl 0
  | succ k ih => show Mv.resK m k + _ ≤ k + 1; split <;> omega
end Go.Proofs.YtghogbngmcolmaaGreat
namespace Go.Proofs.YtghogbngmcolmaaGreat
open Go.RowKit
open Bd (P)
namespace Mv
structure Bk where
  pool : P
  byt : Nat → Nat → Int
  refs : Nat → Nat
def drp (k : Bk) (f : Nat) : Bk := { k with refs := fun g => if g = f then k.refs f - 1 else k.refs g, pool := if k.refs f = 1 then Bd.giveT k.pool f else k.pool }
end Mv
open Mv (Bk)
end Go.Proofs.YtghogbngmcolmaaGreat
namespace Go.Proofs.YtghogbngmcolmaaGreat
open Go.RowKit
open Bd (P)
open Mv (Bk)
def Mv.bk0 : Bk := ⟨Bd.b0, fun _ _ => 0, fun _ => 0⟩
end Go.Proofs.YtghogbngmcolmaaGreat
namespace Go.Proofs.YtghogbngmcolmaaGreat
open Go.RowKit
open Bd (P)
open Mv (Me Bk)
structure Thr (b r q : Nat) (w w' : World) : Prop where
  os : w'.os = w.os
  tape : w'.tape = w.tape
  output : w'.output = w.output
  size : w.heap.size ≤ w'.heap.size
  block : ∀ k, k < w.heap.size → k ≠ b → k ≠ r → k ≠ q → w'.heap[k]? = w.heap[k]?
section
variable {b r q : Nat} {u v w : World}
theorem Thr.refl (b r q : Nat) (w : World) : Thr b r q w w := ⟨rfl, rfl, rfl, Nat.le_refl _, fun _ _ _ _ _ => rfl⟩
theorem Thr.trans (h : Thr b r q u v) (k : Thr b r q v w) : Thr b r q u w := ⟨k.os.trans h.os, k.tape.trans h.tape, k.output.trans h.output, Nat.le_trans h.size k.size, fun j hj h1 h2 h3 => (k.block j (Nat.lt_of_lt_of_le hj h.size) h1 h2 h3).trans (h.block j hj h1 h2 h3)⟩
theorem Thr.mem (h : Frm b u v) : Thr b r q u v := ⟨h.os, h.tape, h.output, h.size, fun k hk h1 _ _ => h.block k hk h1⟩
theorem Thr.bank (h : Two r q u v) : Thr b r q u v := ⟨h.os, h.tape, h.output, h.size, fun k hk _ h1 h2 => h.block k hk h1 h2⟩
end
end Go.Proofs.YtghogbngmcolmaaGreat
namespace Go.Proofs.YtghogbngmcolmaaGreat
open Go.RowKit
open Bd (P)
open Mv (Me Bk)
namespace Mv
def cntK (fr : Nat → Nat) (f : Nat) : Nat → Nat
  | 0 => 0
  | i + 1 => cntK fr f i + if fr i = f + 1 then 1 else 0
theorem cntK_congr {fr fs : Nat → Nat} {f n : Nat} (h : ∀ i, i < n → fs i = fr i) : cntK fs f n = cntK fr f n := by
  induction n with
  | zero => rfl
  | succ n ih => show cntK fs f n + _ = cntK fr f n + _; rw [ih (fun i hi => h i (by omega)), h n (by omega)]
theorem cntK_out {fr fs : Nat → Nat} {f n i : Nat} (hi : i < n) (e : fr i = f + 1) (h0 : fs i = 0) (h : ∀ j, j ≠ i → fs j = fr j) : cntK fs f n + 1 = cntK fr f n := by
  induction n with
  | zero => omega
  | succ n ih =>
    show cntK fs f n + (if fs n = f + 1 then 1 else 0) + 1 = cntK fr f n + if fr n = f + 1 then 1 else 0
    by_cases c : i = n
    · subst c
      rw [cntK_congr (fun j hj => h j (by omega)), h0, e, if_neg (by omega), if_pos rfl]
    · rw [h n (fun d => c d.symm)]
      have := ih (by omega)
      omega
theorem cntK_other {fr fs : Nat → Nat} {f n i : Nat} (e : fr i ≠ f + 1) (h0 : fs i = 0) (h : ∀ j, j ≠ i → fs j = fr j) : cntK fs f n = cntK fr f n := by
  induction n with
  | zero => rfl
  | succ n ih =>
    show cntK fs f n + _ = cntK fr f n + _
    rw [ih]
    by_cases c : i = n
    · subst c; rw [h0, if_neg (by omega), if_neg e]
    · rw [h n (fun d => c d.symm)]
theorem cntK_pos {fr : Nat → Nat} {f n i : Nat} (hi : i < n) (e : fr i = f + 1) : 1 ≤ cntK fr f n := by
  induction n with
  | zero => omega
  | succ n ih =>
    show 1 ≤ cntK fr f n + if fr n = f + 1 then 1 else 0
    by_cases c : i = n
    · subst c; rw [if_pos e]; omega
    · have := ih (by omega); omega
structure Cnt (m : Me) (k : Bk) : Prop where
  inv : Bd.Inv k.pool
  nb : Bd.NB k.pool 64
  le : ∀ i, i < 16 → m.fr i ≤ 64
  cnt : ∀ f, f < 64 → cntK m.fr f 16 ≤ k.refs f ∧ k.refs f < 2 ^ 59
def umM (m : Me) (a i : Nat) : Me := ⟨fun x => if a ≤ x ∧ x < i then 0 else m.is x, fun x => if a ≤ x ∧ x < i then 0 else m.fr x⟩
def umK (m : Me) (k : Bk) (a : Nat) : Nat → Bk
  | 0 => k
  | j + 1 => if m.fr (a + j) = 0 then umK m k a j else drp (umK m k a j) (m.fr (a + j) - 1)
def umC (m : Me) (a : Nat) : Nat → Nat
  | 0 => 0
  | j + 1 => umC m a j + if m.fr (a + j) = 0 then 0 else 1
theorem umC_le (m : Me) (a j : Nat) : umC m a j ≤ j := by
  induction j with
  | zero => exact Nat.le_refl 0
  | succ j ih => show umC m a j + _ ≤ j + 1; split <;> omega
theorem if_at (a j : Nat) {α} (x y : α) : (if a ≤ a + j ∧ a + j < a + (j + 1) then x else y) = x := if_pos (by omega)
theorem if_step {a j x : Nat} (h : x ≠ a + j) {α} (u v : α) : (if a ≤ x ∧ x < a + (j + 1) then u else v) = if a ≤ x ∧ x < a + j then u else v := by
  by_cases c : a ≤ x ∧ x < a + j
  · rw [if_pos c, if_pos (by omega)]
  · rw [if_neg c, if_neg (by omega)]
theorem Cnt.step {m : Me} {k : Bk} {a j : Nat} (h : Cnt (umM m a (a + j)) (umK m k a j)) (hj : a + j < 16) : Cnt (umM m a (a + (j + 1))) (umK m k a (j + 1)) := by
  have e0 : (umM m a (a + j)).fr (a + j) = m.fr (a + j) := if_neg (by omega)
  have e1 : (umM m a (a + (j + 1))).fr (a + j) = 0 := if_at a j _ _
  have e2 : ∀ x, x ≠ a + j → (umM m a (a + (j + 1))).fr x = (umM m a (a + j)).fr x := fun x hx => if_step hx _ _
  have le : ∀ i, i < 16 → (umM m a (a + (j + 1))).fr i ≤ 64 := fun i hi => by
    by_cases c : i = a + j
    · subst c; rw [e1]; omega
    · rw [e2 i c]; exact h.le i hi
  by_cases c : m.fr (a + j) = 0
  · have eK : umK m k a (j + 1) = umK m k a j := if_pos c
    rw [eK]
    refine ⟨h.inv, h.nb, le, fun f hf => ?_⟩
    rw [cntK_congr (fr := (umM m a (a + j)).fr) (fun x _ => by
      by_cases d : x = a + j
      · subst d; rw [e1, e0, c]
      · exact e2 x d)]
    exact h.cnt f hf
  · have eK : umK m k a (j + 1) = drp (umK m k a j) (m.fr (a + j) - 1) := if_neg c
    rw [eK]
    have l := h.le (a + j) hj
    rw [e0] at l
    have ip : Bd.Inv (drp (umK m k a j) (m.fr (a + j) - 1)).pool ∧ Bd.NB (drp (umK m k a j) (m.fr (a + j) - 1)).pool 64 := by
      show Bd.Inv (if _ then _ else _) ∧ Bd.NB (if _ then _ else _) 64
      split
      · exact h.inv.give h.nb _
      · exact ⟨h.inv, h.nb⟩
    refine ⟨ip.1, ip.2, le, fun f hf => ?_⟩
    have hc := h.cnt f hf
    show _ ≤ (if f = m.fr (a + j) - 1 then (umK m k a j).refs (m.fr (a + j) - 1) - 1 else (umK m k a j).refs f) ∧ (if f = m.fr (a + j) - 1 then (umK m k a j).refs (m.fr (a + j) - 1) - 1 else (umK m k a j).refs f) < 2 ^ 59
    by_cases d : f = m.fr (a + j) - 1
    · have := cntK_out (f := f) hj (by rw [e0]; omega) e1 e2
      rw [if_pos d, ← d]
      omega
    · rw [if_neg d, cntK_other (fr := (umM m a (a + j)).fr) (by rw [e0]; omega) e1 e2]
      exact hc
end Mv
theorem umM_step {m : Me} {a j x : Nat} (h : x ≠ a + j) : (Mv.umM m a (a + (j + 1))).is x = (Mv.umM m a (a + j)).is x ∧ (Mv.umM m a (a + (j + 1))).fr x = (Mv.umM m a (a + j)).fr x := ⟨Mv.if_step h _ _, Mv.if_step h _ _⟩
theorem umM_at (m : Me) (a j : Nat) : (Mv.umM m a (a + (j + 1))).is (a + j) = 0 ∧ (Mv.umM m a (a + (j + 1))).fr (a + j) = 0 := ⟨Mv.if_at a j _ _, Mv.if_at a j _ _⟩
end Go.Proofs.YtghogbngmcolmaaGreat
namespace Go.Proofs.YtghogbngmcolmaaGreat
open Go.RowKit
open Bd (P)
open Mv (Me Bk)
def Mv.unE (a n : Int) : Int := if badB a n = true then 1 else 0
def Mv.unC (m : Me) (a n : Int) : Nat := if badB a n = true then 0 else umC m a.toNat n.toNat
def Mv.unM (m : Me) (a n : Int) : Me := if badB a n = true then m else umM m a.toNat (a.toNat + n.toNat)
def Mv.unK (m : Me) (k : Bk) (a n : Int) : Bk := if badB a n = true then k else umK m k a.toNat n.toNat
end Go.Proofs.YtghogbngmcolmaaGreat
namespace Go.Proofs.YtghogbngmcolmaaGreat
open Go.RowKit
open Bd (P)
open Mv (Me Bk)
def cellV (q : Nat) (k : Bk) (o : Nat) : Value := if o = 0 then .pointer (some ⟨q, 0, none⟩) else if (o - 1) % 9 = 0 then .int .i64 (k.refs ((o - 1) / 9) : Int) else .int .u8 (k.byt ((o - 1) / 9) ((o - 1) % 9 - 1))
structure VAt (w : World) (r q : Nat) (k : Bk) : Prop where
  blk : ∃ C, w.heap[r]? = some (.cells C 182 (0, 0)) ∧ C.size = 577
  cell : ∀ o, o < 577 → w.cell? ⟨r, o, none⟩ = some (cellV q k o)
  pool : CAt w q k.pool
  ne : q ≠ r
section
variable {w w' : World} {r q : Nat} {k k' : Bk}
theorem VAt.drew (h : VAt w r q k) : VAt w.drew r q k := ⟨h.blk, h.cell, h.pool.drew, h.ne⟩
theorem VAt.frozen (h : VAt w r q k) (o : Nat) : w.frozen? ⟨r, o, none⟩ = false := by obtain ⟨C, h1, _⟩ := h.blk; exact frozen_blk h1 o
theorem VAt.lt (h : VAt w r q k) : r < w.heap.size := by obtain ⟨C, h1, _⟩ := h.blk; exact (Array.getElem?_eq_some_iff.1 h1).1
theorem VAt.ltq (h : VAt w r q k) : q < w.heap.size := h.pool.lt
theorem VAt.same (h : VAt w r q k) (e : w'.heap[r]? = w.heap[r]?) (e2 : w'.heap[q]? = w.heap[q]?) : VAt w' r q k := ⟨by rw [e]; exact h.blk, fun o ho => (World.cell?_of_block e).trans (h.cell o ho), h.pool.same e2, h.ne⟩
theorem VAt.below (h : VAt w r q k) (b : Below w.heap.size w w') : VAt w' r q k := h.same (b.block r h.lt) (b.block q h.ltq)
theorem VAt.withPool (h : VAt w r q k) {p : P} (f : Frm q w w') (kp : CAt w' q p) : VAt w' r q { k with pool := p } := by
  have e := f.block r h.lt (Ne.symm h.ne)
  exact ⟨by rw [e]; exact h.blk, fun o ho => (World.cell?_of_block e).trans (h.cell o ho), kp, h.ne⟩
theorem VAt.cP (h : VAt w r q k) : w.cell? ⟨r, 0, none⟩ = some (.pointer (some ⟨q, 0, none⟩)) := h.cell 0 (by omega)
theorem VAt.cRefs (h : VAt w r q k) (f : Nat) (hf : f < 64) : w.cell? ⟨r, 1 + f * 9, none⟩ = some (.int .i64 (k.refs f : Int)) := by
  rw [h.cell _ (by omega), cellV, if_neg (by omega), if_pos (by omega), show (1 + f * 9 - 1) / 9 = f by omega]
theorem CAt.far {p : P} (h : CAt w q p) (hne : q ≠ r) (o : Nat) (v : Value) : CAt (w.setCell ⟨r, o, none⟩ v) q p := h.same (setBlk _ _ _ _ hne)
theorem VAt.set (h : VAt w r q k) (o : Nat) (ho : o < 577) (v : Value) (hp : k'.pool = k.pool) (hv : ∀ i, i < 577 → cellV q k' i = if i = o then v else cellV q k i) : VAt (w.setCell ⟨r, o, none⟩ v) r q k' := by
  obtain ⟨C, h1, h2⟩ := h.blk
  refine ⟨⟨_, blk_set h1 _ v, by simpa using h2⟩, fun i hi => ?_, by rw [hp]; exact h.pool.far h.ne o v, h.ne⟩
  rw [hv i hi]
  by_cases e : i = o
  · subst e; rw [cell_set_same h1 _ v (by omega), if_pos rfl]
  · rw [cell_set_ne h1 _ _ v (Ne.symm e), if_neg e]; exact h.cell i hi
theorem VAt.setRefs (h : VAt w r q k) (f v : Nat) (hf : f < 64) : VAt (w.setCell ⟨r, 1 + f * 9, none⟩ (.int .i64 (v : Int))) r q { k with refs := fun g => if g = f then v else k.refs g } := by
  refine h.set (1 + f * 9) (by omega) _ rfl (fun x hx => ?_)
  unfold cellV
  by_cases c0 : x = 0
  · rw [if_pos c0, if_pos c0, if_neg (by omega)]
  · rw [if_neg c0, if_neg c0]
    by_cases c : (x - 1) % 9 = 0
    · rw [if_pos c, if_pos c]
      by_cases e : x = 1 + f * 9
      · rw [if_pos e]; simp [show (x - 1) / 9 = f by omega]
      · rw [if_neg e]; simp [show (x - 1) / 9 ≠ f by omega]
    · rw [if_neg c, if_neg c, if_neg (by omega)]
end
def cellU (r : Nat) (m : Me) (o : Nat) : Value := if o = 0 then .pointer (some ⟨r, 0, none⟩) else if (o - 1) % 2 = 0 then .int .i64 (m.is ((o - 1) / 2) : Int) else .int .i64 ((m.fr ((o - 1) / 2) : Int) - 1)
structure UAt (w : World) (b r : Nat) (m : Me) : Prop where
  blk : ∃ C, w.heap[b]? = some (.cells C 123 (0, 0)) ∧ C.size = 33
  cell : ∀ o, o < 33 → w.cell? ⟨b, o, none⟩ = some (cellU r m o)
section
variable {w w' : World} {b r : Nat} {m m' : Me}
theorem UAt.drew (h : UAt w b r m) : UAt w.drew b r m := ⟨h.blk, h.cell⟩
theorem UAt.frozen (h : UAt w b r m) (o : Nat) : w.frozen? ⟨b, o, none⟩ = false := by obtain ⟨C, h1, _⟩ := h.blk; exact frozen_blk h1 o
theorem UAt.lt (h : UAt w b r m) : b < w.heap.size := by obtain ⟨C, h1, _⟩ := h.blk; exact (Array.getElem?_eq_some_iff.1 h1).1
theorem UAt.same (h : UAt w b r m) (e : w'.heap[b]? = w.heap[b]?) : UAt w' b r m := ⟨by rw [e]; exact h.blk, fun o ho => (World.cell?_of_block e).trans (h.cell o ho)⟩
theorem UAt.below (h : UAt w b r m) (k : Below w.heap.size w w') : UAt w' b r m := h.same (k.block b h.lt)
theorem UAt.congr (h : UAt w b r m) (e : ∀ n, n < 16 → m'.is n = m.is n ∧ m'.fr n = m.fr n) : UAt w b r m' := ⟨h.blk, fun o ho => by
  rw [h.cell o ho]
  unfold cellU
  by_cases c : o = 0
  · rw [if_pos c, if_pos c]
  · rw [if_neg c, if_neg c, (e _ (by omega)).1, (e _ (by omega)).2]⟩
theorem UAt.cBank (h : UAt w b r m) : w.cell? ⟨b, 0, none⟩ = some (.pointer (some ⟨r, 0, none⟩)) := h.cell 0 (by omega)
theorem UAt.cIs (h : UAt w b r m) (i : Nat) (hi : i < 16) : w.cell? ⟨b, 1 + i * 2, none⟩ = some (.int .i64 (m.is i : Int)) := by
  rw [h.cell _ (by omega), cellU, if_neg (by omega), if_pos (by omega), show (1 + i * 2 - 1) / 2 = i by omega]
theorem UAt.cFr (h : UAt w b r m) (i : Nat) (hi : i < 16) : w.cell? ⟨b, 1 + i * 2 + 1, none⟩ = some (.int .i64 ((m.fr i : Int) - 1)) := by
  rw [h.cell _ (by omega), cellU, if_neg (by omega), if_neg (by omega), show (1 + i * 2 + 1 - 1) / 2 = i by omega]
theorem UAt.set (h : UAt w b r m) (o : Nat) (ho : o < 33) (v : Value) (hv : ∀ i, i < 33 → cellU r m' i = if i = o then v else cellU r m i) : UAt (w.setCell ⟨b, o, none⟩ v) b r m' := by
  obtain ⟨C, h1, h2⟩ := h.blk
  refine ⟨⟨_, blk_set h1 _ v, by simpa using h2⟩, fun i hi => ?_⟩
  rw [hv i hi]
  by_cases e : i = o
  · subst e; rw [cell_set_same h1 _ v (by omega), if_pos rfl]
  · rw [cell_set_ne h1 _ _ v (Ne.symm e), if_neg e]; exact h.cell i hi
theorem UAt.setIs (h : UAt w b r m) (i v : Nat) (hi : i < 16) : UAt (w.setCell ⟨b, 1 + i * 2, none⟩ (.int .i64 (v : Int))) b r { m with is := upn m.is i v } := by
  refine h.set (1 + i * 2) (by omega) _ (fun x hx => ?_)
  unfold cellU upn
  by_cases c0 : x = 0
  · rw [if_pos c0, if_pos c0, if_neg (by omega)]
  · rw [if_neg c0, if_neg c0]
    by_cases c : (x - 1) % 2 = 0
    · rw [if_pos c, if_pos c]
      by_cases e : x = 1 + i * 2
      · rw [if_pos e]; simp [show (x - 1) / 2 = i by omega]
      · rw [if_neg e]; simp [show (x - 1) / 2 ≠ i by omega]
    · rw [if_neg c, if_neg c, if_neg (by omega)]
theorem UAt.setFr (h : UAt w b r m) (i v : Nat) (hi : i < 16) (u : Int) (hu : u = (v : Int) - 1) : UAt (w.setCell ⟨b, 1 + i * 2 + 1, none⟩ (.int .i64 u)) b r { m with fr := upn m.fr i v } := by
  subst hu
  refine h.set (1 + i * 2 + 1) (by omega) _ (fun x hx => ?_)
  unfold cellU upn
  by_cases c0 : x = 0
  · rw [if_pos c0, if_pos c0, if_neg (by omega)]
  · rw [if_neg c0, if_neg c0]
    by_cases c : (x - 1) % 2 = 0
    · rw [if_pos c, if_pos c, if_neg (by omega)]
    · rw [if_neg c, if_neg c]
      by_cases e : x = 1 + i * 2 + 1
      · rw [if_pos e]; simp [show (x - 1) / 2 = i by omega]
      · rw [if_neg e]; simp [show (x - 1) / 2 ≠ i by omega]
end
structure UB (w : World) (b r q : Nat) (m : Me) (k : Bk) : Prop where
  me : UAt w b r m
  bk : VAt w r q k
  br : b ≠ r
  bq : b ≠ q
section
variable {b r q : Nat} {u v w : World}
theorem VAt.frm {k : Bk} (h : VAt u r q k) (f : Frm b u v) (h1 : b ≠ r) (h2 : b ≠ q) : VAt v r q k := h.same (f.block r h.lt (Ne.symm h1)) (f.block q h.ltq (Ne.symm h2))
theorem UAt.two {m : Me} (h : UAt u b r m) (f : Two r q u v) (h1 : b ≠ r) (h2 : b ≠ q) : UAt v b r m := h.same (f.block b h.lt h1 h2)
theorem UB.below {m : Me} {k : Bk} (h : UB u b r q m k) (f : Below u.heap.size u v) : UB v b r q m k := ⟨h.me.below f, h.bk.below f, h.br, h.bq⟩
theorem UB.drew {m : Me} {k : Bk} (h : UB u b r q m k) : UB u.drew b r q m k := ⟨h.me.drew, h.bk.drew, h.br, h.bq⟩
theorem Thr.drew (h : Thr b r q u v) : Thr b r q u v.drew := ⟨h.os, h.tape, h.output, h.size, h.block⟩
theorem Thr.below (h : Below u.heap.size u v) : Thr b r q u v := ⟨h.os, h.tape, h.output, h.size, fun k hk _ _ _ => h.block k hk⟩
end
end Go.Proofs.YtghogbngmcolmaaGreat
namespace Go.Proofs.YtghogbngmcolmaaGreat
open Go.RowKit
open Bd (P)
open Mv (Me Bk)
def vzA : Array Value := ((List.range 577).map fun i => if i = 0 then Value.pointer none else if (i - 1) % 9 = 0 then Value.int .i64 0 else .int .u8 0).toArray
set_option maxRecDepth 100000 in
theorem vz_eq : Tryz.zeroCells182 = vzA := by kernel_rfl
theorem vz_at (i : Nat) (h : i < 577) : vzA[i]? = some (if i = 0 then Value.pointer none else if (i - 1) % 9 = 0 then Value.int .i64 0 else .int .u8 0) := by simp [vzA, h]
theorem v_new {w : World} {r q : Nat} (h : w.heap[r]? = some (.cells (vzA.setIfInBounds 0 (.pointer (some ⟨q, 0, none⟩))) 182 (0, 0))) (hp : CAt w q Bd.b0) (hne : q ≠ r) : VAt w r q Mv.bk0 := by
  refine ⟨⟨_, h, by simp [vzA]⟩, fun o ho => ?_, hp, hne⟩
  rw [cell_blk h]
  unfold cellV
  by_cases c : o = 0
  · subst c; rw [Array.getElem?_setIfInBounds_self_of_lt (by simp [vzA]), if_pos rfl]
  · rw [Array.getElem?_setIfInBounds_ne (by omega), vz_at o ho, if_neg c, if_neg c]
    split <;> rfl
set_option maxRecDepth 100000 in
set_option maxHeartbeats 1000000 in
theorem vnewBank_any (w : World) : Calls Tryz.prog 55 #[] w fun e w' => ∃ r, e = .returned (.pointer (some ⟨r, 0, none⟩)) ∧ VAt w' r w.heap.size Mv.bk0 ∧ Below w.heap.size w w' ∧ w.heap.size < r := by
  go_enter Tryz.func55, Tryz.ntmps55
  go_wp2_with fail
  refine (cnew_any _).mono ?_
  rintro e w1 ⟨rfl, hk, hb, hs⟩
  have FIN : Hid (VAt (w1.alloc (.cells (Tryz.zeroCells182.setIfInBounds 0 (.pointer (some ⟨w.heap.size, 0, none⟩))) 182)) w1.heap.size w.heap.size Mv.bk0 ∧ Below w.heap.size w (w1.alloc (.cells (Tryz.zeroCells182.setIfInBounds 0 (.pointer (some ⟨w.heap.size, 0, none⟩))) 182)) ∧ w.heap.size < w1.heap.size) := Hid.intro (by
    rw [vz_eq]
    have bb : Below w1.heap.size w1 (w1.alloc (.cells (vzA.setIfInBounds 0 (.pointer (some ⟨w.heap.size, 0, none⟩))) 182)) := (Below.refl _ _).alloc (Nat.le_refl _) _
    exact ⟨v_new (heap_alloc_new w1 _) (hk.same (bb.block _ hs)) (by omega), hb.alloc (by omega) _, hs⟩)
  clear hk hb hs
  go_wp2_with fail
  go_ret
  exact ⟨_, rfl, FIN.out⟩
set_option maxRecDepth 100000 in
set_option maxHeartbeats 1000000 in
theorem vleave_any (r q f : Nat) (k : Bk) (w : World) (h : VAt w r q k) (hf : f < 64) (hI : Bd.Inv k.pool) (h1 : 1 ≤ k.refs f) (h2 : k.refs f < 2 ^ 60) :
    Calls Tryz.prog 155 #[.pointer (some ⟨r, 0, none⟩), .int .i64 f] w fun e w' => e = .returned (.tuple #[]) ∧ VAt w' r q (Mv.drp k f) ∧ Two r q w w' := by
  have HI := Hid.intro hI
  have c1 := h.cRefs f hf
  have cf := h.frozen
  have fI : (f : Int) < 64 := by omega
  obtain ⟨n, hn⟩ : ∃ n, k.refs f = n + 1 := ⟨k.refs f - 1, by omega⟩
  have S1 : Hid (VAt ((w.setCell ⟨r, 1 + f * 9, none⟩ (.int .i64 (n : Int))).drew) r q { k with refs := fun g => if g = f then n else k.refs g } ∧ Two r q w ((w.setCell ⟨r, 1 + f * 9, none⟩ (.int .i64 (n : Int))).drew)) := Hid.intro ⟨(h.setRefs f n hf).drew, ((Two.refl r q w).left ((Frm.refl r w).setCell _ _)).drew⟩
  have HD : Hid (Mv.drp k f = { k with refs := fun g => if g = f then n else k.refs g, pool := if n = 0 then Bd.giveT k.pool f else k.pool }) := Hid.intro (by
    unfold Mv.drp
    rw [hn, show n + 1 - 1 = n from rfl]
    cases n <;> rfl)
  rw [hn] at c1 h2
  have hw : IntKind.i64.wrap (((n + 1 : Nat) : Int) - 1) = (n : Int) := by rw [IntWalk.i64_in _ ⟨by omega, by omega⟩]; omega
  clear h hI h1 hn
  go_enter Tryz.func155, Tryz.ntmps155
  go_wp2_with fail
  go_region
  generalize hW1 : World.drew _ = W1
  have S2 : Hid (VAt W1 r q { k with refs := fun g => if g = f then n else k.refs g } ∧ Two r q w W1) := Hid.intro (by rw [← hW1]; exact S1.out)
  have d1 : W1.cell? ⟨r, 1 + f * 9, none⟩ = some (.int .i64 (n : Int)) := by
    have := S2.out.1.cRefs f hf
    rw [this]
    show some (Value.int .i64 (((if f = f then n else k.refs f) : Nat) : Int)) = _
    rw [if_pos rfl]
  have d0 := S2.out.1.cP
  clear hW1 c1 cf S1
  by_cases e0 : n = 0
  · subst e0
    have d1' : W1.cell? ⟨r, 1 + f * 9, none⟩ = some (.int .i64 0) := d1
    clear d1
    go_wp2_with fail
    refine (cgive_any q f k.pool _ S2.out.1.pool HI.out).mono ?_
    rintro e w2 ⟨rfl, kp, F⟩
    have S3 : Hid (VAt w2 r q (Mv.drp k f) ∧ Two r q w w2) := Hid.intro ⟨by rw [HD.out]; exact S2.out.1.withPool F kp, S2.out.2.right F⟩
    clear kp F
    go_wp2_with fail
    go_end0
    exact ⟨rfl, S3.out⟩
  · have e0' : ((n : Int) == 0) = false := by simp; omega
    have S3 : Hid (VAt W1 r q (Mv.drp k f) ∧ Two r q w W1) := Hid.intro ⟨by rw [HD.out, if_neg e0]; exact S2.out.1, S2.out.2⟩
    go_wp2_with fail
    go_end0
    exact ⟨rfl, S3.out⟩
end Go.Proofs.YtghogbngmcolmaaGreat
namespace Go.Proofs.YtghogbngmcolmaaGreat
open Go.RowKit
open Bd (P)
open Mv (Me Bk)
def rowP (m : Me) : List Value := (List.range 32).map fun o => if o % 2 = 0 then Value.int .i64 (m.is (o / 2) : Int) else .int .i64 ((m.fr (o / 2) : Int) - 1)
theorem rowP_len (m : Me) : (rowP m).length = 32 := by simp [rowP]
theorem UAt.range {w : World} {b r : Nat} {m : Me} (h : UAt w b r m) : w.rangeAt b 1 (rowP m) := fun j v hv => by
  have hj : j < 32 := by have := (List.getElem?_eq_some_iff.1 hv).1; rwa [rowP_len] at this
  simp [rowP, hj] at hv
  rw [h.cell _ (by omega), ← hv]
  unfold cellU
  rw [if_neg (by omega), show 1 + j - 1 = j by omega]
theorem rowP_ex (m : Me) (x : Nat) (h : x < 16) : (rowP m).toArray.extract (x * 2) (x * 2 + 2) = #[.int .i64 (m.is x : Int), .int .i64 ((m.fr x : Int) - 1)] := by
  have hs : (rowP m).toArray.size = 32 := by simp [rowP]
  apply Array.ext_getElem?
  intro i
  rw [Array.getElem?_extract]
  by_cases hi : i < 2
  · rw [if_pos (by rw [hs]; omega)]
    have e : (rowP m).toArray[x * 2 + i]? = some (if (x * 2 + i) % 2 = 0 then Value.int .i64 (m.is ((x * 2 + i) / 2) : Int) else .int .i64 ((m.fr ((x * 2 + i) / 2) : Int) - 1)) := by
      simp [rowP, show x * 2 + i < 32 by omega]
    rw [e, show (x * 2 + i) / 2 = x by omega]
    match i, hi with
    | 0, _ => rw [if_pos (by omega)]; rfl
    | 1, _ => rw [if_neg (by omega)]; rfl
  · rw [if_neg (by rw [hs]; omega), Array.getElem?_eq_none (by simp; omega)]
theorem index_rowP (m : Me) (x : Nat) (h : x < 16) (w : World) : Sem.run Tryz.prog (Instr.index 121 (Value.agg (rowP m).toArray) (Value.int IntKind.i64 x)) w = .ok (.agg #[.int .i64 (m.is x : Int), .int .i64 ((m.fr x : Int) - 1)]) w := by
  have hu : Tryz.prog.underlying 121 = some (.array 16 120) := by kernel_rfl
  have hx := rowP_ex m x h
  have h1 : (x : Int) < 16 := by omega
  obtain ⟨A, hA⟩ : ∃ A, (rowP m).toArray = A := ⟨_, rfl⟩
  rw [hA] at hx ⊢
  simp [Instr.index, Sem.run_bind, run_underlying hu, go_sem, hx]
  intro c; omega
theorem rowP_size (m : Me) : (Tryz.prog.info? 121).map (·.size) = some (rowP m).length := by rw [rowP_len]; kernel_rfl
set_option maxRecDepth 100000 in
set_option maxHeartbeats 1000000 in
theorem vresident_any (b r : Nat) (m : Me) (w : World) (h : UAt w b r m) :
    Calls Tryz.prog 30 #[.pointer (some ⟨b, 0, none⟩)] w fun e w' => e = .returned (.int .i64 (Mv.resK m 16 : Int)) ∧ Below w.heap.size w w' := by
  have hsz := Hid.intro (rowP_size m)
  have HR := Hid.intro h.range
  clear h
  go_enter Tryz.func30, Tryz.ntmps30
  go_wp2_with (refine wpList_load_mid rfl 121 _ rfl b 1 rfl (rowP m) (.array 16 120) HR.out (by kernel_rfl) rfl hsz.out ?_)
  go_loopw [3, 10] (fun s i wr => ∃ (k : Nat), i = .int .i64 k ∧ s = .int .i64 (Mv.resK m k : Int) ∧ k ≤ 16 ∧ Hid (Below w.heap.size w wr)) (fun _ i _ => 16 - (intOf i).toNat)
  case atStart => exact ⟨0, rfl, rfl, by omega, Below.refl _ _⟩
  case round =>
    obtain ⟨k, rfl, rfl, hk, T⟩ := hrel
    by_cases hlt : k < 16
    · have hltI : (k : Int) < 16 := by omega
      have hix := index_rowP m k hlt
      have LS : Hid (Mv.resK m (k + 1) = Mv.resK m k + if m.fr k = 0 then 0 else 1) := Hid.intro rfl
      have BL : Hid (∀ o, Below w.heap.size w (wr.alloc o)) := Hid.intro (fun o => T.out.alloc T.out.size o)
      have lb := resK_le m k
      generalize m.is k = u0 at *
      generalize m.fr k = u at *
      by_cases e1 : u = 0
      · have LE : Hid (Mv.resK m (k + 1) = Mv.resK m k) := Hid.intro (by rw [LS.out, if_pos e1]; rfl)
        subst e1
        clear LS
        go_wp2_with fail
        go_roundw
        case rel => exact ⟨k + 1, by go_num, by rw [LE.out], by omega, BL.out _⟩
        case measure => simp [intOf]; omega
      · have LE : Hid (Mv.resK m (k + 1) = Mv.resK m k + 1) := Hid.intro (by rw [LS.out, if_neg e1])
        have e1' : ((u : Int) - 1 == -1) = false := by simp; omega
        generalize Mv.resK m k = lk at *
        clear LS e1
        go_wp2_with fail
        go_roundw
        case rel => exact ⟨k + 1, by go_num, by rw [LE.out]; go_num, by omega, BL.out _⟩
        case measure => simp [intOf]; omega
    · have hk64 : k = 16 := by omega
      subst hk64
      go_wp2_with fail
      go_ret
      exact ⟨rfl, T.out⟩
end Go.Proofs.YtghogbngmcolmaaGreat

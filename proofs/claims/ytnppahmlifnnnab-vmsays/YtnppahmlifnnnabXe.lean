/- The document's own blocks: Give. -/
import Derived.Test.YtnppahmlifnnnabXd
namespace Go.Proofs.Ytnppahmlifnnnab
open Go.RowKit
open Bd (P)

namespace Bd
theorem bud_lt {i k : Nat} (hk : 1 ≤ k) (hk6 : k ≤ 6) (hi : i < 64) (h : i % sz k = 0) : bud i (sz k) < 64 ∧ (i / sz k % 2 = 1 → sz k ≤ i) := by
  have key : ∀ k, 1 ≤ k → k ≤ 7 → k ≤ 6 → ∀ x, x < 64 → x % sz k = 0 → bud x (sz k) < 64 ∧ (x / sz k % 2 = 1 → sz k ≤ x) := by
    refine sz_cases (M := fun k s => k ≤ 6 → ∀ x, x < 64 → x % s = 0 → bud x s < 64 ∧ (x / s % 2 = 1 → s ≤ x)) ?_ ?_ ?_ ?_ ?_ ?_ ?_
    all_goals
      intro hk x hx hm
      refine ⟨?_, fun c => by omega⟩
      unfold bud
      split <;> omega
  exact key k hk (by omega) hk6 i hi h
theorem joins_no {p : P} {i : Nat} (h : free2 p i = false) (n : Nat) : joins p i n = p := by
  cases n with
  | zero => rfl
  | succ n => show (if free2 p i = true then _ else p) = p; rw [h, if_neg (by decide)]
theorem joins_yes {p : P} {i : Nat} (h : free2 p i = true) (n : Nat) : joins p i (n + 1) = joins (join p (min i (bud i (sz (p.ord i)))) (max i (bud i (sz (p.ord i))))) (min i (bud i (sz (p.ord i)))) n := by
  show (if free2 p i = true then _ else p) = _
  rw [if_pos h]
/-- While a block is given back: where it stands, and what is still to come. -/
structure Giv (q : P) (i n : Nat) (G : P) : Prop where
  inv : Inv q
  lt : i < 64
  pos : 0 < q.ord i
  tk : q.tk i = false
  fu : 7 ≤ q.ord i + n
  eq : joins q i n = G
theorem Giv.start {p : P} (h : Inv p) {i : Nat} (hi : i < 64) (ht : p.tk i = true) : Giv { p with tk := upb p.tk i false } i 7 (giveB p i) := by
  refine ⟨⟨h.le, h.al, h.own, h.cov, fun x hx hx0 => ?_⟩, hi, h.tk i hi ht, ?_, by omega, rfl⟩
  · have : (if x = i then false else p.tk x) = true := hx0
    by_cases c : x = i
    · rw [if_pos c] at this; cases this
    · rw [if_neg c] at this; exact h.tk x hx this
  · show (if i = i then false else p.tk i) = false; rw [if_pos rfl]
theorem Giv.next {q G : P} {i n : Nat} (h : Giv q i (n + 1) G) (f : free2 q i = true) : Giv (join q (min i (bud i (sz (q.ord i)))) (max i (bud i (sz (q.ord i))))) (min i (bud i (sz (q.ord i)))) n G := by
  have f' := f
  unfold free2 at f
  simp only [Bool.and_eq_true, decide_eq_true_eq, Bool.not_eq_true'] at f
  have a := h.inv.join h.lt h.pos f.1 h.tk f.2.1 f.2.2
  exact ⟨a.1, a.2.1, by rw [a.2.2.1]; omega, a.2.2.2, by rw [a.2.2.1]; have := h.fu; omega, by rw [← h.eq, joins_yes f']⟩
end Bd

theorem kdiv (i s : Nat) : ((i : Int) / (s : Int)) = ((i / s : Nat) : Int) := rfl
theorem kmod2 (n : Nat) : ((n : Int) % 2) = ((n % 2 : Nat) : Int) := rfl
theorem imin (a b : Nat) : (if (b : Int) < (a : Int) then (b : Int) else (a : Int)) = ((min a b : Nat) : Int) := by split <;> omega
theorem imax (a b : Nat) : (if (a : Int) < (b : Int) then (b : Int) else (a : Int)) = ((max a b : Nat) : Int) := by split <;> omega
theorem kpar (i s : Nat) (hi : i < 64) : ((wrap64 ((i : Int) / (s : Int))).tmod 2 == 1) = decide (i / s % 2 = 1) := by
  have hd : i / s ≤ i := Nat.div_le_self _ _
  have e : wrap64 ((i : Int) / (s : Int)) = ((i / s : Nat) : Int) := by
    rw [kdiv]
    generalize i / s = x at *
    exact IntWalk.wrap64_in (x : Int) ⟨by omega, by omega⟩
  rw [e, show (((i / s : Nat) : Int).tmod 2) = ((i / s % 2 : Nat) : Int) from rfl]
  by_cases c : i / s % 2 = 1
  · rw [c]; rfl
  · rw [decide_eq_false c]
    simp
    omega
set_option maxRecDepth 100000 in
set_option maxHeartbeats 400000 in
theorem kgive_wrong (b : Nat) (z : Int) (p : P) (w : World) (h : KAt w b p) (k : Bd.giveE p z ≠ 0) :
    Calls Try.prog 146 #[.pointer (some ⟨b, 0, none⟩), .int .i64 z] w fun e w' => e = .returned (.int .i64 (Bd.giveE p z)) ∧ w' = w := by
  have HF := Hid.intro h
  have hp : 0 < Bd.giveE p z := by
    unfold Bd.giveE at k ⊢
    split
    · omega
    · rename_i c
      rw [if_neg c] at k
      by_cases t : p.tk z.toNat = true
      · rw [if_pos t] at k; exact absurd rfl k
      · rw [if_neg t]; omega
  obtain ⟨E, hE⟩ : ∃ E, Bd.giveE p z = E := ⟨_, rfl⟩
  have HX := Hid.intro hE
  rw [hE] at hp
  clear h k hE
  go_enter Try.func146, Try.ntmps146
  go_wp2_with fail
  refine (kis_any b z p _ HF.out).mono ?_
  rintro e w1 ⟨rfl, hw⟩
  subst w1
  rw [HX.out]
  go_wp2
  go_ret
  rw [HX.out]; exact ⟨rfl, rfl⟩
set_option maxRecDepth 100000 in
set_option maxHeartbeats 2000000 in
theorem kgive_ok (b j : Nat) (p : P) (w : World) (h : KAt w b p) (hI : Bd.Inv p) (hj : j < 64) (ht : p.tk j = true) :
    Calls Try.prog 146 #[.pointer (some ⟨b, 0, none⟩), .int .i64 j] w fun e w' => e = .returned (.int .i64 0) ∧ KAt w' b (Bd.giveB p j) ∧ Frm b w w' := by
  have HF := Hid.intro h
  have HK : Hid (Bd.giveE p j = 0) := Hid.intro (by unfold Bd.giveE; rw [if_neg (by omega), Int.toNat_natCast, if_pos ht])
  have c0 := h.cTk j hj
  have cf0 := h.frozen
  have hjI : (j : Int) < 64 := by omega
  have S0 : Hid (KAt (w.setCell ⟨b, 64 + j, none⟩ (.bool false)) b { p with tk := Bd.upb p.tk j false } ∧ Frm b w (w.setCell ⟨b, 64 + j, none⟩ (.bool false)) ∧ Bd.Giv { p with tk := Bd.upb p.tk j false } j 7 (Bd.giveB p j)) := Hid.intro ⟨h.setTk j false hj, (Frm.refl b w).setCell _ _, Bd.Giv.start hI hj ht⟩
  clear h hI ht
  go_enter Try.func146, Try.ntmps146
  go_wp2_with fail
  refine (kis_any b j p _ HF.out).mono ?_
  rintro e w1 ⟨rfl, hw⟩
  subst w1
  rw [HK.out]
  go_wp2_with fail
  refine wp_gen (fun W => KAt W b { p with tk := Bd.upb p.tk j false } ∧ Frm b w W ∧ Bd.Giv { p with tk := Bd.upb p.tk j false } j 7 (Bd.giveB p j)) S0.out ?_
  intro W1 h1
  have S1 := Hid.intro h1
  clear h1 S0 c0 cf0
  go_loopw [1] (fun s wr => ∃ (i n : Nat) (q : P), s = .int .i64 i ∧ n ≤ 7 ∧ Hid (KAt wr b q ∧ Frm b w wr ∧ Bd.Giv q i n (Bd.giveB p j))) (fun s wr => 7 - cellN wr b (intOf s).toNat)
  case atStart => exact ⟨j, 7, _, rfl, by omega, S1⟩
  case round =>
    clear S1
    obtain ⟨i, n, q, rfl, hn7, S⟩ := hrel
    have hi := S.out.2.2.lt
    have hiI : (i : Int) < 64 := by omega
    have c1 := S.out.1.cOrd i hi
    have CC := Hid.intro c1
    obtain ⟨k, hk⟩ : ∃ k, q.ord i = k := ⟨_, rfl⟩
    have HK2 := Hid.intro hk
    have hk7 : k ≤ 7 := by rw [← hk]; exact S.out.2.2.inv.le i hi
    have hk1 : 1 ≤ k := by rw [← hk]; exact S.out.2.2.pos
    rw [hk] at c1 CC
    clear hk
    by_cases hlt : k < 7
    · have hltI : (k : Int) < 7 := by omega
      have al := (S.out.2.2.inv.al i hi S.out.2.2.pos)
      rw [HK2.out] at al
      have BL := Bd.bud_lt hk1 (by omega) hi al.1
      have BO := Hid.intro (Bd.bud_lo hk1 (by omega) al.1)
      have sl := sz_le hk7
      have sp := Bd.sz_pos k
      have SZ := Hid.intro (size_any k hk7)
      obtain ⟨s, hs⟩ : ∃ s, Bd.sz k = s := ⟨_, rfl⟩
      have HS := Hid.intro hs
      obtain ⟨f, hf⟩ : ∃ f, Bd.bud i (Bd.sz k) = f := ⟨_, rfl⟩
      have HFB := Hid.intro hf
      rw [hf, hs] at BL
      rw [hs] at sl sp al
      have F2 : Hid (Bd.free2 q i = (decide (k < 7) && (decide (q.ord f = k) && !q.tk f))) := Hid.intro (by unfold Bd.free2; rw [HK2.out, HFB.out])
      have hf64 := BL.1
      have c2 := S.out.1.cOrd f hf64
      have c3 := S.out.1.cTk f hf64
      have hfI : (f : Int) < 64 := by omega
      have s0 : ((s : Int) == 0) = false := by simp; omega
      have ef : f = if i / s % 2 = 1 then i - s else i + s := by rw [← hf, hs]; rfl
      have hw1 : IntKind.i64.wrap ((i : Int) + (s : Int)) = (i : Int) + (s : Int) := IntWalk.i64_in _ ⟨by omega, by omega⟩
      clear hs hf
      have hpq := kpar i s hi
      by_cases hpar : i / s % 2 = 1
      · have hle := BL.2 hpar
        rw [if_pos hpar] at ef
        rw [decide_eq_true hpar] at hpq
        have hw2 : IntKind.i64.wrap ((i : Int) - (s : Int)) = (f : Int) := by rw [show (i : Int) - (s : Int) = (f : Int) by omega]; exact IntWalk.i64_in _ ⟨by omega, by omega⟩
        have mfi : (f : Int) < (i : Int) := by omega
        have MM : Hid (min i f = f ∧ max i f = i) := Hid.intro ⟨by omega, by omega⟩
        clear hpar ef
        go_wp2_with fail
        refine (SZ.out _).mono ?_
        rintro e w2 ⟨rfl, hw2'⟩
        subst w2
        rw [HS.out]
        go_wp2_with fail
        cases t3 : q.tk f
        · by_cases t4 : q.ord f = k
          · have FR : Hid (Bd.free2 q i = true) := Hid.intro (by rw [F2.out, decide_eq_true hlt, decide_eq_true t4, t3]; rfl)
            rw [t3] at c3
            rw [t4] at c2
            obtain ⟨m, rfl⟩ : ∃ m, n = m + 1 := ⟨n - 1, by have := S.out.2.2.fu; rw [HK2.out] at this; omega⟩
            have GN := Hid.intro (S.out.2.2.next FR.out)
            have cf := S.out.1.frozen
            have OLO : Hid (q.ord f = k) := Hid.intro t4
            clear t3 t4
            have hwk : IntKind.i64.wrap ((k : Int) + 1) = (k : Int) + 1 := IntWalk.i64_in _ ⟨by omega, by omega⟩
            go_region
            go_wp2_with fail
            refine wp_gen (fun W => KAt W b { q with ord := Bd.up q.ord i 0 } ∧ Frm b w W) (by
              exact ⟨(S.out.1.setOrd i 0 (by omega)).drew, (S.out.2.1.setCell _ _).drew⟩) ?_
            rintro W3 ⟨h3, r3⟩
            have T3 := Hid.intro (And.intro h3 r3)
            have d1 : W3.cell? ⟨b, f, none⟩ = some (.int .i64 (k : Int)) := by
              rw [h3.cOrd f (by omega)]
              show some (Value.int .i64 (((if f = i then 0 else q.ord f) : Nat) : Int)) = _
              rw [if_neg (by omega), OLO.out]
            have df := h3.frozen
            clear h3 r3 c1 c2 c3 cf
            go_region
            generalize hW4 : World.drew _ = W4
            have T4 : Hid (KAt W4 b (Bd.join q f i) ∧ Frm b w W4) := Hid.intro (by
              rw [← hW4]
              refine ⟨?_, (T3.out.2.setCell _ _).drew⟩
              have := (T3.out.1.setOrd f (k + 1) (by omega)).drew
              unfold Bd.join
              rw [OLO.out]
              exact this)
            have CN : Hid (cellN W4 b f = k + 1) := Hid.intro (cellN_of (by
              rw [T4.out.1.cOrd f (by omega)]
              unfold Bd.join Bd.up
              simp [OLO.out]))
            clear hW4 d1 df
            go_wp2_with fail
            go_roundw
            case rel =>
              refine ⟨f, m, _, by first | rfl | trivial, by omega, T4.out.1, T4.out.2, ?_⟩
              have g := GN.out
              rw [HK2.out, HFB.out, MM.out.1, MM.out.2] at g
              exact g
            case measure =>
              simp only [intOf, Int.toNat_natCast]
              rw [CN.out, cellN_of CC.out]; omega
          · have FR : Hid (Bd.free2 q i = false) := Hid.intro (by rw [F2.out, decide_eq_false t4]; simp)
            have EQ : Hid (q = Bd.giveB p j) := Hid.intro (by rw [← S.out.2.2.eq, Bd.joins_no FR.out])
            have t4' : ((q.ord f : Int) == (k : Int)) = false := by simp; omega
            rw [t3] at c3
            generalize q.ord f = uf at *
            clear t3 t4
            go_region
            go_wp2_with fail
            go_ret
            exact ⟨rfl, by rw [← EQ.out]; exact S.out.1.drew, S.out.2.1.drew⟩
        · have FR : Hid (Bd.free2 q i = false) := Hid.intro (by rw [F2.out, t3]; simp)
          have EQ : Hid (q = Bd.giveB p j) := Hid.intro (by rw [← S.out.2.2.eq, Bd.joins_no FR.out])
          rw [t3] at c3
          clear t3
          go_region
          go_wp2_with fail
          go_ret
          exact ⟨rfl, by rw [← EQ.out]; exact S.out.1.drew, S.out.2.1.drew⟩
      · rw [if_neg hpar] at ef
        rw [decide_eq_false hpar] at hpq
        have hef : (i : Int) + (s : Int) = (f : Int) := by omega
        rw [hef] at hw1
        have mfi : (i : Int) < (f : Int) := by omega
        have mfi' : ¬ (f : Int) < (i : Int) := by omega
        have MM : Hid (min i f = i ∧ max i f = f) := Hid.intro ⟨by omega, by omega⟩
        clear hpar ef
        go_wp2_with fail
        refine (SZ.out _).mono ?_
        rintro e w2 ⟨rfl, hw2'⟩
        subst w2
        rw [HS.out]
        go_wp2_with fail
        cases t3 : q.tk f
        · by_cases t4 : q.ord f = k
          · have FR : Hid (Bd.free2 q i = true) := Hid.intro (by rw [F2.out, decide_eq_true hlt, decide_eq_true t4, t3]; rfl)
            rw [t3] at c3
            rw [t4] at c2
            obtain ⟨m, rfl⟩ : ∃ m, n = m + 1 := ⟨n - 1, by have := S.out.2.2.fu; rw [HK2.out] at this; omega⟩
            have GN := Hid.intro (S.out.2.2.next FR.out)
            have cf := S.out.1.frozen
            have OLO : Hid (q.ord i = k) := HK2
            clear t3 t4
            have hwk : IntKind.i64.wrap ((k : Int) + 1) = (k : Int) + 1 := IntWalk.i64_in _ ⟨by omega, by omega⟩
            go_region
            go_wp2_with fail
            refine wp_gen (fun W => KAt W b { q with ord := Bd.up q.ord f 0 } ∧ Frm b w W) (by
              exact ⟨(S.out.1.setOrd f 0 (by omega)).drew, (S.out.2.1.setCell _ _).drew⟩) ?_
            rintro W3 ⟨h3, r3⟩
            have T3 := Hid.intro (And.intro h3 r3)
            have d1 : W3.cell? ⟨b, i, none⟩ = some (.int .i64 (k : Int)) := by
              rw [h3.cOrd i (by omega)]
              show some (Value.int .i64 (((if i = f then 0 else q.ord i) : Nat) : Int)) = _
              rw [if_neg (by omega), OLO.out]
            have df := h3.frozen
            clear h3 r3 c1 c2 c3 cf
            go_region
            generalize hW4 : World.drew _ = W4
            have T4 : Hid (KAt W4 b (Bd.join q i f) ∧ Frm b w W4) := Hid.intro (by
              rw [← hW4]
              refine ⟨?_, (T3.out.2.setCell _ _).drew⟩
              have := (T3.out.1.setOrd i (k + 1) (by omega)).drew
              unfold Bd.join
              rw [OLO.out]
              exact this)
            have CN : Hid (cellN W4 b i = k + 1) := Hid.intro (cellN_of (by
              rw [T4.out.1.cOrd i (by omega)]
              unfold Bd.join Bd.up
              simp [OLO.out]))
            clear hW4 d1 df
            go_wp2_with fail
            go_roundw
            case rel =>
              refine ⟨i, m, _, by first | rfl | trivial, by omega, T4.out.1, T4.out.2, ?_⟩
              have g := GN.out
              rw [HK2.out, HFB.out, MM.out.1, MM.out.2] at g
              exact g
            case measure =>
              simp only [intOf, Int.toNat_natCast]
              rw [CN.out, cellN_of CC.out]; omega
          · have FR : Hid (Bd.free2 q i = false) := Hid.intro (by rw [F2.out, decide_eq_false t4]; simp)
            have EQ : Hid (q = Bd.giveB p j) := Hid.intro (by rw [← S.out.2.2.eq, Bd.joins_no FR.out])
            have t4' : ((q.ord f : Int) == (k : Int)) = false := by simp; omega
            rw [t3] at c3
            generalize q.ord f = uf at *
            clear t3 t4
            go_region
            go_wp2_with fail
            go_ret
            exact ⟨rfl, by rw [← EQ.out]; exact S.out.1.drew, S.out.2.1.drew⟩
        · have FR : Hid (Bd.free2 q i = false) := Hid.intro (by rw [F2.out, t3]; simp)
          have EQ : Hid (q = Bd.giveB p j) := Hid.intro (by rw [← S.out.2.2.eq, Bd.joins_no FR.out])
          rw [t3] at c3
          clear t3
          go_region
          go_wp2_with fail
          go_ret
          exact ⟨rfl, by rw [← EQ.out]; exact S.out.1.drew, S.out.2.1.drew⟩
    · have hltI : ¬ (k : Int) < 7 := by omega
      have EQ : Hid (q = Bd.giveB p j) := Hid.intro (by rw [← S.out.2.2.eq, Bd.joins_no (by unfold Bd.free2; rw [HK2.out, decide_eq_false hlt]; rfl)])
      go_wp2_with fail
      go_ret
      exact ⟨rfl, by rw [← EQ.out]; exact S.out.1, S.out.2.1⟩
theorem kgive_any (b : Nat) (z : Int) (p : P) (w : World) (h : KAt w b p) (hI : Bd.Inv p) :
    Calls Try.prog 146 #[.pointer (some ⟨b, 0, none⟩), .int .i64 z] w fun e w' => e = .returned (.int .i64 (Bd.giveE p z)) ∧ KAt w' b (Bd.giveT p z) ∧ Frm b w w' := by
  by_cases k : Bd.giveE p z = 0
  · have k' := k
    unfold Bd.giveE at k'
    by_cases c1 : z < 0 ∨ 63 < z
    · rw [if_pos c1] at k'; omega
    · rw [if_neg c1] at k'
      obtain ⟨j, rfl⟩ := Int.eq_ofNat_of_zero_le (show 0 ≤ z by omega)
      rw [Int.toNat_natCast] at k'
      have ht : p.tk j = true := by
        cases t : p.tk j
        · rw [t, if_neg (by decide)] at k'; omega
        · rfl
      refine (kgive_ok b j p w h hI (by omega) ht).mono ?_
      rintro e w' ⟨rfl, h1, h2⟩
      unfold Bd.giveT
      rw [k, if_pos rfl, Int.toNat_natCast]
      exact ⟨rfl, h1, h2⟩
  · refine (kgive_wrong b z p w h k).mono ?_
    rintro e w' ⟨rfl, rfl⟩
    unfold Bd.giveT
    rw [if_neg k]
    exact ⟨rfl, h, Frm.refl _ _⟩
end Go.Proofs.Ytnppahmlifnnnab

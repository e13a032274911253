import Derived.Laws.Rows
import Derived.Deep.RegionWith
import Derived.Test.YtghogbngmcolmaaGreatQaj
import Derived.Test.YtghogbngmcolmaaGreatQaa
namespace Go.Proofs.YtghogbngmcolmaaGreat
namespace Bd
structure Best (b : P) (o i : Nat) : Prop where
  lt : i < 64
  ord : o < b.ord i
  tk : b.tk i = false
  least : ∀ j, j < 64 → o < b.ord j → b.tk j = false → b.ord i < b.ord j ∨ (b.ord i = b.ord j ∧ i ≤ j)
def parts (b : P) (i : Nat) : Nat → P
  | 0 => b
  | n + 1 => parts (half b i) i n
def giveE (b : P) (z : Int) : Int := if z < 0 ∨ 63 < z then 1 else if b.tk z.toNat = true then 0 else 2
def free2 (b : P) (i : Nat) : Bool := decide (b.ord i < 7) && (decide (b.ord (bud i (sz (b.ord i))) = b.ord i) && !b.tk (bud i (sz (b.ord i))))
def joins (b : P) (i : Nat) : Nat → P
  | 0 => b
  | n + 1 => if free2 b i = true then joins (join b (min i (bud i (sz (b.ord i)))) (max i (bud i (sz (b.ord i))))) (min i (bud i (sz (b.ord i)))) n else b
def giveB (b : P) (i : Nat) : P := joins { b with tk := upb b.tk i false } i 7
def giveT (b : P) (z : Int) : P := if giveE b z = 0 then giveB b z.toNat else b
theorem NB.but {b : P} (n : NB b 64) (h : Inv b) (e : Nat) : NB b e := fun i hi h0 h7 ht _ _ => n i hi h0 h7 ht (by omega) (by
  have al := h.al i hi h0
  have key : ∀ k, 1 ≤ k → k ≤ 7 → k ≤ 6 → ∀ x, x < 64 → x % sz k = 0 → bud x (sz k) ≠ 64 := by
    refine sz_cases (M := fun k s => k ≤ 6 → ∀ x, x < 64 → x % s = 0 → bud x s ≠ 64) ?_ ?_ ?_ ?_ ?_ ?_ ?_
    all_goals
      intro hk x hx hm
      unfold bud
      split <;> omega
  exact key _ h0 (by omega) (by omega) i hi al.1)
theorem joins_inv : ∀ (n : Nat) {b : P} {i : Nat}, i < 64 → 0 < b.ord i → 7 ≤ b.ord i + n → Inv b → b.tk i = false → NB b i → Inv (joins b i n) ∧ NB (joins b i n) 64 ∧ (joins b i n).tk = b.tk := by
  intro n
  induction n with
  | zero => intro b i hi h0 hn h1 h2 h3; exact ⟨h1, h3.all hi h1 (.inr (.inr (.inl (by omega)))), rfl⟩
  | succ n ih =>
    intro b i hi h0 hn h1 h2 h3
    show Inv (if free2 b i = true then _ else b) ∧ NB (if free2 b i = true then _ else b) 64 ∧ (if free2 b i = true then _ else b).tk = b.tk
    by_cases c : free2 b i = true
    · rw [if_pos c]
      unfold free2 at c
      simp only [Bool.and_eq_true, decide_eq_true_eq, Bool.not_eq_true'] at c
      have a := h1.join hi h0 c.1 h2 c.2.1 c.2.2
      have r := ih (b := join b (min i (bud i (sz (b.ord i)))) (max i (bud i (sz (b.ord i))))) (i := min i (bud i (sz (b.ord i)))) a.2.1 (by rw [a.2.2.1]; omega) (by rw [a.2.2.1]; omega) a.1 a.2.2.2 (h3.join h1 hi h0 c.1)
      exact ⟨r.1, r.2.1, r.2.2⟩
    · rw [if_neg c]
      refine ⟨h1, h3.all hi h1 ?_, rfl⟩
      by_cases c1 : b.ord i < 7
      · by_cases c2 : b.ord (bud i (sz (b.ord i))) = b.ord i
        · refine .inr (.inr (.inr (.inl ?_)))
          cases c3 : b.tk (bud i (sz (b.ord i)))
          · exact absurd (by unfold free2; simp [c1, c2, c3]) c
          · rfl
        · exact .inr (.inr (.inr (.inr c2)))
      · exact .inr (.inr (.inl (by omega)))
theorem Inv.giveB {b : P} (h : Inv b) (n : NB b 64) {i : Nat} (hi : i < 64) (ht : b.tk i = true) : Inv (giveB b i) ∧ NB (giveB b i) 64 ∧ (giveB b i).tk = upb b.tk i false := by
  have h0 := h.tk i hi ht
  have i' : Inv { b with tk := upb b.tk i false } := ⟨h.le, h.al, h.own, h.cov, fun x hx hx0 => by
    have : (if x = i then false else b.tk x) = true := hx0
    by_cases c : x = i
    · rw [if_pos c] at this; cases this
    · rw [if_neg c] at this; exact h.tk x hx this⟩
  have n' : NB { b with tk := upb b.tk i false } i := fun x hx x0 x7 htx xi bi hc => by
    have e1 : b.tk x = false := by
      have : (if x = i then false else b.tk x) = false := htx
      rw [if_neg xi] at this; exact this
    have e2 : b.tk (bud x (sz (b.ord x))) = false := by
      have : (if bud x (sz (b.ord x)) = i then false else b.tk (bud x (sz (b.ord x)))) = false := hc.2
      rw [if_neg bi] at this; exact this
    exact (n.but h i) x hx x0 x7 e1 xi bi ⟨hc.1, e2⟩
  exact joins_inv 7 (b := { b with tk := upb b.tk i false }) hi h0 (by omega) i' (by show (if i = i then false else b.tk i) = false; rw [if_pos rfl]) n'
theorem Inv.give {b : P} (h : Inv b) (n : NB b 64) (z : Int) : Inv (giveT b z) ∧ NB (giveT b z) 64 := by
  unfold giveT
  by_cases c : giveE b z = 0
  · rw [if_pos c]
    unfold giveE at c
    by_cases c1 : z < 0 ∨ 63 < z
    · rw [if_pos c1] at c; omega
    · rw [if_neg c1] at c
      by_cases c2 : b.tk z.toNat = true
      · have := h.giveB n (by omega) c2
        exact ⟨this.1, this.2.1⟩
      · rw [if_neg c2] at c; omega
  · rw [if_neg c]; exact ⟨h, n⟩
def b0 : P := ⟨fun i => if i = 0 then 7 else 0, fun _ => false⟩
theorem inv0 : Inv b0 ∧ NB b0 64 := by
  have e : ∀ i, 0 < b0.ord i → i = 0 := fun i h => by
    by_cases c : i = 0
    · exact c
    · have : (if i = 0 then 7 else 0) > 0 := h
      rw [if_neg c] at this; omega
  refine ⟨⟨fun i _ => ?_, fun i _ h0 => ?_, fun i j _ h0 h1 _ => ?_, fun j hj => ⟨0, by omega, by decide, by show j < 0 + sz 7; have : sz 7 = 64 := rfl; omega⟩, fun i _ h => by cases h⟩, fun i _ h0 h7 => ?_⟩
  · show (if i = 0 then 7 else 0) ≤ 7
    split <;> omega
  · rw [e i h0]; exact ⟨by decide, by decide⟩
  · show (if j = 0 then 7 else 0) = 0
    rw [if_neg (by omega)]
  · rw [e i h0] at h7; exact absurd h7 (by decide)
end Bd
end Go.Proofs.YtghogbngmcolmaaGreat
namespace Go.Proofs.YtghogbngmcolmaaGreat
open Go.RowKit
open Bd (P)
def candB (p : P) (o j : Nat) : Prop := o < p.ord j ∧ p.tk j = false
def BestFrom (p : P) (o k : Nat) (z : Int) : Prop := (z = -1 ∧ ∀ j, k ≤ j → j < 64 → ¬ candB p o j) ∨ ∃ x : Nat, z = x ∧ k ≤ x ∧ x < 64 ∧ candB p o x ∧ ∀ j, k ≤ j → j < 64 → candB p o j → p.ord x < p.ord j ∨ (p.ord x = p.ord j ∧ x ≤ j)
theorem BestFrom.done {p : P} {o : Nat} {z : Int} (h : BestFrom p o 0 z) : (z = -1 ∧ ∀ j, j < 64 → o < p.ord j → p.tk j = true) ∨ ∃ x : Nat, z = x ∧ Bd.Best p o x := by
  rcases h with ⟨h1, h2⟩ | ⟨x, h1, _, h3, h4, h5⟩
  · refine .inl ⟨h1, fun j hj ho => ?_⟩
    cases c : p.tk j
    · exact absurd ⟨ho, c⟩ (h2 j (by omega) hj)
    · rfl
  · exact .inr ⟨x, h1, h3, h4.1, h4.2, fun j hj ho ht => h5 j (by omega) hj ⟨ho, ht⟩⟩
def bucellN (w : World) (b o : Nat) : Nat := match w.cell? ⟨b, o, none⟩ with | some v => (intOf v).toNat | none => 0
theorem cellN_of {w : World} {b o n : Nat} (h : w.cell? ⟨b, o, none⟩ = some (.int .i64 (n : Int))) : bucellN w b o = n := by unfold bucellN; rw [h]; rfl
end Go.Proofs.YtghogbngmcolmaaGreat
namespace Go.Proofs.YtghogbngmcolmaaGreat
open Go.RowKit
open Bd (P)
namespace Bd
theorem bud_lt {i k : Nat} (hk : 1 ≤ k) (hk6 : k ≤ 6) (hi : i < 64) (h : i % sz k = 0) : bud i (sz k) < 64 ∧ (i / sz k % 2 = 1 → sz k ≤ i) := by
  have key : ∀ k, 1 ≤ k → k ≤ 7 → k ≤ 6 → ∀ x, x < 64 → x % sz k = 0 → bud x (sz k) < 64 ∧ (x / sz k % 2 = 1 → sz k ≤ x) := by
    refine sz_cases (M := fun k s => k ≤ 6 → ∀ x, x < 64 → x % s = 0 → bud x s < 64 ∧ (x / s % 2 = 1 → s ≤ x)) ?_ ?_ ?_ ?_ ?_ ?_ ?_
    all_goals
      intro hk x hx hm
      refine ⟨?_, fun c => by omega⟩
      unfold bud
      split <;> omega
  exact key k hk (by omega) hk6 i hi h
theorem joins_no {p : P} {i : Nat} (h : free2 p i = false) (n : Nat) : joins p i n = p := by
  cases n with
  | zero => rfl
  | succ n => show (if free2 p i = true then _ else p) = p; rw [h, if_neg (by decide)]
theorem joins_yes {p : P} {i : Nat} (h : free2 p i = true) (n : Nat) : joins p i (n + 1) = joins (join p (min i (bud i (sz (p.ord i)))) (max i (bud i (sz (p.ord i))))) (min i (bud i (sz (p.ord i)))) n := by
  show (if free2 p i = true then _ else p) = _
  rw [if_pos h]
structure Giv (q : P) (i n : Nat) (G : P) : Prop where
  inv : Inv q
  lt : i < 64
  pos : 0 < q.ord i
  tk : q.tk i = false
  fu : 7 ≤ q.ord i + n
  eq : joins q i n = G
theorem Giv.start {p : P} (h : Inv p) {i : Nat} (hi : i < 64) (ht : p.tk i = true) : Giv { p with tk := upb p.tk i false } i 7 (giveB p i) := by
  refine ⟨⟨h.le, h.al, h.own, h.cov, fun x hx hx0 => ?_⟩, hi, h.tk i hi ht, ?_, by omega, rfl⟩
  · have : (if x = i then false else p.tk x) = true := hx0
    by_cases c : x = i
    · rw [if_pos c] at this; cases this
    · rw [if_neg c] at this; exact h.tk x hx this
  · show (if i = i then false else p.tk i) = false; rw [if_pos rfl]
theorem Giv.next {q G : P} {i n : Nat} (h : Giv q i (n + 1) G) (f : free2 q i = true) : Giv (join q (min i (bud i (sz (q.ord i)))) (max i (bud i (sz (q.ord i))))) (min i (bud i (sz (q.ord i)))) n G := by
  have f' := f
  unfold free2 at f
  simp only [Bool.and_eq_true, decide_eq_true_eq, Bool.not_eq_true'] at f
  have a := h.inv.join h.lt h.pos f.1 h.tk f.2.1 f.2.2
  exact ⟨a.1, a.2.1, by rw [a.2.2.1]; omega, a.2.2.2, by rw [a.2.2.1]; have := h.fu; omega, by rw [← h.eq, joins_yes f']⟩
end Bd
end Go.Proofs.YtghogbngmcolmaaGreat
namespace Go.Proofs.YtghogbngmcolmaaGreat
open Bd (P)
namespace Bd
def leftK (p : P) : Nat → Nat
  | 0 => 0
  | k + 1 => leftK p k + if 0 < p.ord k ∧ p.tk k = false then sz (p.ord k) else 0
def left (p : P) : Nat := leftK p 64
end Bd
end Go.Proofs.YtghogbngmcolmaaGreat
namespace Go.Proofs.YtghogbngmcolmaaGreat
open Go.RowKit
open Bd (P)
namespace Bd
def st (p : P) (i : Nat) : Nat := if p.ord i = 0 then 0 else if p.tk i = true then 2 else 1
def od (p : P) (i : Nat) : Nat := p.ord i - 1
theorem st_free {p : P} {i : Nat} (h : 0 < p.ord i) (t : p.tk i = false) : st p i = 1 := by unfold st; rw [if_neg (by omega), if_neg (by rw [t]; decide)]
theorem st_taken {p : P} {i : Nat} (h : 0 < p.ord i) (t : p.tk i = true) : st p i = 2 := by unfold st; rw [if_neg (by omega), if_pos t]
theorem st_one {p : P} {i : Nat} : st p i = 1 ↔ 0 < p.ord i ∧ p.tk i = false := by
  constructor
  · intro h
    unfold st at h
    by_cases c : p.ord i = 0
    · rw [if_pos c] at h; omega
    · rw [if_neg c] at h
      cases t : p.tk i
      · exact ⟨by omega, rfl⟩
      · rw [if_pos t] at h; omega
  · rintro ⟨h1, h2⟩; exact st_free h1 h2
theorem st_two {p : P} (hI : Inv p) {i : Nat} (hi : i < 64) : st p i = 2 ↔ p.tk i = true := by
  constructor
  · intro h
    unfold st at h
    by_cases c : p.ord i = 0
    · rw [if_pos c] at h; omega
    · rw [if_neg c] at h
      cases t : p.tk i
      · rw [if_neg (by rw [t]; decide)] at h; omega
      · rfl
  · intro h; exact st_taken (hI.tk i hi h) h
end Bd
structure CA (w : World) (b : Nat) (s d : Nat → Nat) : Prop where
  blk : ∃ C, w.heap[b]? = some (.cells C 228 (0, 0)) ∧ C.size = 128
  c0 : ∀ i, i < 64 → w.cell? ⟨b, i * 2, none⟩ = some (.int .i64 (s i : Int))
  c1 : ∀ i, i < 64 → w.cell? ⟨b, i * 2 + 1, none⟩ = some (.int .i64 (d i : Int))
def CAt (w : World) (b : Nat) (p : P) : Prop := CA w b (Bd.st p) (Bd.od p)
section
variable {w w' : World} {b : Nat} {s d s' d' : Nat → Nat}
theorem CA.drewN (h : CA w b s d) (n : Nat) : CA (w.drewN n) b s d := ⟨h.blk, h.c0, h.c1⟩
theorem CA.drew (h : CA w b s d) : CA w.drew b s d := ⟨h.blk, h.c0, h.c1⟩
theorem CA.frozen (h : CA w b s d) (o : Nat) : w.frozen? ⟨b, o, none⟩ = false := by obtain ⟨C, h1, _⟩ := h.blk; exact frozen_blk h1 o
theorem CA.lt (h : CA w b s d) : b < w.heap.size := by obtain ⟨C, h1, _⟩ := h.blk; exact (Array.getElem?_eq_some_iff.1 h1).1
theorem CA.same (h : CA w b s d) (e : w'.heap[b]? = w.heap[b]?) : CA w' b s d := ⟨by rw [e]; exact h.blk, fun o ho => (World.cell?_of_block e).trans (h.c0 o ho), fun o ho => (World.cell?_of_block e).trans (h.c1 o ho)⟩
theorem CA.congr (h : CA w b s d) (e : ∀ i, i < 64 → s' i = s i ∧ d' i = d i) : CA w b s' d' := ⟨h.blk, fun i hi => by rw [(e i hi).1]; exact h.c0 i hi, fun i hi => by rw [(e i hi).2]; exact h.c1 i hi⟩
theorem CA.setS (h : CA w b s d) (i v : Nat) (hi : i < 64) : CA (w.setCell ⟨b, i * 2, none⟩ (.int .i64 (v : Int))) b (Bd.up s i v) d := by
  obtain ⟨C, h1, h2⟩ := h.blk
  refine ⟨⟨_, blk_set h1 _ _, by simpa using h2⟩, fun j hj => ?_, fun j hj => ?_⟩
  · unfold Bd.up
    by_cases e : j = i
    · subst e; rw [cell_set_same h1 _ _ (by omega), if_pos rfl]
    · rw [cell_set_ne h1 _ _ _ (by omega), if_neg e]; exact h.c0 j hj
  · rw [cell_set_ne h1 _ _ _ (by omega)]; exact h.c1 j hj
theorem CA.setD (h : CA w b s d) (i v : Nat) (hi : i < 64) : CA (w.setCell ⟨b, i * 2 + 1, none⟩ (.int .i64 (v : Int))) b s (Bd.up d i v) := by
  obtain ⟨C, h1, h2⟩ := h.blk
  refine ⟨⟨_, blk_set h1 _ _, by simpa using h2⟩, fun j hj => ?_, fun j hj => ?_⟩
  · rw [cell_set_ne h1 _ _ _ (by omega)]; exact h.c0 j hj
  · unfold Bd.up
    by_cases e : j = i
    · subst e; rw [cell_set_same h1 _ _ (by omega), if_pos rfl]
    · rw [cell_set_ne h1 _ _ _ (by omega), if_neg e]; exact h.c1 j hj
end
section
variable {w w' : World} {b : Nat} {p p' : P}
theorem CAt.drewN (h : CAt w b p) (n : Nat) : CAt (w.drewN n) b p := CA.drewN h n
theorem CAt.drew (h : CAt w b p) : CAt w.drew b p := CA.drew h
theorem CAt.frozen (h : CAt w b p) (o : Nat) : w.frozen? ⟨b, o, none⟩ = false := CA.frozen h o
theorem CAt.lt (h : CAt w b p) : b < w.heap.size := CA.lt h
theorem CAt.same (h : CAt w b p) (e : w'.heap[b]? = w.heap[b]?) : CAt w' b p := CA.same h e
theorem CAt.cSt (h : CAt w b p) (i : Nat) (hi : i < 64) : w.cell? ⟨b, i * 2, none⟩ = some (.int .i64 (Bd.st p i : Int)) := h.c0 i hi
theorem CAt.cOd (h : CAt w b p) (i : Nat) (hi : i < 64) : w.cell? ⟨b, i * 2 + 1, none⟩ = some (.int .i64 (Bd.od p i : Int)) := h.c1 i hi
end
def czA : Array Value := ((List.range 128).map fun _ => Value.int .i64 0).toArray
theorem cz_eq : Tryz.zeroCells228 = czA := by kernel_rfl
theorem cz_at (i : Nat) (h : i < 128) : czA[i]? = some (Value.int .i64 0) := by simp [czA, h]
theorem c_zero {w : World} {b : Nat} (h : w.heap[b]? = some (.cells czA 228 (0, 0))) : CA w b (fun _ => 0) (fun _ => 0) := by
  refine ⟨⟨_, h, by simp [czA]⟩, fun o ho => ?_, fun o ho => ?_⟩
  · rw [cell_blk h, cz_at _ (by omega)]; rfl
  · rw [cell_blk h, cz_at _ (by omega)]; rfl
theorem bud_xor : ∀ (i : Fin 64) (k : Fin 7), IntKind.i64.wrap ((BitVec.ofInt 64 ((i.1 : Nat) : Int) ^^^ BitVec.ofInt 64 (((2 ^ k.1 : Nat)) : Int)).toNat : Int) = ((Bd.bud i.1 (2 ^ k.1) : Nat) : Int) := by decide +kernel
theorem c_b0 {w : World} {b : Nat} (h : CA w b (Bd.up (fun _ => 0) 0 1) (Bd.up (fun _ => 0) 0 6)) : CAt w b Bd.b0 := by
  refine CA.congr h (fun i _ => ?_)
  unfold Bd.st Bd.od Bd.up Bd.b0
  by_cases c : i = 0 <;> simp [c]
set_option maxRecDepth 100000 in
set_option maxHeartbeats 1000000 in
theorem cnew_any (w : World) : Calls Tryz.prog 99 #[] w fun e w' => e = .returned (.pointer (some ⟨w.heap.size, 0, none⟩)) ∧ CAt w' w.heap.size Bd.b0 ∧ Below w.heap.size w w' ∧ w.heap.size < w'.heap.size := by
  have Z : (w.alloc (.cells Tryz.zeroCells228 228)).heap[w.heap.size]? = some (.cells czA 228 (0, 0)) := by
    rw [cz_eq]; exact heap_alloc_new w _
  have Z2 : (w.alloc (.cells ((Tryz.zeroCells228.setIfInBounds 0 (Value.int IntKind.i64 1)).setIfInBounds 1 (Value.int IntKind.i64 6)) 228)).heap[w.heap.size]? = some (.cells ((czA.setIfInBounds 0 (Value.int IntKind.i64 1)).setIfInBounds 1 (Value.int IntKind.i64 6)) 228 (0, 0)) := by
    rw [cz_eq]; exact heap_alloc_new w _
  have FIN : Hid (CAt (w.alloc (.cells ((Tryz.zeroCells228.setIfInBounds 0 (Value.int IntKind.i64 1)).setIfInBounds 1 (Value.int IntKind.i64 6)) 228)) w.heap.size Bd.b0) := Hid.intro (by
    have h := ((c_zero Z).setS 0 1 (by omega)).setD 0 6 (by omega)
    refine (c_b0 h).same ?_
    rw [Z2]; exact (blk_set (blk_set Z 0 _) 1 _).symm)
  clear Z Z2
  go_enter Tryz.func99, Tryz.ntmps99
  go_wp2_with fail
  go_ret
  exact ⟨rfl, FIN.out, (Below.refl _ _).alloc (Nat.le_refl _) _, by simp⟩
theorem sz_shl (k : Nat) (hk : k ≤ 6) : wrap64 ((2 : Int) ^ k) = ((Bd.sz (k + 1) : Nat) : Int) := by
  have : ∀ k : Fin 7, wrap64 ((2 : Int) ^ k.1) = ((Bd.sz (k.1 + 1) : Nat) : Int) := by decide +kernel
  exact this ⟨k, by omega⟩
theorem bud_bits (i k : Nat) (hi : i < 64) (hk : k ≤ 6) : bits BinOp.xor IntKind.i64 (i : Int) ((Bd.sz (k + 1) : Nat) : Int) = ((Bd.bud i (Bd.sz (k + 1)) : Nat) : Int) := by
  have := bud_xor ⟨i, hi⟩ ⟨k, by omega⟩
  unfold Bd.sz
  rw [Nat.add_sub_cancel]
  exact this
theorem csize_any (k : Nat) (hk : k ≤ 6) (w : World) : Calls Tryz.prog 172 #[.int .i64 k] w fun e w' => e = .returned (.int .i64 (Bd.sz (k + 1) : Int)) ∧ w' = w := by
  have E := Hid.intro (sz_shl k hk)
  go_enter Tryz.func172, Tryz.ntmps172
  go_wp2
  go_ret
  rw [E.out]; exact ⟨rfl, rfl⟩
theorem chalf_any (i k : Nat) (hi : i < 64) (hk : k ≤ 6) (w : World) : Calls Tryz.prog 171 #[.int .i64 i, .int .i64 k] w fun e w' => e = .returned (.int .i64 (Bd.bud i (Bd.sz (k + 1)) : Int)) ∧ w' = w := by
  have E := Hid.intro (bud_bits i k hi hk)
  go_enter Tryz.func171, Tryz.ntmps171
  go_wp2_with fail
  refine (csize_any k hk _).mono ?_
  rintro e w1 ⟨rfl, hw⟩
  subst w1
  go_wp2
  go_ret
  rw [E.out]; exact ⟨rfl, rfl⟩
def Bd.ordN (p : P) (z : Int) : Nat := if Bd.giveE p z = 0 then Bd.od p z.toNat else 0
set_option maxRecDepth 100000 in
set_option maxHeartbeats 400000 in
theorem corder_any (b : Nat) (z : Int) (p : P) (w : World) (h : CAt w b p) (hI : Bd.Inv p) : Calls Tryz.prog 168 #[.pointer (some ⟨b, 0, none⟩), .int .i64 z] w fun e w' => e = .returned (.tuple #[.int .i64 (Bd.ordN p z : Int), errV (Bd.giveE p z)]) ∧ w' = w := by
  by_cases k : z < 0 ∨ 63 < z
  · have e : Hid (Bd.giveE p z = 1 ∧ Bd.ordN p z = 0) := Hid.intro (by
      have : Bd.giveE p z = 1 := if_pos k
      exact ⟨this, by unfold Bd.ordN; rw [this]; rfl⟩)
    by_cases h0 : z < 0
    · clear k
      go_enter Tryz.func168, Tryz.ntmps168
      go_wp2
      go_ret2
      rw [e.out.1, e.out.2]; exact ⟨rfl, rfl⟩
    · have h1 : decide (z < 0) = false := by simp; omega
      have h2 : 64 ≤ z := by omega
      clear k h0
      go_enter Tryz.func168, Tryz.ntmps168
      go_wp2
      go_ret2
      rw [e.out.1, e.out.2]; exact ⟨rfl, rfl⟩
  · obtain ⟨n, rfl⟩ := Int.eq_ofNat_of_zero_le (show 0 ≤ z by omega)
    have hn : n < 64 := by omega
    have h1 : (n : Int) < 64 := by omega
    have h2 : decide (64 ≤ (n : Int)) = false := by simp; omega
    have c0 := h.cSt n hn
    have c1 := h.cOd n hn
    cases hh : p.tk n
    · have e : Hid (Bd.giveE p n = 2 ∧ Bd.ordN p n = 0) := Hid.intro (by
        have : Bd.giveE p n = 2 := by unfold Bd.giveE; rw [if_neg k, Int.toNat_natCast, hh]; rfl
        exact ⟨this, by unfold Bd.ordN; rw [this]; rfl⟩)
      have s2 : ((Bd.st p n : Int) == 2) = false := by
        have : Bd.st p n ≠ 2 := fun c => by rw [(Bd.st_two hI hn).1 c] at hh; cases hh
        simp; omega
      generalize Bd.st p n = s at *
      clear k hh h
      go_enter Tryz.func168, Tryz.ntmps168
      go_wp2
      go_ret2
      rw [e.out.1, e.out.2]; exact ⟨rfl, rfl⟩
    · have e : Hid (Bd.giveE p n = 0 ∧ Bd.ordN p n = Bd.od p n) := Hid.intro (by
        have : Bd.giveE p n = 0 := by unfold Bd.giveE; rw [if_neg k, Int.toNat_natCast, hh]; rfl
        exact ⟨this, by unfold Bd.ordN; rw [this, if_pos rfl, Int.toNat_natCast]⟩)
      rw [(Bd.st_two hI hn).2 hh] at c0
      have c0' : w.cell? ⟨b, n * 2, none⟩ = some (.int .i64 2) := c0
      clear k hh h c0
      go_enter Tryz.func168, Tryz.ntmps168
      go_wp2
      go_ret2
      rw [e.out.1, e.out.2]; exact ⟨rfl, rfl⟩
end Go.Proofs.YtghogbngmcolmaaGreat
namespace Go.Proofs.YtghogbngmcolmaaGreat
open Go.RowKit
open Bd (P)
theorem free2_iff {q : P} {i : Nat} (h0 : 0 < q.ord i) : Bd.free2 q i = (decide (Bd.od q i < 6) && (decide (Bd.st q (Bd.bud i (Bd.sz (Bd.od q i + 1))) = 1) && decide (Bd.od q (Bd.bud i (Bd.sz (Bd.od q i + 1))) = Bd.od q i))) := by
  have e : Bd.od q i + 1 = q.ord i := by unfold Bd.od; omega
  rw [e]
  unfold Bd.free2
  obtain ⟨f, hf⟩ : ∃ f, Bd.bud i (Bd.sz (q.ord i)) = f := ⟨_, rfl⟩
  rw [hf]
  apply Bool.eq_iff_iff.2
  simp only [Bool.and_eq_true, decide_eq_true_eq, Bool.not_eq_true', Bd.st_one]
  have e2 : Bd.od q f = q.ord f - 1 := rfl
  constructor
  · rintro ⟨a, b, c⟩; exact ⟨by omega, ⟨by omega, c⟩, by omega⟩
  · rintro ⟨a, ⟨b, c⟩, d⟩; exact ⟨by omega, by omega, c⟩
set_option maxRecDepth 100000 in
set_option maxHeartbeats 1000000 in
theorem cjoins_any (b i : Nat) (q : P) (w : World) (h : CAt w b q) (hI : Bd.Inv q) (hi : i < 64) (h0 : 0 < q.ord i) :
    Calls Tryz.prog 169 #[.pointer (some ⟨b, 0, none⟩), .int .i64 i] w fun e w' => e = .returned (.bool (Bd.free2 q i)) ∧ ∃ n, w' = w.drewN n := by
  have c1 := h.cOd i hi
  have iI : (i : Int) < 64 := by omega
  have FI := Hid.intro (free2_iff h0)
  have al := (hI.al i hi h0).1
  have e : Bd.od q i + 1 = q.ord i := by unfold Bd.od; omega
  rw [← e] at al
  obtain ⟨k, hk⟩ : ∃ k, Bd.od q i = k := ⟨_, rfl⟩
  rw [hk] at c1 FI al e
  have k6 : k ≤ 6 := by have := hI.le i hi; omega
  by_cases hlt : k < 6
  · have hltI : (k : Int) < 6 := by omega
    have BL := (Bd.bud_lt (i := i) (k := k + 1) (by omega) (by omega) hi al).1
    have HH := Hid.intro (chalf_any i k hi k6)
    obtain ⟨f, hf⟩ : ∃ f, Bd.bud i (Bd.sz (k + 1)) = f := ⟨_, rfl⟩
    rw [hf] at HH FI BL
    rw [decide_eq_true hlt, Bool.true_and] at FI
    have fI : (f : Int) < 64 := by omega
    have d0 := h.cSt f BL
    have d1 := h.cOd f BL
    obtain ⟨s, hs⟩ : ∃ s, Bd.st q f = s := ⟨_, rfl⟩
    obtain ⟨o, ho⟩ : ∃ o, Bd.od q f = o := ⟨_, rfl⟩
    rw [hs] at d0 FI
    rw [ho] at d1 FI
    clear hs ho hf al e h hI hk h0
    by_cases e1 : s = 1
    · by_cases e2 : o = k
      · have FR : Hid (Bd.free2 q i = true) := Hid.intro (by rw [FI.out, decide_eq_true e1, decide_eq_true e2]; rfl)
        subst e1 e2
        clear FI
        go_enter Tryz.func169, Tryz.ntmps169
        go_wp2_with fail
        go_quiet ((go_at_call 171; refine Calls.quiet_of_same (HH.out _)))
        go_wp2_with fail
        go_ret
        rw [FR.out]; exact ⟨rfl, _, rfl⟩
      · have FR : Hid (Bd.free2 q i = false) := Hid.intro (by rw [FI.out, decide_eq_false e2]; simp)
        have e2' : ((o : Int) == (k : Int)) = false := by simp; omega
        subst e1
        clear FI e2
        go_enter Tryz.func169, Tryz.ntmps169
        go_wp2_with fail
        go_quiet ((go_at_call 171; refine Calls.quiet_of_same (HH.out _)))
        go_wp2_with fail
        go_ret
        rw [FR.out]; exact ⟨rfl, _, rfl⟩
    · have FR : Hid (Bd.free2 q i = false) := Hid.intro (by rw [FI.out, decide_eq_false e1]; rfl)
      have e1' : ((s : Int) == 1) = false := by simp; omega
      clear FI e1
      go_enter Tryz.func169, Tryz.ntmps169
      go_wp2_with fail
      go_quiet ((go_at_call 171; refine Calls.quiet_of_same (HH.out _)))
      go_wp2_with fail
      go_ret
      rw [FR.out]; exact ⟨rfl, _, rfl⟩
  · have hltI : decide ((k : Int) < 6) = false := by simp; omega
    have FR : Hid (Bd.free2 q i = false) := Hid.intro (by rw [FI.out, decide_eq_false hlt]; rfl)
    clear FI hlt al e h hI hk h0
    go_enter Tryz.func169, Tryz.ntmps169
    go_wp2_with fail
    go_quiet (fail)
    go_wp2_with fail
    go_ret
    rw [FR.out]; exact ⟨rfl, _, rfl⟩
theorem join_ca {q : P} {lo hh : Nat} (hl0 : 0 < q.ord lo) (hlt : q.tk lo = false) (hne : lo ≠ hh) {w : World} {b : Nat} (h : CA w b (Bd.up (Bd.st q) hh 0) (Bd.up (Bd.up (Bd.od q) lo (Bd.od q lo + 1)) hh 0)) : CAt w b (Bd.join q lo hh) := by
  have eo : ∀ x, (Bd.join q lo hh).ord x = if x = lo then q.ord lo + 1 else if x = hh then 0 else q.ord x := fun x => rfl
  have et : ∀ x, (Bd.join q lo hh).tk x = q.tk x := fun x => rfl
  refine CA.congr h (fun i _ => ?_)
  unfold Bd.st Bd.od Bd.up
  rw [eo, et]
  by_cases c1 : i = lo
  · subst c1
    rw [if_pos rfl, if_neg hne, if_neg hne, if_pos rfl, if_neg (by omega)]
    refine ⟨?_, by show q.ord i + 1 - 1 = q.ord i - 1 + 1; omega⟩
    show _ = if q.ord i = 0 then 0 else if q.tk i = true then 2 else 1
    rw [hlt, if_neg (show ¬ q.ord i = 0 by omega)]
  · rw [if_neg c1]
    by_cases c2 : i = hh
    · subst c2
      rw [if_pos rfl, if_pos rfl, if_pos rfl, if_pos rfl]
      exact ⟨rfl, rfl⟩
    · rw [if_neg c2, if_neg c2, if_neg c2, if_neg c1]
      exact ⟨rfl, rfl⟩
set_option maxRecDepth 100000 in
set_option maxHeartbeats 1000000 in
theorem cjoin_any (b i : Nat) (q : P) (w : World) (h : CAt w b q) (hI : Bd.Inv q) (hi : i < 64) (h0 : 0 < q.ord i) (ht : q.tk i = false) (hf2 : Bd.free2 q i = true) :
    Calls Tryz.prog 170 #[.pointer (some ⟨b, 0, none⟩), .int .i64 i] w fun e w' => e = .returned (.int .i64 ((min i (Bd.bud i (Bd.sz (q.ord i))) : Nat) : Int)) ∧ CAt w' b (Bd.join q (min i (Bd.bud i (Bd.sz (q.ord i)))) (max i (Bd.bud i (Bd.sz (q.ord i))))) ∧ Frm b w w' := by
  have c1 := h.cOd i hi
  have iI : (i : Int) < 64 := by omega
  have al := (hI.al i hi h0).1
  have e : Bd.od q i + 1 = q.ord i := by unfold Bd.od; omega
  unfold Bd.free2 at hf2
  simp only [Bool.and_eq_true, decide_eq_true_eq, Bool.not_eq_true'] at hf2
  obtain ⟨f1, f2, f3⟩ := hf2
  obtain ⟨k, hk⟩ : ∃ k, Bd.od q i = k := ⟨_, rfl⟩
  rw [hk] at c1 e
  have HH := Hid.intro (chalf_any i k hi (by omega))
  have BL := (Bd.bud_lt (i := i) (k := k + 1) (by omega) (by omega) hi (by rw [e]; exact al)).1
  have BB := (Bd.bud_bud (i := i) (k := k + 1) (by omega) (by omega) (by rw [e]; exact al)).2.2
  rw [← e] at f2 f3 ⊢
  obtain ⟨f, hf⟩ : ∃ f, Bd.bud i (Bd.sz (k + 1)) = f := ⟨_, rfl⟩
  rw [hf] at HH BL BB f2 f3 ⊢
  have fI : (f : Int) < 64 := by omega
  have HF := Hid.intro h
  have cf := h.frozen
  have hw1 : IntKind.i64.wrap ((k : Int) + 1) = (k : Int) + 1 := IntWalk.i64_in _ ⟨by omega, by omega⟩
  have of : Bd.od q f = k := by unfold Bd.od; omega
  have d0 := h.cSt i hi
  have d1 := h.cSt f BL
  have d2 := h.cOd f BL
  have Of := of
  have Oi := hk
  generalize Bd.st q i = s0 at d0
  generalize Bd.st q f = s1 at d1
  rw [of] at d2
  by_cases c : f < i
  · have mm : min i f = f ∧ max i f = i := ⟨by omega, by omega⟩
    rw [mm.1, mm.2]
    have FIN : Hid (∀ W, CA W b (Bd.up (Bd.st q) i 0) (Bd.up (Bd.up (Bd.od q) f (k + 1)) i 0) → CAt W b (Bd.join q f i)) := Hid.intro (fun W hW => join_ca (by omega) (by assumption) (by omega) (by rw [Of]; exact hW))
    have cI : (f : Int) < (i : Int) := by omega
    have cI' : ¬ (i : Int) < (f : Int) := by omega
    clear al e f1 f2 f3 hk hf mm h hI h0 ht of Of Oi
    go_enter Tryz.func170, Tryz.ntmps170
    go_wp2_with fail
    refine (HH.out _).mono ?_
    rintro e w2 ⟨rfl, hw2⟩
    subst w2
    go_wp2_with fail
    go_ret
    exact ⟨rfl, FIN.out _ (((CA.setD HF.out f (k + 1) (by omega)).setS i 0 (by omega)).setD i 0 (by omega)), (((Frm.refl b w).setCell _ _).setCell _ _).setCell _ _⟩
  · have mm : min i f = i ∧ max i f = f := ⟨by omega, by omega⟩
    rw [mm.1, mm.2]
    have FIN : Hid (∀ W, CA W b (Bd.up (Bd.st q) f 0) (Bd.up (Bd.up (Bd.od q) i (k + 1)) f 0) → CAt W b (Bd.join q i f)) := Hid.intro (fun W hW => join_ca (by omega) (by assumption) (by omega) (by rw [Oi]; exact hW))
    have cI : (i : Int) < (f : Int) := by omega
    have cI' : ¬ (f : Int) < (i : Int) := by omega
    clear al e f1 f2 f3 hk hf mm h hI h0 ht of Of Oi
    go_enter Tryz.func170, Tryz.ntmps170
    go_wp2_with fail
    refine (HH.out _).mono ?_
    rintro e w2 ⟨rfl, hw2⟩
    subst w2
    go_wp2_with fail
    go_ret
    exact ⟨rfl, FIN.out _ (((CA.setD HF.out i (k + 1) (by omega)).setS f 0 (by omega)).setD f 0 (by omega)), (((Frm.refl b w).setCell _ _).setCell _ _).setCell _ _⟩
end Go.Proofs.YtghogbngmcolmaaGreat

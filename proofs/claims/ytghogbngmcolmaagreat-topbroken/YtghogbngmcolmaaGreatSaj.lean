import Derived.Test.YtghogbngmcolmaaGreatSah
import Derived.Test.YtghogbngmcolmaaGreatSaa
import Derived.Test.YtghogbngmcolmaaGreatSai
namespace Go.Proofs.YtghogbngmcolmaaGreat
open Bd (P)
namespace Bd
theorem joins_keep {j : Nat} : ∀ (n : Nat) {b : P} {i : Nat}, i < 64 → 0 < b.ord i → b.tk i = false → Inv b → b.tk j = true → (joins b i n).ord j = b.ord j := by
  intro n
  induction n with
  | zero => intro b i _ _ _ _ _; rfl
  | succ n ih =>
    intro b i hi h0 h2 h1 ht
    show (if free2 b i = true then _ else b).ord j = b.ord j
    by_cases c : free2 b i = true
    · rw [if_pos c]
      unfold free2 at c
      simp only [Bool.and_eq_true, decide_eq_true_eq, Bool.not_eq_true'] at c
      have a := h1.join hi h0 c.1 h2 c.2.1 c.2.2
      rw [ih (b := join b (min i (bud i (sz (b.ord i)))) (max i (bud i (sz (b.ord i))))) a.2.1 (by rw [a.2.2.1]; omega) a.2.2.2 a.1 ht]
      have nf : j ≠ bud i (sz (b.ord i)) := fun e => by rw [e, c.2.2] at ht; cases ht
      have ni : j ≠ i := fun e => by rw [e, h2] at ht; cases ht
      show (if j = min i (bud i (sz (b.ord i))) then _ else if j = max i (bud i (sz (b.ord i))) then 0 else b.ord j) = b.ord j
      rw [if_neg (by omega), if_neg (by omega)]
    · rw [if_neg c]
theorem giveB_keep {b : P} (h : Inv b) {i j : Nat} (hi : i < 64) (hti : b.tk i = true) (hji : j ≠ i) (ht : b.tk j = true) : (giveB b i).ord j = b.ord j := by
  have g := h.tk i hi hti
  have := joins_keep (j := j) 7 (b := { b with tk := upb b.tk i false }) (i := i) hi g (by show (if i = i then false else b.tk i) = false; rw [if_pos rfl]) ⟨h.le, h.al, h.own, h.cov, fun x hx hx0 => by
    have : (if x = i then false else b.tk x) = true := hx0
    by_cases c : x = i
    · rw [if_pos c] at this; cases this
    · rw [if_neg c] at this; exact h.tk x hx this⟩ (by show (if j = i then false else b.tk j) = true; rw [if_neg hji]; exact ht)
  exact this
def TkF (p : P) (f : Nat → Int) : Prop := ∀ i, i < 64 → f i = if p.tk i = true then (p.ord i : Int) else 0
theorem TkF.zero : TkF b0 (fun _ => 0) := fun i _ => by show (0 : Int) = if false = true then _ else 0; rw [if_neg (by decide)]
end Bd
end Go.Proofs.YtghogbngmcolmaaGreat
namespace Go.Proofs.YtghogbngmcolmaaGreat
open Bd (P)
open Mv (Me Bk)
namespace Mv
def one (a b : Nat) : Nat := if a = b + 1 then 1 else 0
theorem cntK_set (fr : Nat → Nat) (f i v : Nat) : ∀ n, cntK (upn fr i v) f n + (if i < n then one (fr i) f else 0) = cntK fr f n + (if i < n then one v f else 0) := by
  intro n
  induction n with
  | zero => rfl
  | succ n ih =>
    show cntK (upn fr i v) f n + one (upn fr i v n) f + (if i < n + 1 then one (fr i) f else 0) = cntK fr f n + one (fr n) f + (if i < n + 1 then one v f else 0)
    by_cases c : n = i
    · subst c
      rw [if_neg (Nat.lt_irrefl n), if_neg (Nat.lt_irrefl n)] at ih
      rw [if_pos (Nat.lt_succ_self n), if_pos (Nat.lt_succ_self n), show upn fr n v n = v from if_pos rfl]
      omega
    · rw [show upn fr i v n = fr n from if_neg c]
      by_cases d : i < n
      · have d2 : i < n + 1 := by omega
        rw [if_pos d, if_pos d] at ih
        rw [if_pos d2, if_pos d2]
        omega
      · have d2 : ¬ i < n + 1 := by omega
        rw [if_neg d, if_neg d] at ih
        rw [if_neg d2, if_neg d2]
        omega
def tot (me : Nat → Me) (f : Nat) : Nat → Nat
  | 0 => 0
  | i + 1 => tot me f i + cntK (me i).fr f 16
def setP (me : Nat → Me) (i : Nat) (m : Me) : Nat → Me := fun j => if j = i then m else me j
theorem setP_same (me : Nat → Me) (i : Nat) (m : Me) : setP me i m i = m := if_pos rfl
theorem setP_ne (me : Nat → Me) (i : Nat) (m : Me) (j : Nat) (h : j ≠ i) : setP me i m j = me j := if_neg h
theorem tot_set (me : Nat → Me) (f i : Nat) (m : Me) : ∀ n, tot (setP me i m) f n + (if i < n then cntK (me i).fr f 16 else 0) = tot me f n + (if i < n then cntK m.fr f 16 else 0) := by
  intro n
  induction n with
  | zero => rfl
  | succ n ih =>
    show tot (setP me i m) f n + cntK (setP me i m n).fr f 16 + _ = tot me f n + cntK (me n).fr f 16 + _
    by_cases c : n = i
    · subst c
      rw [if_neg (by omega), if_neg (by omega)] at ih
      rw [setP_same, if_pos (by omega), if_pos (by omega)]
      omega
    · rw [setP_ne _ _ _ _ c]
      by_cases d : i < n
      · rw [if_pos d, if_pos d] at ih
        rw [if_pos (by omega), if_pos (by omega)]
        omega
      · rw [if_neg d, if_neg d] at ih
        rw [if_neg (by omega), if_neg (by omega)]
        omega
theorem tot_le (me : Nat → Me) (f n : Nat) : tot me f n ≤ 16 * n := by
  induction n with
  | zero => exact Nat.le_refl 0
  | succ n ih => show tot me f n + cntK _ f 16 ≤ _; have := cntK_le (me n).fr f 16; omega
theorem tot_ge (me : Nat → Me) (f : Nat) {i n : Nat} (h : i < n) : cntK (me i).fr f 16 ≤ tot me f n := by
  induction n with
  | zero => omega
  | succ n ih =>
    show _ ≤ tot me f n + cntK (me n).fr f 16
    by_cases c : i = n
    · subst c; omega
    · have := ih (by omega); omega
theorem tot_congr {me me' : Nat → Me} (f : Nat) : ∀ n, (∀ i, i < n → ∀ x, x < 16 → (me' i).fr x = (me i).fr x) → tot me' f n = tot me f n := by
  intro n
  induction n with
  | zero => intro _; rfl
  | succ n ih =>
    intro h
    show tot me' f n + cntK _ f 16 = tot me f n + cntK _ f 16
    rw [ih (fun i hi => h i (by omega)), cntK_congr (h n (by omega))]
structure Wld (k : Bk) (N : Nat) (me : Nat → Me) : Prop where
  inv : Bd.Inv k.pool
  nb : Bd.NB k.pool 64
  n8 : N ≤ 20
  le : ∀ i, i < N → ∀ n, n < 16 → (me i).fr n ≤ 64
  ref : ∀ f, f < 64 → k.refs f = tot me f N
  tk : ∀ f, f < 64 → (k.pool.tk f = true ↔ 1 ≤ k.refs f)
  one : ∀ f, f < 64 → k.pool.tk f = true → k.pool.ord f = 1
section
variable {k k' : Bk} {N : Nat} {me me' : Nat → Me}
theorem Wld.refl (h : Wld k N me) (f : Nat) (hf : f < 64) : k.refs f ≤ 320 := by rw [h.ref f hf]; have := tot_le me f N; have := h.n8; omega
theorem Wld.cnt (h : Wld k N me) {i : Nat} (hi : i < N) : Cnt (me i) k := ⟨h.inv, h.nb, h.le i hi, fun f hf => ⟨by rw [h.ref f hf]; exact tot_ge me f hi, by have := h.refl f hf; omega⟩⟩
theorem Wld.held (h : Wld k N me) {i n : Nat} (hi : i < N) (hn : n < 16) (c : (me i).fr n ≠ 0) : 1 ≤ k.refs ((me i).fr n - 1) := by
  have l := h.le i hi n hn
  have a := (h.cnt hi).cnt ((me i).fr n - 1) (by omega)
  have b := cntK_pos (fr := (me i).fr) (f := (me i).fr n - 1) (n := 16) hn (by omega)
  omega
theorem Wld.congr (h : Wld k N me) (e : ∀ i, i < N → ∀ x, x < 16 → (me' i).fr x = (me i).fr x) : Wld k N me' := ⟨h.inv, h.nb, h.n8, fun i hi n hn => by rw [e i hi n hn]; exact h.le i hi n hn, fun f hf => by rw [h.ref f hf, tot_congr f N e], h.tk, h.one⟩
theorem Wld.turn (h : Wld k N me) {i n v : Nat} (hi : i < N) (hn : n < 16) (hv : v ≤ 64) (inv : Bd.Inv k'.pool) (nb : Bd.NB k'.pool 64)
    (hr : ∀ f, f < 64 → k'.refs f + Mv.one ((me i).fr n) f = k.refs f + Mv.one v f) (ht : ∀ f, f < 64 → (k'.pool.tk f = true ↔ 1 ≤ k'.refs f)) (ho : ∀ f, f < 64 → k'.pool.tk f = true → k'.pool.ord f = 1) :
    Wld k' N (setP me i { (me i) with fr := upn (me i).fr n v }) := by
  refine ⟨inv, nb, h.n8, fun j hj x hx => ?_, fun f hf => ?_, ht, ho⟩
  · by_cases c : j = i
    · subst c
      rw [setP_same]
      show (if x = n then v else (me j).fr x) ≤ 64
      split
      · exact hv
      · exact h.le j hj x hx
    · rw [setP_ne _ _ _ _ c]; exact h.le j hj x hx
  · have a := tot_set me f i { (me i) with fr := upn (me i).fr n v } N
    rw [if_pos hi, if_pos hi] at a
    have b := cntK_set (me i).fr f n v 16
    rw [if_pos hn, if_pos hn] at b
    have c := hr f hf
    have d := h.ref f hf
    have e : ({ (me i) with fr := upn (me i).fr n v } : Me).fr = upn (me i).fr n v := rfl
    rw [e] at a
    omega
theorem Wld.drop (h : Wld k N me) {i n v : Nat} (hi : i < N) (hn : n < 16) (hv : (me i).fr n = v + 1) : Wld (drp k v) N (setP me i { (me i) with fr := upn (me i).fr n 0 }) := by
  have l := h.le i hi n hn
  have hd := h.held hi hn (by omega)
  rw [hv, Nat.add_sub_cancel] at hd
  have v64 : v < 64 := by omega
  have tv := (h.tk v v64).2 hd
  have ip : Bd.Inv (drp k v).pool ∧ Bd.NB (drp k v).pool 64 := by
    show Bd.Inv (if _ then _ else _) ∧ Bd.NB (if _ then _ else _) 64
    split
    · exact h.inv.give h.nb _
    · exact ⟨h.inv, h.nb⟩
  have er : ∀ f, (drp k v).refs f = if f = v then k.refs v - 1 else k.refs f := fun f => rfl
  have eg : Bd.giveT k.pool (v : Int) = Bd.giveB k.pool v := by
    unfold Bd.giveT Bd.giveE
    rw [if_neg (by omega : ¬ ((v : Int) < 0 ∨ 63 < (v : Int))), Int.toNat_natCast, if_pos tv, if_pos rfl]
  have gb := h.inv.giveB h.nb v64 tv
  refine h.turn hi hn (by omega) ip.1 ip.2 (fun f hf => ?_) (fun f hf => ?_) (fun f hf => ?_)
  · rw [er, hv]
    unfold Mv.one
    by_cases c : f = v
    · subst c; rw [if_pos rfl, if_pos rfl, if_neg (by omega)]; omega
    · rw [if_neg c, if_neg (by omega), if_neg (by omega)]
  · rw [er]
    show (if k.refs v = 1 then Bd.giveT k.pool v else k.pool).tk f = true ↔ _
    by_cases r1 : k.refs v = 1
    · rw [if_pos r1, eg, gb.2.2]
      show (if f = v then false else k.pool.tk f) = true ↔ _
      by_cases c : f = v
      · rw [if_pos c, if_pos c]; constructor
        · intro d; cases d
        · intro d; omega
      · rw [if_neg c, if_neg c]; exact h.tk f hf
    · rw [if_neg r1]
      by_cases c : f = v
      · subst c; rw [if_pos rfl]; exact ⟨fun _ => by omega, fun _ => tv⟩
      · rw [if_neg c]; exact h.tk f hf
  · show (if k.refs v = 1 then Bd.giveT k.pool v else k.pool).tk f = true → (if k.refs v = 1 then Bd.giveT k.pool v else k.pool).ord f = 1
    by_cases r1 : k.refs v = 1
    · rw [if_pos r1, eg]
      intro d
      rw [gb.2.2] at d
      have d' : (if f = v then false else k.pool.tk f) = true := d
      by_cases c : f = v
      · rw [if_pos c] at d'; cases d'
      · rw [if_neg c] at d'
        rw [Bd.giveB_keep h.inv v64 tv c d']; exact h.one f hf d'
    · rw [if_neg r1]; exact h.one f hf
theorem Wld.unmap (h : Wld k N me) {i : Nat} (hi : i < N) {x : Nat} : ∀ j, x + j ≤ 16 → Wld (umK (me i) k x j) N (setP me i (umM (me i) x (x + j))) := by
  intro j
  induction j with
  | zero =>
    intro _
    refine h.congr (fun a _ y _ => ?_)
    by_cases c : a = i
    · subst c; rw [setP_same]; exact if_neg (by omega)
    · rw [setP_ne _ _ _ _ c]
  | succ j ih =>
    intro hj
    have w := ih (by omega)
    have e0 : (umM (me i) x (x + j)).fr (x + j) = (me i).fr (x + j) := if_neg (by omega)
    have key : ∀ y, (umM (me i) x (x + (j + 1))).fr y = upn (umM (me i) x (x + j)).fr (x + j) 0 y := fun y => by
      unfold upn
      by_cases c : y = x + j
      · subst c; rw [if_pos rfl]; exact (umM_at (me i) x j).2
      · rw [if_neg c]; exact (umM_step c).2
    by_cases c : (me i).fr (x + j) = 0
    · rw [show umK (me i) k x (j + 1) = umK (me i) k x j from if_pos c]
      refine w.congr (fun a _ y _ => ?_)
      by_cases d : a = i
      · subst d
        rw [setP_same, setP_same, key]
        unfold upn
        by_cases e : y = x + j
        · subst e; rw [if_pos rfl, e0, c]
        · rw [if_neg e]
      · rw [setP_ne _ _ _ _ d, setP_ne _ _ _ _ d]
    · rw [show umK (me i) k x (j + 1) = drp (umK (me i) k x j) ((me i).fr (x + j) - 1) from if_neg c]
      have s := w.drop (v := (me i).fr (x + j) - 1) hi (by omega : x + j < 16) (by rw [setP_same, e0]; omega)
      refine s.congr (fun a _ y _ => ?_)
      by_cases d : a = i
      · subst d; rw [setP_same, setP_same, setP_same, key]
      · rw [setP_ne _ _ _ _ d, setP_ne _ _ _ _ d, setP_ne _ _ _ _ d]
end
end Mv
end Go.Proofs.YtghogbngmcolmaaGreat

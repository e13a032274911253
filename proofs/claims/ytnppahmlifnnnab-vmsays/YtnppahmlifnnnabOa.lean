/- Memories of one bank, plain: how often each frame is held; what stays true. -/
import Derived.Test.YtnppahmlifnnnabNh
import Derived.Test.YtnppahmlifnnnabYc
namespace Go.Proofs.Ytnppahmlifnnnab
open Bd (P)
open Mv (Me Bk)
namespace Mv

def one (a b : Nat) : Nat := if a = b + 1 then 1 else 0
theorem cntK_set (fr : Nat → Nat) (f i v : Nat) : ∀ n, cntK (upn fr i v) f n + (if i < n then one (fr i) f else 0) = cntK fr f n + (if i < n then one v f else 0) := by
  intro n
  induction n with
  | zero => rfl
  | succ n ih =>
    show cntK (upn fr i v) f n + one (upn fr i v n) f + (if i < n + 1 then one (fr i) f else 0) = cntK fr f n + one (fr n) f + (if i < n + 1 then one v f else 0)
    by_cases c : n = i
    · subst c
      rw [if_neg (Nat.lt_irrefl n), if_neg (Nat.lt_irrefl n)] at ih
      rw [if_pos (Nat.lt_succ_self n), if_pos (Nat.lt_succ_self n), show upn fr n v n = v from if_pos rfl]
      omega
    · rw [show upn fr i v n = fr n from if_neg c]
      by_cases d : i < n
      · have d2 : i < n + 1 := by omega
        rw [if_pos d, if_pos d] at ih
        rw [if_pos d2, if_pos d2]
        omega
      · have d2 : ¬ i < n + 1 := by omega
        rw [if_neg d, if_neg d] at ih
        rw [if_neg d2, if_neg d2]
        omega
/-- How many pages of all memories hold frame f. -/
def tot (me : Nat → Me) (f : Nat) : Nat → Nat
  | 0 => 0
  | i + 1 => tot me f i + cntK (me i).fr f 16
/-- A page of one memory is turned. -/
def setP (me : Nat → Me) (i : Nat) (m : Me) : Nat → Me := fun j => if j = i then m else me j
theorem setP_same (me : Nat → Me) (i : Nat) (m : Me) : setP me i m i = m := if_pos rfl
theorem setP_ne (me : Nat → Me) (i : Nat) (m : Me) (j : Nat) (h : j ≠ i) : setP me i m j = me j := if_neg h
theorem tot_set (me : Nat → Me) (f i : Nat) (m : Me) : ∀ n, tot (setP me i m) f n + (if i < n then cntK (me i).fr f 16 else 0) = tot me f n + (if i < n then cntK m.fr f 16 else 0) := by
  intro n
  induction n with
  | zero => rfl
  | succ n ih =>
    show tot (setP me i m) f n + cntK (setP me i m n).fr f 16 + _ = tot me f n + cntK (me n).fr f 16 + _
    by_cases c : n = i
    · subst c
      rw [if_neg (by omega), if_neg (by omega)] at ih
      rw [setP_same, if_pos (by omega), if_pos (by omega)]
      omega
    · rw [setP_ne _ _ _ _ c]
      by_cases d : i < n
      · rw [if_pos d, if_pos d] at ih
        rw [if_pos (by omega), if_pos (by omega)]
        omega
      · rw [if_neg d, if_neg d] at ih
        rw [if_neg (by omega), if_neg (by omega)]
        omega
theorem tot_le (me : Nat → Me) (f n : Nat) : tot me f n ≤ 16 * n := by
  induction n with
  | zero => exact Nat.le_refl 0
  | succ n ih => show tot me f n + cntK _ f 16 ≤ _; have := cntK_le (me n).fr f 16; omega
theorem tot_ge (me : Nat → Me) (f : Nat) {i n : Nat} (h : i < n) : cntK (me i).fr f 16 ≤ tot me f n := by
  induction n with
  | zero => omega
  | succ n ih =>
    show _ ≤ tot me f n + cntK (me n).fr f 16
    by_cases c : i = n
    · subst c; omega
    · have := ih (by omega); omega
theorem tot_congr {me me' : Nat → Me} (f : Nat) : ∀ n, (∀ i, i < n → ∀ x, x < 16 → (me' i).fr x = (me i).fr x) → tot me' f n = tot me f n := by
  intro n
  induction n with
  | zero => intro _; rfl
  | succ n ih =>
    intro h
    show tot me' f n + cntK _ f 16 = tot me f n + cntK _ f 16
    rw [ih (fun i hi => h i (by omega)), cntK_congr (h n (by omega))]
/-- What stays true of a bank and its memories. -/
structure Wld (k : Bk) (N : Nat) (me : Nat → Me) : Prop where
  inv : Bd.Inv k.pool
  nb : Bd.NB k.pool 64
  n8 : N ≤ 8
  le : ∀ i, i < N → ∀ n, n < 16 → (me i).fr n ≤ 64
  ref : ∀ f, f < 64 → k.refs f = tot me f N
  tk : ∀ f, f < 64 → (k.pool.tk f = true ↔ 1 ≤ k.refs f)
  one : ∀ f, f < 64 → k.pool.tk f = true → k.pool.ord f = 1
section
variable {k k' : Bk} {N : Nat} {me me' : Nat → Me}
theorem Wld.refl (h : Wld k N me) (f : Nat) (hf : f < 64) : k.refs f ≤ 128 := by rw [h.ref f hf]; have := tot_le me f N; have := h.n8; omega
theorem Wld.cnt (h : Wld k N me) {i : Nat} (hi : i < N) : Cnt (me i) k := ⟨h.inv, h.nb, h.le i hi, fun f hf => ⟨by rw [h.ref f hf]; exact tot_ge me f hi, by have := h.refl f hf; omega⟩⟩
theorem Wld.held (h : Wld k N me) {i n : Nat} (hi : i < N) (hn : n < 16) (c : (me i).fr n ≠ 0) : 1 ≤ k.refs ((me i).fr n - 1) := by
  have l := h.le i hi n hn
  have a := (h.cnt hi).cnt ((me i).fr n - 1) (by omega)
  have b := cntK_pos (fr := (me i).fr) (f := (me i).fr n - 1) (n := 16) hn (by omega)
  omega
theorem Wld.good (h : Wld k N me) {i : Nat} (hi : i < N) : GoodC (me i) k := ⟨h.inv, h.nb, h.le i hi, fun n hn c => ⟨h.held hi hn c, by have l := h.le i hi n hn; have := h.refl ((me i).fr n - 1) (by omega); omega⟩, fun f hf c => (h.tk f hf).2 c⟩
theorem Wld.congr (h : Wld k N me) (e : ∀ i, i < N → ∀ x, x < 16 → (me' i).fr x = (me i).fr x) : Wld k N me' := ⟨h.inv, h.nb, h.n8, fun i hi n hn => by rw [e i hi n hn]; exact h.le i hi n hn, fun f hf => by rw [h.ref f hf, tot_congr f N e], h.tk, h.one⟩
/-- Memory i has a page turned; the bank goes along. -/
theorem Wld.turn (h : Wld k N me) {i n v : Nat} (hi : i < N) (hn : n < 16) (hv : v ≤ 64) (inv : Bd.Inv k'.pool) (nb : Bd.NB k'.pool 64)
    (hr : ∀ f, f < 64 → k'.refs f + Mv.one ((me i).fr n) f = k.refs f + Mv.one v f) (ht : ∀ f, f < 64 → (k'.pool.tk f = true ↔ 1 ≤ k'.refs f)) (ho : ∀ f, f < 64 → k'.pool.tk f = true → k'.pool.ord f = 1) :
    Wld k' N (setP me i { (me i) with fr := upn (me i).fr n v }) := by
  refine ⟨inv, nb, h.n8, fun j hj x hx => ?_, fun f hf => ?_, ht, ho⟩
  · by_cases c : j = i
    · subst c
      rw [setP_same]
      show (if x = n then v else (me j).fr x) ≤ 64
      split
      · exact hv
      · exact h.le j hj x hx
    · rw [setP_ne _ _ _ _ c]; exact h.le j hj x hx
  · have a := tot_set me f i { (me i) with fr := upn (me i).fr n v } N
    rw [if_pos hi, if_pos hi] at a
    have b := cntK_set (me i).fr f n v 16
    rw [if_pos hn, if_pos hn] at b
    have c := hr f hf
    have d := h.ref f hf
    have e : ({ (me i) with fr := upn (me i).fr n v } : Me).fr = upn (me i).fr n v := rfl
    rw [e] at a
    omega
/-- A page leaves its frame. -/
theorem Wld.drop (h : Wld k N me) {i n v : Nat} (hi : i < N) (hn : n < 16) (hv : (me i).fr n = v + 1) : Wld (drp k v) N (setP me i { (me i) with fr := upn (me i).fr n 0 }) := by
  have l := h.le i hi n hn
  have hd := h.held hi hn (by omega)
  rw [hv, Nat.add_sub_cancel] at hd
  have v64 : v < 64 := by omega
  have tv := (h.tk v v64).2 hd
  have ip : Bd.Inv (drp k v).pool ∧ Bd.NB (drp k v).pool 64 := by
    show Bd.Inv (if _ then _ else _) ∧ Bd.NB (if _ then _ else _) 64
    split
    · exact h.inv.give h.nb _
    · exact ⟨h.inv, h.nb⟩
  have er : ∀ f, (drp k v).refs f = if f = v then k.refs v - 1 else k.refs f := fun f => rfl
  have eg : Bd.giveT k.pool (v : Int) = Bd.giveB k.pool v := by
    unfold Bd.giveT Bd.giveE
    rw [if_neg (by omega : ¬ ((v : Int) < 0 ∨ 63 < (v : Int))), Int.toNat_natCast, if_pos tv, if_pos rfl]
  have gb := h.inv.giveB h.nb v64 tv
  refine h.turn hi hn (by omega) ip.1 ip.2 (fun f hf => ?_) (fun f hf => ?_) (fun f hf => ?_)
  · rw [er, hv]
    unfold Mv.one
    by_cases c : f = v
    · subst c; rw [if_pos rfl, if_pos rfl, if_neg (by omega)]; omega
    · rw [if_neg c, if_neg (by omega), if_neg (by omega)]
  · rw [er]
    show (if k.refs v = 1 then Bd.giveT k.pool v else k.pool).tk f = true ↔ _
    by_cases r1 : k.refs v = 1
    · rw [if_pos r1, eg, gb.2.2]
      show (if f = v then false else k.pool.tk f) = true ↔ _
      by_cases c : f = v
      · rw [if_pos c, if_pos c]; constructor
        · intro d; cases d
        · intro d; omega
      · rw [if_neg c, if_neg c]; exact h.tk f hf
    · rw [if_neg r1]
      by_cases c : f = v
      · subst c; rw [if_pos rfl]; exact ⟨fun _ => by omega, fun _ => tv⟩
      · rw [if_neg c]; exact h.tk f hf
  · show (if k.refs v = 1 then Bd.giveT k.pool v else k.pool).tk f = true → (if k.refs v = 1 then Bd.giveT k.pool v else k.pool).ord f = 1
    by_cases r1 : k.refs v = 1
    · rw [if_pos r1, eg]
      intro d
      rw [gb.2.2] at d
      have d' : (if f = v then false else k.pool.tk f) = true := d
      by_cases c : f = v
      · rw [if_pos c] at d'; cases d'
      · rw [if_neg c] at d'
        rw [Bd.giveB_keep h.inv v64 tv c d']; exact h.one f hf d'
    · rw [if_neg r1]; exact h.one f hf
/-- What a taken frame was and is. -/
theorem Wld.taken (h : Wld k N me) {g : Nat} {k1 : Bk} (t : TakK k 0 g k1) : g < 64 ∧ k.pool.tk g = false ∧ k.refs g = 0 ∧ (∃ p', k1 = clr k p' g ∧ Bd.Inv p' ∧ Bd.NB p' 64 ∧ p'.tk g = true ∧ p'.ord g = 1 ∧ (∀ f, f ≠ g → p'.tk f = k.pool.tk f) ∧ ∀ f, f < 64 → k.pool.tk f = true → p'.ord f = k.pool.ord f) := by
  obtain ⟨p', t1, t2⟩ := t
  rw [if_pos rfl] at t2
  have iv := h.inv.take h.nb t1
  rcases t1 with ⟨_, c, _⟩ | ⟨_, _, c, _⟩ | ⟨_, hB, _, e⟩
  · omega
  · omega
  · have tb := h.inv.takeB h.nb hB
    have g0 : k.refs g = 0 := by
      have := h.tk g hB.lt
      rw [hB.tk] at this
      have : ¬ 1 ≤ k.refs g := fun c => by cases this.2 c
      omega
    subst e
    exact ⟨hB.lt, hB.tk, g0, _, t2, iv.1, iv.2, tb.2.2.2.1, tb.2.2.1, fun f hf => tb.2.2.2.2.2 f hf, fun f hf ht => Bd.takeB_keep h.inv h.nb hB hf ht⟩
/-- A page that is in no frame comes into a new one. -/
theorem Wld.fresh (h : Wld k N me) {i n g : Nat} {k1 : Bk} (hi : i < N) (hn : n < 16) (h0 : (me i).fr n = 0) (t : TakK k 0 g k1) : Wld k1 N (setP me i { (me i) with fr := upn (me i).fr n (g + 1) }) := by
  obtain ⟨g64, gt, g0, p', rfl, i1, i2, i3, i4, i5, i6⟩ := h.taken t
  refine h.turn hi hn (by omega) i1 i2 (fun f hf => ?_) (fun f hf => ?_) (fun f hf ht => ?_)
  · show (if f = g then 1 else k.refs f) + Mv.one ((me i).fr n) f = k.refs f + Mv.one (g + 1) f
    unfold Mv.one
    rw [h0, if_neg (by omega : ¬ 0 = f + 1)]
    by_cases c : f = g
    · subst c; rw [if_pos rfl, if_pos rfl]; omega
    · rw [if_neg c, if_neg (by omega)]
  · show p'.tk f = true ↔ 1 ≤ (if f = g then 1 else k.refs f)
    by_cases c : f = g
    · subst c; rw [if_pos rfl, i3]; exact ⟨fun _ => by omega, fun _ => rfl⟩
    · rw [if_neg c, i5 f c]; exact h.tk f hf
  · have ht' : p'.tk f = true := ht
    show p'.ord f = 1
    by_cases c : f = g
    · subst c; exact i4
    · rw [i5 f c] at ht'; rw [i6 f hf ht']; exact h.one f hf ht'
/-- A page is parted from those that share its frame. -/
theorem Wld.part (h : Wld k N me) {i n g v : Nat} {k1 : Bk} (hi : i < N) (hn : n < 16) (hv : (me i).fr n = v + 1) (hr : k.refs v ≠ 1) (t : TakK k 0 g k1) : Wld (drp (cpy k1 v g) v) N (setP me i { (me i) with fr := upn (me i).fr n (g + 1) }) ∧ v ≠ g ∧ (drp (cpy k1 v g) v).refs g = 1 := by
  obtain ⟨g64, gt, g0, p', rfl, i1, i2, i3, i4, i5, i6⟩ := h.taken t
  have l := h.le i hi n hn
  have hd := h.held hi hn (by omega)
  rw [hv, Nat.add_sub_cancel] at hd
  have ne : v ≠ g := fun c => by rw [c] at hd; omega
  have er : ∀ f, (drp (cpy (clr k p' g) v g) v).refs f = if f = v then k.refs v - 1 else if f = g then 1 else k.refs f := fun f => by
    show (if f = v then (if v = g then 1 else k.refs v) - 1 else if f = g then 1 else k.refs f) = _
    rw [if_neg ne]
  have ep : (drp (cpy (clr k p' g) v g) v).pool = p' := by
    show (if (if v = g then 1 else k.refs v) = 1 then Bd.giveT p' v else p') = p'
    rw [if_neg ne, if_neg hr]
  refine ⟨h.turn hi hn (by omega) (by rw [ep]; exact i1) (by rw [ep]; exact i2) (fun f hf => ?_) (fun f hf => ?_) (fun f hf ht => ?_), ne, by rw [er, if_neg (Ne.symm ne), if_pos rfl]⟩
  · rw [er, hv]
    unfold Mv.one
    by_cases c : f = v
    · subst c; rw [if_pos rfl, if_pos rfl, if_neg (by omega)]; omega
    · rw [if_neg c, if_neg (by omega : ¬ v + 1 = f + 1)]
      by_cases d : f = g
      · subst d; rw [if_pos rfl, if_pos rfl]; omega
      · rw [if_neg d, if_neg (by omega)]
  · rw [er, ep]
    by_cases c : f = v
    · subst c
      rw [if_pos rfl, i5 f ne]
      exact ⟨fun _ => by omega, fun _ => (h.tk f hf).2 hd⟩
    · rw [if_neg c]
      by_cases d : f = g
      · subst d; rw [if_pos rfl, i3]; exact ⟨fun _ => by omega, fun _ => rfl⟩
      · rw [if_neg d, i5 f d]; exact h.tk f hf
  · rw [ep] at ht ⊢
    by_cases c : f = g
    · subst c; exact i4
    · rw [i5 f c] at ht; rw [i6 f hf ht]; exact h.one f hf ht
/-- Where no frame is to be had the bank stays. -/
theorem TakK_no {k k1 : Bk} {e : Int} {g : Nat} (t : TakK k e g k1) (c : e ≠ 0) : k1 = k := by
  obtain ⟨p', t1, t2⟩ := t
  rw [if_neg c] at t2
  rcases t1 with ⟨_, _, _, e⟩ | ⟨_, _, _, _, e⟩ | ⟨_, _, e, _⟩
  · subst e; exact t2
  · subst e; exact t2
  · exact absurd e c
/-- A touch keeps all. -/
theorem Wld.touch (h : Wld k N me) {i : Nat} (hi : i < N) {z E : Int} {wr : Bool} {g : Nat} {m' : Me} (t : TouR (me i) k z wr E g m' k') : Wld k' N (setP me i m') ∧ (E = 0 → wr = true → k'.refs g = 1) := by
  have same : Wld k N (setP me i (me i)) := h.congr (fun j _ x _ => by
    by_cases c : j = i
    · subst c; rw [setP_same]
    · rw [setP_ne _ _ _ _ c])
  rcases t with ⟨_, e, _, rfl, rfl⟩ | ⟨a, b, c, e, rfl, rfl, rfl⟩ | ⟨a, b, k1, t, c⟩
  · exact ⟨same, fun c => by omega⟩
  · exact ⟨same, fun _ w => by rcases c with c | c; rw [c] at w; cases w; exact c⟩
  · obtain ⟨x, rfl, hx⟩ := may_in a
    rw [Int.toNat_natCast] at b c
    rcases c with ⟨e0, rfl, rfl⟩ | ⟨e0, rfl, rfl⟩
    · have := TakK_no t e0
      subst this
      exact ⟨same, fun c => absurd c e0⟩
    · subst e0
      by_cases f0 : (me i).fr (x / 8) = 0
      · rw [if_pos f0]
        refine ⟨h.fresh hi (by omega) f0 t, fun _ _ => ?_⟩
        obtain ⟨_, _, _, p', rfl, _⟩ := h.taken t
        show (if g = g then 1 else k.refs g) = 1
        rw [if_pos rfl]
      · rw [if_neg f0]
        have hr : k.refs ((me i).fr (x / 8) - 1) ≠ 1 := fun c => b ⟨f0, .inr c⟩
        have r := h.part hi (by omega : x / 8 < 16) (v := (me i).fr (x / 8) - 1) (by omega) hr t
        exact ⟨r.1, fun _ _ => r.2.2⟩
theorem Wld.unmap (h : Wld k N me) {i : Nat} (hi : i < N) {x : Nat} : ∀ j, x + j ≤ 16 → Wld (umK (me i) k x j) N (setP me i (umM (me i) x (x + j))) := by
  intro j
  induction j with
  | zero =>
    intro _
    refine h.congr (fun a _ y _ => ?_)
    by_cases c : a = i
    · subst c; rw [setP_same]; exact if_neg (by omega)
    · rw [setP_ne _ _ _ _ c]
  | succ j ih =>
    intro hj
    have w := ih (by omega)
    have e0 : (umM (me i) x (x + j)).fr (x + j) = (me i).fr (x + j) := if_neg (by omega)
    have key : ∀ y, (umM (me i) x (x + (j + 1))).fr y = upn (umM (me i) x (x + j)).fr (x + j) 0 y := fun y => by
      unfold upn
      by_cases c : y = x + j
      · subst c; rw [if_pos rfl]; exact (umM_at (me i) x j).2
      · rw [if_neg c]; exact (umM_step c).2
    by_cases c : (me i).fr (x + j) = 0
    · rw [show umK (me i) k x (j + 1) = umK (me i) k x j from if_pos c]
      refine w.congr (fun a _ y _ => ?_)
      by_cases d : a = i
      · subst d
        rw [setP_same, setP_same, key]
        unfold upn
        by_cases e : y = x + j
        · subst e; rw [if_pos rfl, e0, c]
        · rw [if_neg e]
      · rw [setP_ne _ _ _ _ d, setP_ne _ _ _ _ d]
    · rw [show umK (me i) k x (j + 1) = drp (umK (me i) k x j) ((me i).fr (x + j) - 1) from if_neg c]
      have s := w.drop (v := (me i).fr (x + j) - 1) hi (by omega : x + j < 16) (by rw [setP_same, e0]; omega)
      refine s.congr (fun a _ y _ => ?_)
      by_cases d : a = i
      · subst d; rw [setP_same, setP_same, setP_same, key]
      · rw [setP_ne _ _ _ _ d, setP_ne _ _ _ _ d, setP_ne _ _ _ _ d]
theorem Wld.fork (h : Wld k N me) {i : Nat} (hi : i < N) (hN : N < 8) : Wld (foK (me i) k 16) (N + 1) (setP me N (me i)) := by
  have e : ∀ f n, n ≤ N → tot (setP me N (me i)) f n = tot me f n := fun f n hn => tot_congr f n (fun j hj x _ => by rw [setP_ne _ _ _ _ (by omega)])
  refine ⟨h.inv, h.nb, by omega, fun j hj n hn => ?_, fun f hf => ?_, fun f hf => ?_, h.one⟩
  · by_cases c : j = N
    · subst c; rw [setP_same]; exact h.le i hi n hn
    · rw [setP_ne _ _ _ _ c]; exact h.le j (by omega) n hn
  · show k.refs f + cntK (me i).fr f 16 = tot (setP me N (me i)) f N + cntK (setP me N (me i) N).fr f 16
    rw [setP_same, e f N (Nat.le_refl _), h.ref f hf]
  · show k.pool.tk f = true ↔ 1 ≤ k.refs f + cntK (me i).fr f 16
    rw [h.tk f hf]
    have := (h.cnt hi).cnt f hf
    omega
theorem wld0 : Wld bk0 1 (fun _ => me0) := by
  have c0 : ∀ f n, cntK me0.fr f n = 0 := fun f n => by
    induction n with
    | zero => rfl
    | succ n ih => show cntK me0.fr f n + (if 0 = f + 1 then 1 else 0) = 0; rw [ih, if_neg (by omega)]
  exact ⟨Bd.inv0.1, Bd.inv0.2, by omega, fun _ _ _ _ => by show 0 ≤ 64; omega, fun f _ => by show 0 = tot _ f 0 + cntK me0.fr f 16; rw [c0]; rfl, fun f _ => ⟨fun c => absurd (show false = true from c) (by decide), fun c => absurd (show (0 : Nat) ≥ 1 from c) (by decide)⟩, fun f _ c => absurd (show false = true from c) (by decide)⟩
end
/-- Each memory has its own bytes. -/
def Flt (k : Bk) (N : Nat) (me : Nat → Me) (fl : Nat → Nat → Int) : Prop := ∀ i, i < N → ∀ x, x < 128 → fl i x = if (me i).fr (x / 8) = 0 then 0 else k.byt ((me i).fr (x / 8) - 1) (x % 8)
section
variable {k k' : Bk} {N : Nat} {me me' : Nat → Me} {fl : Nat → Nat → Int}
theorem Flt.congr (h : Flt k N me fl) (e : ∀ i, i < N → ∀ n, n < 16 → (me' i).fr n = (me i).fr n) : Flt k N me' fl := fun i hi x hx => by rw [h i hi x hx, e i hi _ (by omega)]
theorem Flt.touch (h : Flt k N me fl) (w : Wld k N me) {i : Nat} (hi : i < N) {z E : Int} {wr : Bool} {g : Nat} {m' : Me} (t : TouR (me i) k z wr E g m' k') : Flt k' N (setP me i m') fl := by
  have same : Flt k N (setP me i (me i)) fl := h.congr (fun j _ x _ => by
    by_cases c : j = i
    · subst c; rw [setP_same]
    · rw [setP_ne _ _ _ _ c])
  rcases t with ⟨_, e, _, rfl, rfl⟩ | ⟨a, b, c, e, rfl, rfl, rfl⟩ | ⟨a, b, k1, t, c⟩
  · exact same
  · exact same
  · obtain ⟨x, rfl, hx⟩ := may_in a
    rw [Int.toNat_natCast] at b c
    rcases c with ⟨e0, rfl, rfl⟩ | ⟨e0, rfl, rfl⟩
    · have := TakK_no t e0
      subst this
      exact same
    · subst e0
      obtain ⟨g64, gt, g0, p', rfl, _⟩ := w.taken t
      -- nobody held the new frame
      have nog : ∀ j, j < N → ∀ n, n < 16 → (me j).fr n ≠ g + 1 := fun j hj n hn c => by
        have := w.held hj hn (by omega)
        rw [c, Nat.add_sub_cancel] at this; omega
      intro j hj y hy
      have hf := h j hj y hy
      by_cases f0 : (me i).fr (x / 8) = 0
      · rw [if_pos f0]
        by_cases c : j = i ∧ y / 8 = x / 8
        · obtain ⟨rfl, c2⟩ := c
          rw [setP_same]
          show fl j y = if (if y / 8 = x / 8 then g + 1 else _) = 0 then 0 else (if (if y / 8 = x / 8 then g + 1 else _) - 1 = g then 0 else _)
          rw [if_pos c2, if_neg (by omega), Nat.add_sub_cancel, if_pos rfl, hf, c2, if_pos f0]
        · have e : (setP me i { (me i) with fr := upn (me i).fr (x / 8) (g + 1) } j).fr (y / 8) = (me j).fr (y / 8) := by
            by_cases d : j = i
            · subst d
              rw [setP_same]
              exact if_neg (fun e => c ⟨rfl, e⟩)
            · rw [setP_ne _ _ _ _ d]
          rw [e, hf]
          by_cases d : (me j).fr (y / 8) = 0
          · rw [if_pos d, if_pos d]
          · rw [if_neg d, if_neg d]
            show _ = if (me j).fr (y / 8) - 1 = g then 0 else _
            rw [if_neg (fun c => nog j hj (y / 8) (by omega) (by omega))]
      · rw [if_neg f0]
        have ne : (me i).fr (x / 8) - 1 ≠ g := fun c => nog i hi (x / 8) (by omega) (by omega)
        by_cases c : j = i ∧ y / 8 = x / 8
        · obtain ⟨rfl, c2⟩ := c
          rw [setP_same]
          show fl j y = if (if y / 8 = x / 8 then g + 1 else _) = 0 then 0 else (if (if y / 8 = x / 8 then g + 1 else _) - 1 = g then (if (me j).fr (x / 8) - 1 = g then 0 else k.byt ((me j).fr (x / 8) - 1) (y % 8)) else _)
          rw [if_pos c2, if_neg (by omega), Nat.add_sub_cancel, if_pos rfl, if_neg ne, hf, c2, if_neg f0]
        · have e : (setP me i { (me i) with fr := upn (me i).fr (x / 8) (g + 1) } j).fr (y / 8) = (me j).fr (y / 8) := by
            by_cases d : j = i
            · subst d
              rw [setP_same]
              exact if_neg (fun e => c ⟨rfl, e⟩)
            · rw [setP_ne _ _ _ _ d]
          rw [e, hf]
          by_cases d : (me j).fr (y / 8) = 0
          · rw [if_pos d, if_pos d]
          · rw [if_neg d, if_neg d]
            have n2 : (me j).fr (y / 8) - 1 ≠ g := fun c => nog j hj (y / 8) (by omega) (by omega)
            show _ = if (me j).fr (y / 8) - 1 = g then _ else (if (me j).fr (y / 8) - 1 = g then 0 else _)
            rw [if_neg n2, if_neg n2]
end
end Mv
end Go.Proofs.Ytnppahmlifnnnab

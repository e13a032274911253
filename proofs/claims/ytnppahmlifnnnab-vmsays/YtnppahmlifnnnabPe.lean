/- What is one's own stays one's own: plain. -/
import Derived.Test.YtnppahmlifnnnabOb
import Derived.Test.YtnppahmlifnnnabMn
namespace Go.Proofs.Ytnppahmlifnnnab
open Bd (P)
open Mv (Me Bk)
namespace Mv
/-- A page that is one's own is in a frame that is held once. -/
def OwnI (k : Bk) (N : Nat) (me : Nat → Me) (ow : Nat → Nat → Bool) : Prop := ∀ i, i < N → ∀ n, n < 16 → ow i n = true → (me i).fr n ≠ 0 ∧ k.refs ((me i).fr n - 1) = 1
def IsOk (N : Nat) (me : Nat → Me) : Prop := ∀ i, i < N → ∀ n, n < 16 → (me i).is n ≤ 2
def setO (ow : Nat → Nat → Bool) (i : Nat) (o : Nat → Bool) : Nat → Nat → Bool := fun j => if j = i then o else ow j
theorem setO_same (ow : Nat → Nat → Bool) (i : Nat) (o : Nat → Bool) : setO ow i o i = o := if_pos rfl
theorem setO_ne (ow : Nat → Nat → Bool) (i : Nat) (o : Nat → Bool) (j : Nat) (h : j ≠ i) : setO ow i o j = ow j := if_neg h
section
variable {k k' : Bk} {N : Nat} {me : Nat → Me} {ow : Nat → Nat → Bool}
theorem OwnI.good (h : OwnI k N me ow) (w : Wld k N me) {i : Nat} (hi : i < N) : Good (me i) (ow i) k := by
  have g := w.good hi
  exact ⟨g.inv, g.nb, g.le, g.held, fun n hn e => h i hi n hn e⟩
theorem OwnI.frs (h : OwnI k N me ow) {i : Nat} {m' : Me} (e : m'.fr = (me i).fr) : OwnI k N (setP me i m') ow := fun j hj n hn ho => by
  by_cases c : j = i
  · subst c; rw [setP_same, e]; exact h j hj n hn ho
  · rw [setP_ne _ _ _ _ c]; exact h j hj n hn ho
theorem OwnI.touch (h : OwnI k N me ow) (w : Wld k N me) {i : Nat} (hi : i < N) {z E : Int} {wr : Bool} {g : Nat} {m' : Me} {o' : Nat → Bool} (t : TouR (me i) k z wr E g m' k') (ho : OwnTo z wr E (me i) (ow i) o') : OwnI k' N (setP me i m') (setO ow i o') := by
  intro j hj n hn hjn
  rcases t with ⟨hm, e, _, rfl, rfl⟩ | ⟨hm, b, c, e, eg, rfl, rfl⟩ | ⟨hm, b, k1, t, c⟩
  · -- nothing was touched
    have eo : o' = ow i := by
      rcases ho with e1 | ⟨_, e2, _⟩
      · exact e1
      · omega
    subst eo
    by_cases d : j = i
    · subst d; rw [setO_same] at hjn; rw [setP_same]; exact h j hj n hn hjn
    · rw [setO_ne _ _ _ _ d] at hjn; rw [setP_ne _ _ _ _ d]; exact h j hj n hn hjn
  · obtain ⟨x, rfl, hx⟩ := may_in hm
    rw [Int.toNat_natCast] at b c eg
    by_cases d : j = i
    · subst d
      rw [setO_same] at hjn
      rw [setP_same]
      rcases ho with e1 | ⟨e1, _, e2⟩
      · rw [e1] at hjn; exact h j hj n hn hjn
      · rw [e1, Int.toNat_natCast] at hjn
        unfold upo at hjn
        rw [Int.toNat_natCast] at e2
        by_cases f : n = x / 8
        · subst f
          refine ⟨b, ?_⟩
          rcases c with c | c
          · rcases e2 with e2 | e2
            · exact absurd e2 b
            · rw [c] at e2; cases e2
          · exact c
        · rw [if_neg f] at hjn; exact h j hj n hn hjn
    · rw [setO_ne _ _ _ _ d] at hjn; rw [setP_ne _ _ _ _ d]; exact h j hj n hn hjn
  · obtain ⟨x, rfl, hx⟩ := may_in hm
    rw [Int.toNat_natCast] at b c
    rcases c with ⟨e0, rfl, rfl⟩ | ⟨e0, rfl, rfl⟩
    · have ek := TakK_no t e0
      subst ek
      have eo : o' = ow i := by
        rcases ho with e1 | ⟨_, e2, _⟩
        · exact e1
        · exact absurd e2 e0
      subst eo
      by_cases d : j = i
      · subst d; rw [setO_same] at hjn; rw [setP_same]; exact h j hj n hn hjn
      · rw [setO_ne _ _ _ _ d] at hjn; rw [setP_ne _ _ _ _ d]; exact h j hj n hn hjn
    · subst e0
      obtain ⟨g64, gt, g0, p', rfl, _⟩ := w.taken t
      -- all that was one's own, but for the page itself, stays so
      have old : ∀ a n2, a < N → n2 < 16 → ow a n2 = true → ¬ (a = i ∧ n2 = x / 8) → (setP me i { (me i) with fr := upn (me i).fr (x / 8) (g + 1) } a).fr n2 = (me a).fr n2 ∧ (me a).fr n2 ≠ 0 ∧ (if (me i).fr (x / 8) = 0 then clr k p' g else drp (cpy (clr k p' g) ((me i).fr (x / 8) - 1) g) ((me i).fr (x / 8) - 1)).refs ((me a).fr n2 - 1) = 1 := fun a n2 ha hn2 hoa hne => by
        have o := h a ha n2 hn2 hoa
        have l := w.le a ha n2 hn2
        refine ⟨?_, o.1, ?_⟩
        · by_cases d : a = i
          · subst d; rw [setP_same]; exact if_neg (fun e => hne ⟨rfl, e⟩)
          · rw [setP_ne _ _ _ _ d]
        · have ng : (me a).fr n2 - 1 ≠ g := fun e => by rw [e] at o; omega
          by_cases f0 : (me i).fr (x / 8) = 0
          · rw [if_pos f0]
            show (if (me a).fr n2 - 1 = g then 1 else k.refs ((me a).fr n2 - 1)) = 1
            rw [if_neg ng]; exact o.2
          · rw [if_neg f0]
            have nv : (me a).fr n2 - 1 ≠ (me i).fr (x / 8) - 1 := fun e => by
              have hr : k.refs ((me i).fr (x / 8) - 1) ≠ 1 := fun c => b ⟨f0, .inr c⟩
              rw [e] at o
              exact hr o.2
            show (if (me a).fr n2 - 1 = (me i).fr (x / 8) - 1 then _ else (if (me a).fr n2 - 1 = g then 1 else k.refs ((me a).fr n2 - 1))) = 1
            rw [if_neg nv, if_neg ng]; exact o.2
      by_cases d : j = i ∧ n = x / 8
      · obtain ⟨rfl, rfl⟩ := d
        rw [setP_same]
        show upn (me j).fr (x / 8) (g + 1) (x / 8) ≠ 0 ∧ _
        have e1 : upn (me j).fr (x / 8) (g + 1) (x / 8) = g + 1 := if_pos rfl
        refine ⟨by rw [e1]; omega, ?_⟩
        show (if (me j).fr (x / 8) = 0 then clr k p' g else drp (cpy (clr k p' g) ((me j).fr (x / 8) - 1) g) ((me j).fr (x / 8) - 1)).refs (upn (me j).fr (x / 8) (g + 1) (x / 8) - 1) = 1
        rw [e1, Nat.add_sub_cancel]
        by_cases f0 : (me j).fr (x / 8) = 0
        · rw [if_pos f0]
          show (if g = g then 1 else k.refs g) = 1
          rw [if_pos rfl]
        · rw [if_neg f0]
          have hr : k.refs ((me j).fr (x / 8) - 1) ≠ 1 := fun c => b ⟨f0, .inr c⟩
          have nv : g ≠ (me j).fr (x / 8) - 1 := fun e => by
            have := w.held hj (by omega : x / 8 < 16) f0
            rw [← e] at this; omega
          show (if g = (me j).fr (x / 8) - 1 then _ else (if g = g then 1 else k.refs g)) = 1
          rw [if_neg nv, if_pos rfl]
      · have hoj : ow j n = true := by
          by_cases e : j = i
          · subst e
            rw [setO_same] at hjn
            rcases ho with e1 | ⟨e1, _, _⟩
            · rw [e1] at hjn; exact hjn
            · rw [e1, Int.toNat_natCast] at hjn
              unfold upo at hjn
              rw [if_neg (fun f => d ⟨rfl, f⟩)] at hjn
              exact hjn
          · rw [setO_ne _ _ _ _ e] at hjn; exact hjn
        obtain ⟨q1, q2, q3⟩ := old j n hj hn hoj d
        rw [q1]
        exact ⟨q2, q3⟩
theorem OwnI.unmapK (h : OwnI k N me ow) (w : Wld k N me) {i x : Nat} (hi : i < N) : ∀ c, x + c ≤ 16 → ∀ a, a < N → ∀ n, n < 16 → ow a n = true → ¬ (a = i ∧ x ≤ n ∧ n < x + c) → (umK (me i) k x c).refs ((me a).fr n - 1) = 1 := by
  intro c
  induction c with
  | zero => intro _ a ha n hn ho _; exact (h a ha n hn ho).2
  | succ c ih =>
    intro hc a ha n hn ho hne
    have r := ih (by omega) a ha n hn ho (fun e => hne ⟨e.1, e.2.1, by omega⟩)
    show (if (me i).fr (x + c) = 0 then umK (me i) k x c else drp (umK (me i) k x c) ((me i).fr (x + c) - 1)).refs ((me a).fr n - 1) = 1
    by_cases f0 : (me i).fr (x + c) = 0
    · rw [if_pos f0]; exact r
    · rw [if_neg f0]
      have nz := (h a ha n hn ho).1
      have l := w.le a ha n hn
      have l2 := w.le i hi (x + c) (by omega)
      have nv : (me a).fr n - 1 ≠ (me i).fr (x + c) - 1 := fun e => by
        have wd := w.unmap hi c (by omega : x + c ≤ 16)
        have al := wd.alone (f := (me a).fr n - 1) (i := a) (j := i) (n := n) (x := x + c) (by omega) r ha hi hn (by omega) (by
          by_cases d : a = i
          · subst d
            rw [setP_same]
            show (if x ≤ n ∧ n < x + c then 0 else (me a).fr n) = _
            rw [if_neg (fun e => hne ⟨rfl, e.1, by omega⟩)]; omega
          · rw [setP_ne _ _ _ _ d]; omega) (by
          rw [setP_same]
          show (if x ≤ x + c ∧ x + c < x + c then 0 else (me i).fr (x + c)) = _
          rw [if_neg (by omega)]; omega)
        exact hne ⟨al.1, by omega, by omega⟩
      show (if (me a).fr n - 1 = (me i).fr (x + c) - 1 then _ else (umK (me i) k x c).refs ((me a).fr n - 1)) = 1
      rw [if_neg nv]; exact r
theorem OwnI.unmap (h : OwnI k N me ow) (w : Wld k N me) {i x c : Nat} (hi : i < N) (hc : x + c ≤ 16) : OwnI (umK (me i) k x c) N (setP me i (umM (me i) x (x + c))) (setO ow i (umO (ow i) x (x + c))) := fun j hj n hn ho => by
  by_cases d : j = i
  · subst d
    rw [setO_same] at ho
    rw [setP_same]
    have ho' : (if x ≤ n ∧ n < x + c then false else ow j n) = true := ho
    by_cases e : x ≤ n ∧ n < x + c
    · rw [if_pos e] at ho'; cases ho'
    · rw [if_neg e] at ho'
      have ef : (umM (me j) x (x + c)).fr n = (me j).fr n := if_neg e
      rw [ef]
      exact ⟨(h j hj n hn ho').1, h.unmapK w hi c hc j hj n hn ho' (fun f => e f.2)⟩
  · rw [setO_ne _ _ _ _ d] at ho
    rw [setP_ne _ _ _ _ d]
    exact ⟨(h j hj n hn ho).1, h.unmapK w hi c hc j hj n hn ho (fun f => d f.1)⟩
theorem OwnI.fork (h : OwnI k N me ow) (w : Wld k N me) {i : Nat} (hi : i < N) : OwnI (foK (me i) k 16) (N + 1) (setP me N (me i)) (setO (setO ow i noOwn) N noOwn) := fun j hj n hn ho => by
  by_cases d : j = N
  · subst d; rw [setO_same] at ho; cases ho
  · rw [setO_ne _ _ _ _ d] at ho
    by_cases e : j = i
    · subst e; rw [setO_same] at ho; cases ho
    · rw [setO_ne _ _ _ _ e] at ho
      rw [setP_ne _ _ _ _ d]
      have hj' : j < N := by omega
      have o := h j hj' n hn ho
      have l := w.le j hj' n hn
      refine ⟨o.1, ?_⟩
      show k.refs ((me j).fr n - 1) + cntK (me i).fr ((me j).fr n - 1) 16 = 1
      have z : cntK (me i).fr ((me j).fr n - 1) 16 = 0 := by
        apply Classical.byContradiction
        intro hz
        have ex : ∃ y, y < 16 ∧ (me i).fr y = (me j).fr n - 1 + 1 := by
          apply Classical.byContradiction
          intro hx
          apply hz
          have : ∀ c, c ≤ 16 → cntK (me i).fr ((me j).fr n - 1) c = 0 := by
            intro c
            induction c with
            | zero => intro _; rfl
            | succ c ih =>
              intro hc
              show cntK _ _ c + (if (me i).fr c = (me j).fr n - 1 + 1 then 1 else 0) = 0
              rw [ih (by omega), if_neg (fun q => hx ⟨c, by omega, q⟩)]
          exact this 16 (Nat.le_refl _)
        obtain ⟨y, hy, ey⟩ := ex
        have al := w.alone (f := (me j).fr n - 1) (by omega) o.2 hj' hi hn hy (by omega) ey
        exact e al.1
      rw [z, o.2]
theorem IsOk.set (h : IsOk N me) {i : Nat} {m' : Me} (hm : ∀ n, n < 16 → m'.is n ≤ 2) : IsOk N (setP me i m') := fun j hj n hn => by
  by_cases c : j = i
  · subst c; rw [setP_same]; exact hm n hn
  · rw [setP_ne _ _ _ _ c]; exact h j hj n hn
theorem lay_ok {m : Me} (h : ∀ n, n < 16 → m.is n ≤ 2) (a e : Nat) (t : Bool) : ∀ n, n < 16 → (layM m a e t).is n ≤ 2 := fun n hn => by
  show (if a ≤ n ∧ n < e then (if t then 2 else 1) else m.is n) ≤ 2
  split
  · cases t <;> decide
  · exact h n hn
theorem map_ok {m : Me} (h : ∀ n, n < 16 → m.is n ≤ 2) (a c : Int) (t : Bool) : ∀ n, n < 16 → (mapM m a c t).is n ≤ 2 := by
  unfold mapM
  split
  · exact lay_ok h _ _ _
  · exact h
theorem pro_ok {m : Me} (h : ∀ n, n < 16 → m.is n ≤ 2) (a c : Int) (t : Bool) : ∀ n, n < 16 → (proM m a c t).is n ≤ 2 := by
  unfold proM
  split
  · exact lay_ok h _ _ _
  · exact h
theorem um_ok {m : Me} (h : ∀ n, n < 16 → m.is n ≤ 2) (a e : Nat) : ∀ n, n < 16 → (umM m a e).is n ≤ 2 := fun n hn => by
  show (if a ≤ n ∧ n < e then 0 else m.is n) ≤ 2
  split
  · omega
  · exact h n hn
theorem tou_is {m m' : Me} {z E : Int} {wr : Bool} {g : Nat} (t : TouR m k z wr E g m' k') : m'.is = m.is := by
  rcases t with ⟨_, _, _, rfl, _⟩ | ⟨_, _, _, _, _, rfl, _⟩ | ⟨_, _, _, _, ⟨_, rfl, _⟩ | ⟨_, rfl, _⟩⟩ <;> rfl
/-- All that stays true. -/
structure VI (k : Bk) (N : Nat) (me : Nat → Me) (ow : Nat → Nat → Bool) : Prop where
  wld : Wld k N me
  own : OwnI k N me ow
  ok : IsOk N me
theorem VI.touch (h : VI k N me ow) {i : Nat} (hi : i < N) {z E : Int} {wr : Bool} {g : Nat} {m' : Me} {o' : Nat → Bool} (t : TouR (me i) k z wr E g m' k') (ho : OwnTo z wr E (me i) (ow i) o') : VI k' N (setP me i m') (setO ow i o') :=
  ⟨(h.wld.touch hi t).1, h.own.touch h.wld hi t ho, h.ok.set (by rw [tou_is t]; exact h.ok i hi)⟩
theorem VI.bytes (h : VI k N me ow) (b : Nat → Nat → Int) : VI { k with byt := b } N me ow := ⟨h.wld.bytes b, h.own, h.ok⟩
theorem VI.laid (h : VI k N me ow) {i : Nat} {m' : Me} (e : m'.fr = (me i).fr) (hm : ∀ n, n < 16 → m'.is n ≤ 2) : VI k N (setP me i m') ow :=
  ⟨h.wld.congr (fun j _ x _ => by
    by_cases c : j = i
    · subst c; rw [setP_same, e]
    · rw [setP_ne _ _ _ _ c]), h.own.frs e, h.ok.set hm⟩
theorem VI.unmap (h : VI k N me ow) {i x c : Nat} (hi : i < N) (hc : x + c ≤ 16) : VI (umK (me i) k x c) N (setP me i (umM (me i) x (x + c))) (setO ow i (umO (ow i) x (x + c))) :=
  ⟨h.wld.unmap hi c hc, h.own.unmap h.wld hi hc, h.ok.set (um_ok (h.ok i hi) _ _)⟩
theorem VI.fork (h : VI k N me ow) {i : Nat} (hi : i < N) (hN : N < 8) : VI (foK (me i) k 16) (N + 1) (setP me N (me i)) (setO (setO ow i noOwn) N noOwn) :=
  ⟨h.wld.fork hi hN, h.own.fork h.wld hi, fun j hj n hn => by
    by_cases c : j = N
    · subst c; rw [setP_same]; exact h.ok i hi n hn
    · rw [setP_ne _ _ _ _ c]; exact h.ok j (by omega) n hn⟩
theorem vi0 : VI bk0 1 (fun _ => me0) (fun _ => noOwn) := ⟨wld0, fun _ _ _ _ h => (by cases h), fun _ _ _ _ => (by show 0 ≤ 2; omega)⟩
end
end Mv
end Go.Proofs.Ytnppahmlifnnnab

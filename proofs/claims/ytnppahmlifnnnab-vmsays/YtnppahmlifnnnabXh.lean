/- The code's pool: part, joins, join. -/
import Derived.Test.YtnppahmlifnnnabXg
import Derived.Deep.RegionWith
namespace Go.Proofs.Ytnppahmlifnnnab
open Go.RowKit
open Bd (P)

theorem half_ca {p : P} (hI : Bd.Inv p) {x k : Nat} (hx : x < 64) (ho : p.ord x = k + 2) (ht : p.tk x = false) {w : World} {b : Nat} (h : CA w b (Bd.up (Bd.st p) (x + Bd.sz (k + 1)) 1) (Bd.up (Bd.up (Bd.od p) x k) (x + Bd.sz (k + 1)) k)) : CAt w b (Bd.half p x) := by
  have al := hI.al x hx (by omega)
  rw [ho] at al
  have sp := Bd.sz_pos (k + 1)
  have ss := Bd.sz_succ (k := k + 1) (by omega)
  have o0 := hI.own x (x + Bd.sz (k + 1)) hx (by omega) (by omega) (by rw [ho, show k + 2 = k + 1 + 1 from rfl, ss]; omega)
  have t0 : p.tk (x + Bd.sz (k + 1)) = false := by
    cases c : p.tk (x + Bd.sz (k + 1))
    · rfl
    · have := hI.tk _ (by rw [show k + 2 = k + 1 + 1 from rfl, ss] at al; omega) c
      omega
  obtain ⟨s, hs⟩ : ∃ s, Bd.sz (k + 1) = s := ⟨_, rfl⟩
  rw [hs] at h sp o0 t0
  have eo : ∀ i, (Bd.half p x).ord i = if i = x + s then k + 1 else if i = x then k + 1 else p.ord i := fun i => by
    unfold Bd.half Bd.up
    rw [ho, show k + 2 - 1 = k + 1 from rfl, hs]
  have et : ∀ i, (Bd.half p x).tk i = p.tk i := fun i => rfl
  refine CA.congr h (fun i _ => ?_)
  unfold Bd.st Bd.od Bd.up
  rw [eo, et]
  by_cases c1 : i = x + s
  · subst c1
    rw [if_pos rfl, if_pos rfl, if_pos rfl, if_neg (by omega), t0, if_neg (by decide)]
    exact ⟨rfl, rfl⟩
  · rw [if_neg c1, if_neg c1, if_neg c1]
    by_cases c2 : i = x
    · subst c2
      rw [if_pos rfl, if_pos rfl, if_neg (by omega), ht, if_neg (by decide)]
      refine ⟨?_, rfl⟩
      show 1 = if p.ord i = 0 then 0 else if p.tk i = true then 2 else 1
      rw [ho, ht]; rfl
    · rw [if_neg c2, if_neg c2]
      exact ⟨rfl, rfl⟩

set_option maxRecDepth 100000 in
set_option maxHeartbeats 1000000 in
theorem cpart_any (b x k : Nat) (p : P) (w : World) (h : CAt w b p) (hI : Bd.Inv p) (hx : x < 64) (ho : p.ord x = k + 2) (ht : p.tk x = false) :
    Calls Try.prog 76 #[.pointer (some ⟨b, 0, none⟩), .int .i64 x] w fun e w' => e = .returned (.tuple #[]) ∧ CAt w' b (Bd.half p x) ∧ Frm b w w' := by
  have al := hI.al x hx (by omega)
  rw [ho] at al
  have k5 : k ≤ 5 := by have := hI.le x hx; omega
  have hb := (Bd.al_half (i := x) (k := k + 1) (by omega) (by omega) rfl al.1).2.2.2
  have y64 : x + Bd.sz (k + 1) < 64 := by
    have ss := Bd.sz_succ (k := k + 1) (by omega)
    have sp := Bd.sz_pos (k + 1)
    rw [show k + 2 = k + 1 + 1 from rfl, ss] at al; omega
  have c1 := h.cOd x hx
  have eo : Bd.od p x = k + 1 := by unfold Bd.od; rw [ho]; rfl
  rw [eo] at c1
  have cf := h.frozen
  have xI : (x : Int) < 64 := by omega
  have FIN : Hid (∀ W, CA W b (Bd.up (Bd.st p) (x + Bd.sz (k + 1)) 1) (Bd.up (Bd.up (Bd.od p) x k) (x + Bd.sz (k + 1)) k) → CAt W b (Bd.half p x)) := Hid.intro (fun W hW => half_ca hI hx ho ht hW)
  have HF := Hid.intro h
  have HH := Hid.intro (chalf_any x k hx (by omega))
  rw [hb] at HH
  obtain ⟨y, hy⟩ : ∃ y, x + Bd.sz (k + 1) = y := ⟨_, rfl⟩
  rw [hy] at HH FIN y64
  have yI : (y : Int) < 64 := by omega
  have hw1 : IntKind.i64.wrap (((k + 1 : Nat) : Int) - 1) = (k : Int) := by rw [show ((k + 1 : Nat) : Int) - 1 = (k : Int) by omega]; exact IntWalk.i64_in _ ⟨by omega, by omega⟩
  clear al hb hy h hI ho ht eo
  go_enter Try.func76, Try.ntmps76
  go_wp2_with fail
  refine wp_gen (fun W => CA W b (Bd.st p) (Bd.up (Bd.od p) x k) ∧ Frm b w W) ⟨CA.setD HF.out x k hx, (Frm.refl b w).setCell _ _⟩ ?_
  rintro W1 ⟨h1, f1⟩
  have S1 := Hid.intro (And.intro h1 f1)
  have d0 := h1.c0 y y64
  have d1 := h1.c1 y y64
  have df := h1.frozen
  clear h1 f1 c1 cf
  go_region_with ((go_at_call 127; refine (HH.out _).mono ?_; rintro e w2 ⟨rfl, hw2⟩; subst w2))
  go_end0
  exact ⟨rfl, FIN.out _ ((S1.out.1.setS y 1 y64).setD y k y64).drew, ((S1.out.2.setCell _ _).setCell _ _).drew⟩

/-- Is the other half free, too: as the code asks it. -/
theorem free2_iff {q : P} {i : Nat} (h0 : 0 < q.ord i) : Bd.free2 q i = (decide (Bd.od q i < 6) && (decide (Bd.st q (Bd.bud i (Bd.sz (Bd.od q i + 1))) = 1) && decide (Bd.od q (Bd.bud i (Bd.sz (Bd.od q i + 1))) = Bd.od q i))) := by
  have e : Bd.od q i + 1 = q.ord i := by unfold Bd.od; omega
  rw [e]
  unfold Bd.free2
  obtain ⟨f, hf⟩ : ∃ f, Bd.bud i (Bd.sz (q.ord i)) = f := ⟨_, rfl⟩
  rw [hf]
  apply Bool.eq_iff_iff.2
  simp only [Bool.and_eq_true, decide_eq_true_eq, Bool.not_eq_true', Bd.st_one]
  have e2 : Bd.od q f = q.ord f - 1 := rfl
  constructor
  · rintro ⟨a, b, c⟩; exact ⟨by omega, ⟨by omega, c⟩, by omega⟩
  · rintro ⟨a, ⟨b, c⟩, d⟩; exact ⟨by omega, by omega, c⟩
set_option maxRecDepth 100000 in
set_option maxHeartbeats 1000000 in
theorem cjoins_any (b i : Nat) (q : P) (w : World) (h : CAt w b q) (hI : Bd.Inv q) (hi : i < 64) (h0 : 0 < q.ord i) :
    Calls Try.prog 78 #[.pointer (some ⟨b, 0, none⟩), .int .i64 i] w fun e w' => e = .returned (.bool (Bd.free2 q i)) ∧ ∃ n, w' = w.drewN n := by
  have c1 := h.cOd i hi
  have iI : (i : Int) < 64 := by omega
  have FI := Hid.intro (free2_iff h0)
  have al := (hI.al i hi h0).1
  have e : Bd.od q i + 1 = q.ord i := by unfold Bd.od; omega
  rw [← e] at al
  obtain ⟨k, hk⟩ : ∃ k, Bd.od q i = k := ⟨_, rfl⟩
  rw [hk] at c1 FI al e
  have k6 : k ≤ 6 := by have := hI.le i hi; omega
  by_cases hlt : k < 6
  · have hltI : (k : Int) < 6 := by omega
    have BL := (Bd.bud_lt (i := i) (k := k + 1) (by omega) (by omega) hi al).1
    have HH := Hid.intro (chalf_any i k hi k6)
    obtain ⟨f, hf⟩ : ∃ f, Bd.bud i (Bd.sz (k + 1)) = f := ⟨_, rfl⟩
    rw [hf] at HH FI BL
    rw [decide_eq_true hlt, Bool.true_and] at FI
    have fI : (f : Int) < 64 := by omega
    have d0 := h.cSt f BL
    have d1 := h.cOd f BL
    obtain ⟨s, hs⟩ : ∃ s, Bd.st q f = s := ⟨_, rfl⟩
    obtain ⟨o, ho⟩ : ∃ o, Bd.od q f = o := ⟨_, rfl⟩
    rw [hs] at d0 FI
    rw [ho] at d1 FI
    clear hs ho hf al e h hI hk h0
    by_cases e1 : s = 1
    · by_cases e2 : o = k
      · have FR : Hid (Bd.free2 q i = true) := Hid.intro (by rw [FI.out, decide_eq_true e1, decide_eq_true e2]; rfl)
        subst e1 e2
        clear FI
        go_enter Try.func78, Try.ntmps78
        go_wp2_with fail
        go_quiet ((go_at_call 127; refine Calls.quiet_of_same (HH.out _)))
        go_wp2_with fail
        go_ret
        rw [FR.out]; exact ⟨rfl, _, rfl⟩
      · have FR : Hid (Bd.free2 q i = false) := Hid.intro (by rw [FI.out, decide_eq_false e2]; simp)
        have e2' : ((o : Int) == (k : Int)) = false := by simp; omega
        subst e1
        clear FI e2
        go_enter Try.func78, Try.ntmps78
        go_wp2_with fail
        go_quiet ((go_at_call 127; refine Calls.quiet_of_same (HH.out _)))
        go_wp2_with fail
        go_ret
        rw [FR.out]; exact ⟨rfl, _, rfl⟩
    · have FR : Hid (Bd.free2 q i = false) := Hid.intro (by rw [FI.out, decide_eq_false e1]; rfl)
      have e1' : ((s : Int) == 1) = false := by simp; omega
      clear FI e1
      go_enter Try.func78, Try.ntmps78
      go_wp2_with fail
      go_quiet ((go_at_call 127; refine Calls.quiet_of_same (HH.out _)))
      go_wp2_with fail
      go_ret
      rw [FR.out]; exact ⟨rfl, _, rfl⟩
  · have hltI : decide ((k : Int) < 6) = false := by simp; omega
    have FR : Hid (Bd.free2 q i = false) := Hid.intro (by rw [FI.out, decide_eq_false hlt]; rfl)
    clear FI hlt al e h hI hk h0
    go_enter Try.func78, Try.ntmps78
    go_wp2_with fail
    go_quiet (fail)
    go_wp2_with fail
    go_ret
    rw [FR.out]; exact ⟨rfl, _, rfl⟩

theorem join_ca {q : P} {lo hh : Nat} (hl0 : 0 < q.ord lo) (hlt : q.tk lo = false) (hne : lo ≠ hh) {w : World} {b : Nat} (h : CA w b (Bd.up (Bd.st q) hh 0) (Bd.up (Bd.up (Bd.od q) lo (Bd.od q lo + 1)) hh 0)) : CAt w b (Bd.join q lo hh) := by
  have eo : ∀ x, (Bd.join q lo hh).ord x = if x = lo then q.ord lo + 1 else if x = hh then 0 else q.ord x := fun x => rfl
  have et : ∀ x, (Bd.join q lo hh).tk x = q.tk x := fun x => rfl
  refine CA.congr h (fun i _ => ?_)
  unfold Bd.st Bd.od Bd.up
  rw [eo, et]
  by_cases c1 : i = lo
  · subst c1
    rw [if_pos rfl, if_neg hne, if_neg hne, if_pos rfl, if_neg (by omega)]
    refine ⟨?_, by show q.ord i + 1 - 1 = q.ord i - 1 + 1; omega⟩
    show _ = if q.ord i = 0 then 0 else if q.tk i = true then 2 else 1
    rw [hlt, if_neg (show ¬ q.ord i = 0 by omega)]
  · rw [if_neg c1]
    by_cases c2 : i = hh
    · subst c2
      rw [if_pos rfl, if_pos rfl, if_pos rfl, if_pos rfl]
      exact ⟨rfl, rfl⟩
    · rw [if_neg c2, if_neg c2, if_neg c2, if_neg c1]
      exact ⟨rfl, rfl⟩
set_option maxRecDepth 100000 in
set_option maxHeartbeats 1000000 in
theorem cjoin_any (b i : Nat) (q : P) (w : World) (h : CAt w b q) (hI : Bd.Inv q) (hi : i < 64) (h0 : 0 < q.ord i) (ht : q.tk i = false) (hf2 : Bd.free2 q i = true) :
    Calls Try.prog 79 #[.pointer (some ⟨b, 0, none⟩), .int .i64 i] w fun e w' => e = .returned (.int .i64 ((min i (Bd.bud i (Bd.sz (q.ord i))) : Nat) : Int)) ∧ CAt w' b (Bd.join q (min i (Bd.bud i (Bd.sz (q.ord i)))) (max i (Bd.bud i (Bd.sz (q.ord i))))) ∧ Frm b w w' := by
  have c1 := h.cOd i hi
  have iI : (i : Int) < 64 := by omega
  have al := (hI.al i hi h0).1
  have e : Bd.od q i + 1 = q.ord i := by unfold Bd.od; omega
  unfold Bd.free2 at hf2
  simp only [Bool.and_eq_true, decide_eq_true_eq, Bool.not_eq_true'] at hf2
  obtain ⟨f1, f2, f3⟩ := hf2
  obtain ⟨k, hk⟩ : ∃ k, Bd.od q i = k := ⟨_, rfl⟩
  rw [hk] at c1 e
  have HH := Hid.intro (chalf_any i k hi (by omega))
  have BL := (Bd.bud_lt (i := i) (k := k + 1) (by omega) (by omega) hi (by rw [e]; exact al)).1
  have BB := (Bd.bud_bud (i := i) (k := k + 1) (by omega) (by omega) (by rw [e]; exact al)).2.2
  rw [← e] at f2 f3 ⊢
  obtain ⟨f, hf⟩ : ∃ f, Bd.bud i (Bd.sz (k + 1)) = f := ⟨_, rfl⟩
  rw [hf] at HH BL BB f2 f3 ⊢
  have fI : (f : Int) < 64 := by omega
  have HF := Hid.intro h
  have cf := h.frozen
  have hw1 : IntKind.i64.wrap ((k : Int) + 1) = (k : Int) + 1 := IntWalk.i64_in _ ⟨by omega, by omega⟩
  have of : Bd.od q f = k := by unfold Bd.od; omega
  have d0 := h.cSt i hi
  have d1 := h.cSt f BL
  have d2 := h.cOd f BL
  have Of := of
  have Oi := hk
  generalize Bd.st q i = s0 at d0
  generalize Bd.st q f = s1 at d1
  rw [of] at d2
  by_cases c : f < i
  · have mm : min i f = f ∧ max i f = i := ⟨by omega, by omega⟩
    rw [mm.1, mm.2]
    have FIN : Hid (∀ W, CA W b (Bd.up (Bd.st q) i 0) (Bd.up (Bd.up (Bd.od q) f (k + 1)) i 0) → CAt W b (Bd.join q f i)) := Hid.intro (fun W hW => join_ca (by omega) (by assumption) (by omega) (by rw [Of]; exact hW))
    have cI : (f : Int) < (i : Int) := by omega
    have cI' : ¬ (i : Int) < (f : Int) := by omega
    clear al e f1 f2 f3 hk hf mm h hI h0 ht of Of Oi
    go_enter Try.func79, Try.ntmps79
    go_wp2_with fail
    refine (HH.out _).mono ?_
    rintro e w2 ⟨rfl, hw2⟩
    subst w2
    go_wp2_with fail
    go_ret
    exact ⟨rfl, FIN.out _ (((CA.setD HF.out f (k + 1) (by omega)).setS i 0 (by omega)).setD i 0 (by omega)), (((Frm.refl b w).setCell _ _).setCell _ _).setCell _ _⟩
  · have mm : min i f = i ∧ max i f = f := ⟨by omega, by omega⟩
    rw [mm.1, mm.2]
    have FIN : Hid (∀ W, CA W b (Bd.up (Bd.st q) f 0) (Bd.up (Bd.up (Bd.od q) i (k + 1)) f 0) → CAt W b (Bd.join q i f)) := Hid.intro (fun W hW => join_ca (by omega) (by assumption) (by omega) (by rw [Oi]; exact hW))
    have cI : (i : Int) < (f : Int) := by omega
    have cI' : ¬ (f : Int) < (i : Int) := by omega
    clear al e f1 f2 f3 hk hf mm h hI h0 ht of Of Oi
    go_enter Try.func79, Try.ntmps79
    go_wp2_with fail
    refine (HH.out _).mono ?_
    rintro e w2 ⟨rfl, hw2⟩
    subst w2
    go_wp2_with fail
    go_ret
    exact ⟨rfl, FIN.out _ (((CA.setD HF.out i (k + 1) (by omega)).setS f 0 (by omega)).setD f 0 (by omega)), (((Frm.refl b w).setCell _ _).setCell _ _).setCell _ _⟩
end Go.Proofs.Ytnppahmlifnnnab

/- The code's pipes: setters; Drop. -/
import Derived.Test.YtmneolabgajhmaaGreatPa
import Derived.Deep.Cut
namespace Go.Proofs.YtmneolabgajhmaaGreat
open Go.RowKit
open Pp (Pi)

theorem Pp.results4 {fn : Func} {t u v x : Tmp} (h : fn.results = #[.tmp t, .tmp u, .tmp v, .tmp x]) (tmps : Array Value) (P : Program) (w : World) :
    (results fn tmps).run P w = .ok (.tuple #[tmps.getD t undef, tmps.getD u undef, tmps.getD v undef, tmps.getD x undef]) w := by
  simp [results, h]
theorem Pp.below_drewN (B : Nat) (w : World) (n : Nat) : Below B w (w.drewN n) := by
  have := Below.refl B w
  exact ⟨this.os, this.tape, this.output, this.size, this.block⟩
theorem Pp.frm_setCells {b : Nat} : ∀ (vs : List Value) (o : Nat) {u w : World}, Frm b u w → Frm b u (w.setCells b o vs)
  | [], _, _, _, h => h
  | v :: r, o, u, w, h => by rw [World.setCells]; exact Pp.frm_setCells r (o + 1) (h.setCell o v)
theorem Pp.blk_setCells (b : Nat) : ∀ (vs : List Value) (o : Nat) (w : World) (C : Array Value) {T : TypeId}, w.heap[b]? = some (.cells C T (0, 0)) → ∃ C', (w.setCells b o vs).heap[b]? = some (.cells C' T (0, 0)) ∧ C'.size = C.size
  | [], _, _, C, _, h => ⟨C, h, rfl⟩
  | v :: r, o, w, C, _, h => by
    rw [World.setCells]
    obtain ⟨C', h1, h2⟩ := Pp.blk_setCells b r (o + 1) _ _ (blk_set h o v)
    exact ⟨C', h1, by simpa using h2⟩
def Pp.setT (x : Pi) (wr : Bool) (k : Nat) : Pi := if wr then { x with writes := k } else { x with reads := k }
/-- A pipe without bytes, as it lies. -/
def Pp.noA (r u : Nat) : Array Value := #[.int .u8 0, .int .u8 0, .int .u8 0, .int .u8 0, .int .u8 0, .int .u8 0, .int .u8 0, .int .u8 0, .int .u8 0, .int .u8 0, .int .u8 0, .int .u8 0, .int .i64 0, .int .i64 (r : Int), .int .i64 (u : Int)]
section
variable {w : World} {b : Nat} {S : Nat → Pi}
theorem Pp.byt_lt {t : ByteArray} {j : Nat} {v : Value} (h : (Pp.byL t)[j]? = some v) : j < t.size := by
  have := (List.getElem?_eq_some_iff.1 h).1
  rw [Pp.byL_len] at this
  exact this
theorem PAt.setT (h : PAt w b S) (n : Nat) (hn : n < 8) (wr : Bool) (k : Nat) : PAt (w.setCell ⟨b, n * 15 + (if wr then 14 else 13), none⟩ (.int .i64 (k : Int))) b (Pp.put S n (Pp.setT (S n) wr k)) := by
  obtain ⟨C, T, h1, h2⟩ := h.blk
  have ne : ∀ o, o ≠ n * 15 + (if wr then 14 else 13) → (w.setCell ⟨b, n * 15 + (if wr then 14 else 13), none⟩ (.int .i64 (k : Int))).cell? ⟨b, o, none⟩ = w.cell? ⟨b, o, none⟩ := fun o ho => cell_set_ne h1 _ _ _ (Ne.symm ho)
  have eq : (w.setCell ⟨b, n * 15 + (if wr then 14 else 13), none⟩ (.int .i64 (k : Int))).cell? ⟨b, n * 15 + (if wr then 14 else 13), none⟩ = some (.int .i64 (k : Int)) := cell_set_same h1 _ _ (by split <;> omega)
  have tx : (Pp.setT (S n) wr k).tx = (S n).tx := by cases wr <;> rfl
  refine ⟨⟨_, T, blk_set h1 _ _, by simpa using h2⟩, fun m hm j v hv => ?_, fun m hm => ?_, fun m hm => ?_, fun m hm => ?_, fun m hm => ?_⟩
  · by_cases c : m = n
    · subst c
      rw [Pp.put_same, tx] at hv
      have := Pp.byt_lt hv
      have := h.small m hm
      rw [ne _ (by split <;> omega)]
      exact h.byt m hm j v hv
    · rw [Pp.put_ne _ _ _ _ c] at hv
      have := Pp.byt_lt hv
      have := h.small m hm
      rw [ne _ (by split <;> omega)]
      exact h.byt m hm j v hv
  · rw [ne _ (by split <;> omega), h.many m hm]
    by_cases c : m = n
    · subst c; rw [Pp.put_same, tx]
    · rw [Pp.put_ne _ _ _ _ c]
  · by_cases c : m = n
    · subst c
      rw [Pp.put_same]
      cases wr
      · exact eq
      · rw [ne _ (by simp)]; exact h.reads m hm
    · rw [Pp.put_ne _ _ _ _ c, ne _ (by split <;> omega), h.reads m hm]
  · by_cases c : m = n
    · subst c
      rw [Pp.put_same]
      cases wr
      · rw [ne _ (by simp)]; exact h.writes m hm
      · exact eq
    · rw [Pp.put_ne _ _ _ _ c, ne _ (by split <;> omega), h.writes m hm]
  · by_cases c : m = n
    · subst c; rw [Pp.put_same, tx]; exact h.small m hm
    · rw [Pp.put_ne _ _ _ _ c]; exact h.small m hm
theorem PAt.setNo (h : PAt w b S) (n : Nat) (hn : n < 8) (r u : Nat) : PAt (w.setCells b (n * 15) (Pp.noA r u).toList) b (Pp.put S n ⟨⟨#[]⟩, r, u⟩) := by
  obtain ⟨C, T, h1, h2⟩ := h.blk
  obtain ⟨C', k1, k2⟩ := Pp.blk_setCells b (Pp.noA r u).toList (n * 15) w C h1
  have out : ∀ o, o < n * 15 ∨ n * 15 + 15 ≤ o → (w.setCells b (n * 15) (Pp.noA r u).toList).cell? ⟨b, o, none⟩ = w.cell? ⟨b, o, none⟩ := fun o ho => World.cell?_setCells_out b _ (n * 15) w ⟨b, o, none⟩ (fun _ _ => by show o < _ ∨ _ ≤ o; exact ho)
  have inn : ∀ j (hj : j < 15), (w.setCells b (n * 15) (Pp.noA r u).toList).cell? ⟨b, n * 15 + j, none⟩ = some ((Pp.noA r u).toList[j]'hj) := fun j hj => World.cell?_setCells_in b (Pp.noA r u).toList (n * 15) w (fun i hi => h.isS _ (by have : i < 15 := hi; omega)) j hj
  refine ⟨⟨C', T, k1, by omega⟩, fun m hm j v hv => ?_, fun m hm => ?_, fun m hm => ?_, fun m hm => ?_, fun m hm => ?_⟩
  · by_cases c : m = n
    · subst c
      rw [Pp.put_same] at hv
      exact absurd (Pp.byt_lt hv) (by show ¬ j < 0; omega)
    · rw [Pp.put_ne _ _ _ _ c] at hv
      have := Pp.byt_lt hv
      have := h.small m hm
      rw [out _ (by omega)]
      exact h.byt m hm j v hv
  · by_cases c : m = n
    · subst c; rw [Pp.put_same]; exact inn 12 (by omega)
    · rw [Pp.put_ne _ _ _ _ c, out _ (by omega)]; exact h.many m hm
  · by_cases c : m = n
    · subst c; rw [Pp.put_same]; exact inn 13 (by omega)
    · rw [Pp.put_ne _ _ _ _ c, out _ (by omega)]; exact h.reads m hm
  · by_cases c : m = n
    · subst c; rw [Pp.put_same]; exact inn 14 (by omega)
    · rw [Pp.put_ne _ _ _ _ c, out _ (by omega)]; exact h.writes m hm
  · by_cases c : m = n
    · subst c; rw [Pp.put_same]; exact Nat.zero_le _
    · rw [Pp.put_ne _ _ _ _ c]; exact h.small m hm
theorem PAt.there15 (h : PAt w b S) (n : Nat) (hn : n < 8) (r u : Nat) : w.there b (n * 15) (Pp.noA r u).size := fun j hj => by
  have : j < 15 := hj
  exact ⟨h.isS _ (by omega), h.frozen _⟩
theorem Pp.info_pipe (r u : Nat) : (Tryz.prog.info? 44).map (·.size) = some (Pp.noA r u).size := by
  show _ = some 15
  kernel_rfl
theorem Pp.noA_one (r u : Nat) : (Pp.noA r u).all (·.oneCell') = true := by simp [Pp.noA, Value.oneCell']
end
section
variable {ops : Array Oper} {rest : List Oper} {x : Oper} {a : Act} {w : World} {Q : Exit → Act → World → Prop}
set_option maxRecDepth 100000 in
theorem Pp.wp_build0 (hgd : x.guard = none) (ho : x.op = .build 44 #[]) (h : wpList Tryz.prog ops Q rest (a.put x.dst (.agg (Pp.noA 0 0))) w) : wpList Tryz.prog ops Q (x :: rest) a w :=
  wpList_plain hgd fun _ hK => by
    unfold Oper.wp execOp
    simp only [ho]
    simp [go_sem]
    exact hK _ _ h
set_option maxRecDepth 100000 in
theorem Pp.wp_build2 (hgd : x.guard = none) (ho : x.op = .build 44 #[(2, .const (.int .i64 1)), (3, .const (.int .i64 1))]) (h : wpList Tryz.prog ops Q rest (a.put x.dst (.agg (Pp.noA 1 1))) w) : wpList Tryz.prog ops Q (x :: rest) a w :=
  wpList_plain hgd fun _ hK => by
    unfold Oper.wp execOp
    simp only [ho]
    simp [go_sem]
    exact hK _ _ h
end
/-- Open once more; once less. -/
def Pp.shaF (S : Nat → Pi) (z : Int) (wr : Bool) : Nat → Pi := if Pp.opE S z wr = 0 then Pp.put S z.toNat (Pp.setT (S z.toNat) wr (Pp.tim (S z.toNat) wr + 1)) else S
def Pp.less (x : Pi) (wr : Bool) : Pi := if Pp.thr (Pp.setT x wr (Pp.tim x wr - 1)) then Pp.setT x wr (Pp.tim x wr - 1) else Pi.no
def Pp.droF (S : Nat → Pi) (z : Int) (wr : Bool) : Nat → Pi := if Pp.opE S z wr = 0 then Pp.put S z.toNat (Pp.less (S z.toNat) wr) else S
theorem PAt.tim {w : World} {b : Nat} {S : Nat → Pi} (h : PAt w b S) (n : Nat) (hn : n < 8) (wr : Bool) : w.cell? ⟨b, n * 15 + (if wr then 14 else 13), none⟩ = some (.int .i64 (Pp.tim (S n) wr : Int)) := by
  cases wr
  · exact h.reads n hn
  · exact h.writes n hn
set_option maxRecDepth 100000 in
set_option maxHeartbeats 1000000 in
theorem pdrop_any (b : Nat) (z : Int) (wr : Bool) (S : Nat → Pi) (w : World) (h : PAt w b S) (hb : ∀ n, n < 8 → Pp.tim (S n) wr < 2 ^ 60) :
    Calls Tryz.prog 105 #[.pointer (some ⟨b, 0, none⟩), .int .i64 z, .bool wr] w fun e w' => e = .returned (errV (Pp.opE S z wr)) ∧ PAt w' b (Pp.droF S z wr) ∧ Frm b w w' := by
  have HF := Hid.intro h
  by_cases c : Pp.opE S z wr = 0
  · obtain ⟨n, rfl, n8, _, t0⟩ := Pp.opE_ok c
    have EP : Hid (Pp.opE S (n : Int) wr = 0 ∧ pptE b (n : Int) 0 = .pointer (some ⟨b, n * 15, none⟩)) := Hid.intro ⟨c, pptE_ok b n⟩
    have ED : Pp.droF S (n : Int) wr = Pp.put S n (Pp.less (S n) wr) := by unfold Pp.droF; rw [if_pos c, Int.toNat_natCast]
    have c0 := h.tim n n8 wr
    have hl := hb n n8
    have T := Hid.intro (ptimes_any b (n * 15) wr)
    have S1 : Hid (PAt (w.setCell ⟨b, n * 15 + (if wr then 14 else 13), none⟩ (.int .i64 ((Pp.tim (S n) wr - 1 : Nat) : Int))) b (Pp.put S n (Pp.setT (S n) wr (Pp.tim (S n) wr - 1)))) := Hid.intro (h.setT n n8 wr _)
    have cf := h.frozen
    have HL : Hid (Pp.less (S n) wr = if Pp.thr (Pp.setT (S n) wr (Pp.tim (S n) wr - 1)) then Pp.setT (S n) wr (Pp.tim (S n) wr - 1) else Pi.no) := Hid.intro rfl
    generalize hX : Pp.setT (S n) wr (Pp.tim (S n) wr - 1) = X at S1 HL
    clear hX
    generalize (if wr then 14 else 13) = o at c0 T S1
    generalize Pp.tim (S n) wr = k at *
    obtain ⟨q, rfl⟩ : ∃ q, k = q + 1 := ⟨k - 1, by omega⟩
    have hw : IntKind.i64.wrap ((q + 1 : Nat) - 1 : Int) = (q : Int) := (IntWalk.i64_in _ ⟨by omega, by omega⟩).trans (by omega)
    rw [Nat.add_sub_cancel] at S1
    clear h c hb t0 hl
    obtain ⟨k1, hk1⟩ : ∃ k1 : Int, ((q + 1 : Nat) : Int) = k1 := ⟨_, rfl⟩
    rw [hk1] at c0 hw
    clear hk1
    go_enter Tryz.func105, Tryz.ntmps105
    go_wp2_with fail
    refine (pop_any b n wr S _ HF.out).mono ?_
    rintro e w1 ⟨rfl, hw1⟩
    subst w1
    rw [EP.out.1, EP.out.2, errV_zero]
    go_wp2_with fail
    refine (T.out _).mono ?_
    rintro e w1 ⟨rfl, hw1⟩
    subst w1
    go_wp2_with fail
    have TH := Hid.intro (pthere_any b n _ _ S1.out n8)
    rw [Pp.put_same] at TH
    refine TH.out.mono ?_
    rintro e w1 ⟨rfl, hw1⟩
    subst w1
    have F1 : Hid (Frm b w (w.setCell ⟨b, n * 15 + o, none⟩ (.int .i64 (q : Int)))) := Hid.intro ((Frm.refl b w).setCell _ _)
    clear TH T
    cases hth : Pp.thr X
    · have TH := Hid.intro (S1.out.there15 n n8 0 0)
      have HS := Hid.intro (Pp.info_pipe 0 0)
      have H1 := Hid.intro (Pp.noA_one 0 0)
      have FIN : Hid (PAt ((w.setCell ⟨b, n * 15 + o, none⟩ (.int .i64 (q : Int))).setCells b (n * 15) (Pp.noA 0 0).toList) b (Pp.droF S (n : Int) wr) ∧ Frm b w ((w.setCell ⟨b, n * 15 + o, none⟩ (.int .i64 (q : Int))).setCells b (n * 15) (Pp.noA 0 0).toList)) := Hid.intro (by
        have := S1.out.setNo n n8 0 0
        rw [Pp.put_put] at this
        rw [ED, HL.out, hth, if_neg (by decide)]
        exact ⟨this, Pp.frm_setCells _ _ F1.out⟩)
      obtain ⟨A, hA⟩ : ∃ A, Pp.noA 0 0 = A := ⟨_, rfl⟩
      rw [hA] at FIN TH HS H1
      clear c0 cf hw S1 F1 HL ED hth
      generalize w.setCell ⟨b, n * 15 + o, none⟩ (.int .i64 (q : Int)) = W at *
      go_wp2_with (first | (refine Pp.wp_build0 rfl rfl ?_; rw [hA]) | (refine wpList_store_mid rfl 44 _ _ rfl b (n * 15) A rfl rfl TH.out HS.out H1.out ?_))
      go_ret
      rw [EP.out.1]
      exact ⟨rfl, FIN.out⟩
    · have FIN : Hid (PAt (w.setCell ⟨b, n * 15 + o, none⟩ (.int .i64 (q : Int))) b (Pp.droF S (n : Int) wr)) := Hid.intro (by
        rw [ED, HL.out, hth, if_pos rfl]
        exact S1.out)
      clear c0 cf hw S1 HL ED hth
      generalize w.setCell ⟨b, n * 15 + o, none⟩ (.int .i64 (q : Int)) = W at *
      go_wp2_with fail
      go_ret
      rw [EP.out.1]
      exact ⟨rfl, FIN.out, F1.out⟩
  · have E2 : Hid (pptE b z (Pp.opE S z wr) = .pointer none ∧ errV (Pp.opE S z wr) = .iface 90 (.int .i64 (Pp.opE S z wr)) ∧ Pp.droF S z wr = S) := Hid.intro ⟨pptE_no c, errV_ne c, if_neg c⟩
    clear h c hb
    go_enter Tryz.func105, Tryz.ntmps105
    go_wp2_with fail
    refine (pop_any b z wr S _ HF.out).mono ?_
    rintro e w1 ⟨rfl, hw1⟩
    subst w1
    rw [E2.out.1, E2.out.2.1]
    go_wp2_with fail
    go_ret
    rw [E2.out.2.2, E2.out.2.1]
    exact ⟨rfl, HF.out, Frm.refl _ _⟩
end Go.Proofs.YtmneolabgajhmaaGreat
